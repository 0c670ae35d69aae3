package nat

import (
	"math"
	"math/big"
	"math/rand/v2"
	"slices"
	"testing"

	"letterbag/api"
)

// checkQuotient fails unless DivMod divides a by b.
func checkQuotient(t *testing.T, a, b []uint32) {
	t.Helper()
	want, wantRest := new(big.Int).QuoRem(exact(a), exact(b), new(big.Int))
	quotient, rest, e := DivMod(a, b)
	if e != api.OK || !Right(quotient) || !Right(rest) || exact(quotient).Cmp(want) != 0 || exact(rest).Cmp(wantRest) != 0 {
		t.Fatalf("DivMod(%v, %v) = %v, %v, %d", a, b, quotient, rest, e)
	}
}

// P3.3
func TestDivMod(t *testing.T) {
	for _, a := range numbers() {
		for _, b := range numbers() {
			if len(b) > 0 {
				checkQuotient(t, a, b)
			}
			if quotient, rest, e := DivMod(a, nil); len(quotient) != 0 || len(rest) != 0 || e != api.ErrArg {
				t.Fatalf("by zero: %v, %v, %d", quotient, rest, e)
			}
		}
	}
}

// P3.3
func TestDivModEdges(t *testing.T) {
	const most = math.MaxUint32
	for i, c := range []struct{ a, b, quotient, rest []uint32 }{
		{nil, []uint32{1}, nil, nil},
		{nil, greatest(), nil, nil},
		{[]uint32{5}, []uint32{5}, []uint32{1}, nil},
		{[]uint32{5}, []uint32{6}, nil, []uint32{5}},
		{[]uint32{5}, []uint32{0, 1}, nil, []uint32{5}},
		{[]uint32{5, 6}, []uint32{6, 6}, nil, []uint32{5, 6}},
		{[]uint32{7}, []uint32{2}, []uint32{3}, []uint32{1}},
		{[]uint32{0, 0, 1}, []uint32{1}, []uint32{0, 0, 1}, nil},
		{[]uint32{0, 0, 1}, []uint32{0, 1}, []uint32{0, 1}, nil},
		{[]uint32{most, most}, []uint32{most}, []uint32{1, 1}, nil},
		{greatest(), []uint32{1}, greatest(), nil},
		{greatest(), greatest(), []uint32{1}, nil},
		{bit(32767), bit(32767), []uint32{1}, nil},
		{greatest(), bit(32767), []uint32{1}, append(repeated(MaxLimbs-1, most), most>>1)},
		// The quotients of the highest limbs here are too high by 1 or 2, or more than a limb.
		{[]uint32{0, 0, 1 << 31}, []uint32{most, 1 << 31}, []uint32{most - 1}, []uint32{most - 1, 2}},
		{[]uint32{3, 0, 1 << 31}, []uint32{1, 0, 1 << 29}, []uint32{3}, []uint32{0, 0, 1 << 29}},
		{[]uint32{0, most - 1, 1 << 31}, []uint32{most, 1 << 31}, []uint32{most}, []uint32{most, 1<<31 - 1}},
		{[]uint32{0, 0, 1<<31 - 1}, []uint32{most, 1 << 31}, []uint32{most - 3}, []uint32{most - 3, 4}},
	} {
		if got, rest, e := DivMod(c.a, c.b); !slices.Equal(got, c.quotient) || !slices.Equal(rest, c.rest) || e != api.OK {
			t.Errorf("DivMod %d = %v, %v, %d", i, got, rest, e)
		}
		checkQuotient(t, c.a, c.b)
	}
}

// P3.3, P3.6: each dividend is a product and a rest, many of them with limbs for which guesses are off.
func TestGuessedQuotients(t *testing.T) {
	random := rand.New(rand.NewPCG(5, 6))
	for range 40000 {
		b := some(random, 1+random.IntN(6))
		product, _ := Mul(b, some(random, random.IntN(6)))
		_, less, _ := DivMod(some(random, random.IntN(8)), b)
		if random.IntN(2) == 0 {
			less, _ = Sub(b, Of(1))
		}
		a, e := Add(product, less)
		if e != api.OK {
			t.Fatal(e)
		}
		checkQuotient(t, a, b)
		checkQuotient(t, product, b)
		checkQuotient(t, some(random, random.IntN(10)), b)
	}
}

// P3.6: the dividend is the quotient times the divisor, plus the remainder, which is less than the divisor.
func TestDividend(t *testing.T) {
	for _, a := range numbers() {
		for _, b := range numbers() {
			if len(b) == 0 {
				continue
			}
			quotient, rest, _ := DivMod(a, b)
			if order, e := Cmp(rest, b); order != -1 || e != api.OK {
				t.Fatal(a, b, rest)
			}
			product, _ := Mul(quotient, b)
			if sum, e := Add(product, rest); !slices.Equal(sum, a) || e != api.OK {
				t.Fatal(a, b, sum)
			}
		}
	}
}
