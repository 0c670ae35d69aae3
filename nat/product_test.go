package nat

import (
	"math"
	"math/big"
	"slices"
	"testing"

	"letterbag/api"
)

// P3.2
func TestMul(t *testing.T) {
	for _, a := range numbers() {
		for _, b := range numbers() {
			product, e := Mul(a, b)
			check(t, "Mul", product, e, new(big.Int).Mul(exact(a), exact(b)))
		}
	}
}

// P3.2
func TestMulEdges(t *testing.T) {
	for i, c := range []struct {
		a, b, want []uint32
		e          api.Errno
	}{
		{nil, nil, nil, api.OK},
		{nil, greatest(), nil, api.OK},
		{greatest(), nil, nil, api.OK},
		{greatest(), []uint32{1}, greatest(), api.OK},
		{[]uint32{1}, greatest(), greatest(), api.OK},
		{greatest(), []uint32{2}, nil, api.ErrLong},
		{[]uint32{2}, greatest(), nil, api.ErrLong},
		{greatest(), greatest(), nil, api.ErrLong},
		{[]uint32{0, 1}, []uint32{0, 1}, []uint32{0, 0, 1}, api.OK},
		{[]uint32{math.MaxUint32}, []uint32{math.MaxUint32}, []uint32{1, math.MaxUint32 - 1}, api.OK},
		{[]uint32{math.MaxUint32, math.MaxUint32}, []uint32{math.MaxUint32, math.MaxUint32}, []uint32{1, 0, math.MaxUint32 - 1, math.MaxUint32}, api.OK},
		{bit(16384), bit(16383), bit(32767), api.OK},
		{bit(16384), bit(16384), nil, api.ErrLong}, // a limb too many
		{bit(32767), []uint32{2}, nil, api.ErrLong},
		{bit(32766), []uint32{2}, bit(32767), api.OK},
	} {
		if got, e := Mul(c.a, c.b); !slices.Equal(got, c.want) || e != c.e {
			t.Errorf("Mul %d = %v, %d", i, got, e)
		}
	}
}

// P3.4
func TestPow(t *testing.T) {
	for _, a := range numbers() {
		x, want := exact(a), big.NewInt(1)
		for n := range 40 {
			power, e := Pow(a, n)
			check(t, "Pow", power, e, want)
			if want.BitLen() <= 2*32*MaxLimbs { // those that are longer are too long all the same
				want = new(big.Int).Mul(want, x)
			}
		}
	}
	for n := 40; n < 1200; n += 1 + n%7 {
		for _, base := range []int64{2, 3, 10, 12345, math.MaxUint32, 1 << 32, 1<<62 + 1} {
			power, e := Pow(Of(uint64(base)), n)
			check(t, "Pow", power, e, new(big.Int).Exp(big.NewInt(base), big.NewInt(int64(n)), nil))
		}
	}
}

// P3.4
func TestPowEdges(t *testing.T) {
	one := []uint32{1}
	for i, c := range []struct {
		a    []uint32
		n    int
		want []uint32
		e    api.Errno
	}{
		{nil, 0, one, api.OK},
		{[]uint32{}, 0, one, api.OK},
		{nil, 1, nil, api.OK},
		{nil, math.MaxInt, nil, api.OK},
		{one, 0, one, api.OK},
		{one, math.MaxInt, one, api.OK},
		{one, math.MaxInt - 1, one, api.OK},
		{greatest(), 0, one, api.OK},
		{greatest(), 1, greatest(), api.OK},
		{greatest(), 2, nil, api.ErrLong},
		{greatest(), math.MaxInt, nil, api.ErrLong},
		{[]uint32{2}, 32767, bit(32767), api.OK},
		{[]uint32{2}, 32768, nil, api.ErrLong},
		{[]uint32{2}, 65536, nil, api.ErrLong},
		{[]uint32{2}, math.MaxInt, nil, api.ErrLong},
		{[]uint32{0, 1}, 1023, bit(1023 * 32), api.OK},
		{[]uint32{0, 1}, 1024, nil, api.ErrLong},
		{bit(16383), 2, bit(32766), api.OK},
		{bit(16384), 2, nil, api.ErrLong},
		{nil, -1, nil, api.ErrArg},
		{one, -1, nil, api.ErrArg},
		{one, math.MinInt, nil, api.ErrArg},
		{greatest(), -2, nil, api.ErrArg},
	} {
		if got, e := Pow(c.a, c.n); !slices.Equal(got, c.want) || e != c.e {
			t.Errorf("Pow %d = %v, %d", i, got, e)
		}
	}
	if power, e := Pow(Of(10), maxDigits-1); len(power) != MaxLimbs || e != api.OK {
		t.Error(len(power), e)
	}
	if power, e := Pow(Of(10), maxDigits); len(power) != 0 || e != api.ErrLong {
		t.Error(len(power), e)
	}
}

// P3.6: sums and products do not depend on the order of their parts, and products of a sum are the sums of the products.
func TestOrderOfParts(t *testing.T) {
	must := func(a []uint32, e api.Errno) []uint32 {
		t.Helper()
		if e != api.OK {
			t.Fatal(e)
		}
		return a
	}
	var short [][]uint32
	for _, a := range numbers() {
		if len(a) <= 100 {
			short = append(short, a)
		}
	}
	for _, a := range short {
		for _, b := range short {
			sum, product := must(Add(a, b)), must(Mul(a, b))
			if !slices.Equal(sum, must(Add(b, a))) || !slices.Equal(product, must(Mul(b, a))) {
				t.Fatal(a, b)
			}
			if !slices.Equal(must(Sub(sum, b)), a) && len(a) > 0 {
				t.Fatal(a, b)
			}
			for _, c := range short {
				if !slices.Equal(must(Add(sum, c)), must(Add(a, must(Add(b, c))))) {
					t.Fatal(a, b, c)
				}
				if !slices.Equal(must(Mul(sum, c)), must(Add(must(Mul(a, c)), must(Mul(b, c))))) {
					t.Fatal(a, b, c)
				}
				if !slices.Equal(must(Mul(product, c)), must(Mul(a, must(Mul(b, c))))) {
					t.Fatal(a, b, c)
				}
			}
		}
	}
}
