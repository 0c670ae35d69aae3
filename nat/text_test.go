package nat

import (
	"math/big"
	"slices"
	"strings"
	"testing"

	"letterbag/api"
)

// P3.5
func TestTexts(t *testing.T) {
	for _, c := range []struct {
		a    []uint32
		text string
	}{
		{nil, "0"}, {[]uint32{}, "0"}, {[]uint32{1}, "1"}, {[]uint32{9}, "9"}, {[]uint32{10}, "10"}, {[]uint32{100}, "100"},
		{[]uint32{99999999}, "99999999"}, {[]uint32{999999999}, "999999999"}, {[]uint32{1000000000}, "1000000000"}, {[]uint32{1000000001}, "1000000001"},
		{[]uint32{4294967295}, "4294967295"}, {[]uint32{0, 1}, "4294967296"}, {[]uint32{2808348671, 232830643}, "999999999999999999"},
		{[]uint32{2808348672, 232830643}, "1000000000000000000"}, {[]uint32{4294967295, 4294967295}, "18446744073709551615"},
		{[]uint32{0, 0, 1}, "18446744073709551616"}, {[]uint32{1661992960, 1808227885, 5}, "100000000000000000000"},
	} {
		if s, e := Text(c.a); s != c.text || e != api.OK {
			t.Errorf("Text(%v) = %q, %d", c.a, s, e)
		}
		if a, e := Read(c.text); !slices.Equal(a, c.a) || e != api.OK {
			t.Errorf("Read(%q) = %v, %d", c.text, a, e)
		}
	}
	for i, a := range noNumbers() {
		if s, e := Text(a); s != "" || e != api.ErrArg {
			t.Errorf("Text of %d: %q, %d", i, s, e)
		}
	}
}

// P3.5
func TestEveryText(t *testing.T) {
	l := numbers()
	for n := range uint64(12000) {
		l = append(l, Of(n))
	}
	power := Of(1)
	for range 200 { // every number of digits, with zeros and with nines
		less, _ := Sub(power, Of(1))
		more, _ := Add(power, Of(1))
		l = append(l, less, power, more)
		power, _ = Mul(power, Of(10))
	}
	for _, a := range l {
		s, e := Text(a)
		if s != exact(a).String() || e != api.OK {
			t.Fatalf("Text(%v) = %q, %d", a, s, e)
		}
		if b, e := Read(s); !slices.Equal(a, b) || !Right(b) || e != api.OK {
			t.Fatalf("Read(%q) = %v, %d", s, b, e)
		}
	}
}

// P3.5
func TestNoText(t *testing.T) {
	long := strings.Repeat("7", 20000)
	for _, s := range []string{
		"", "00", "007", "01", "0000000000", "0123456789", "-", "-0", "-1", "+1", "+", "1-", "1.", "1.0", ".1", "1,000", "1_000", "1e3", "0x10", "1a", "a1", "a", "1f",
		" ", " 1", "1 ", "1 2", "\n1", "1\n", "\x00", "1\x00", "\x001", "1/", "1:", "/1", ":1", "１", "٣", "1\xff", "\xff",
		"12345678-123456789", "1+2345678", "123456789x123456789", "x123456789", "123456789x",
		// A text of any length that is none is ErrText, also where it would be too long.
		"0" + long, long + "x", "x" + long, long + " ", "-" + long, long[:10000] + "." + long[10000:], strings.Repeat("0", 20000), long + "\n",
	} {
		if a, e := Read(s); len(a) != 0 || e != ErrText {
			t.Errorf("Read(%.40q) = %v, %d", s, a, e)
		}
	}
}

// P3.5
func TestLongText(t *testing.T) {
	highest := exact(greatest())
	s := highest.String()
	if len(s) != maxDigits {
		t.Fatal(len(s))
	}
	if a, e := Read(s); !slices.Equal(a, greatest()) || e != api.OK {
		t.Error(len(a), e)
	}
	if got, e := Text(greatest()); got != s || e != api.OK {
		t.Error(len(got), e)
	}
	for i, s := range []string{
		highest.Add(highest, big.NewInt(1)).String(),
		strings.Repeat("9", maxDigits),
		"1" + strings.Repeat("0", maxDigits),
		"1" + strings.Repeat("0", maxDigits+8),
		strings.Repeat("1", 2*maxDigits),
		strings.Repeat("123456789", 1000000),
	} {
		if a, e := Read(s); len(a) != 0 || e != api.ErrLong {
			t.Errorf("Read of %d: %d limbs, %d", i, len(a), e)
		}
	}
	if a, e := Read("1" + strings.Repeat("0", maxDigits-1)); len(a) != MaxLimbs || e != api.OK {
		t.Error(len(a), e)
	}
}

// P3.2 to P3.5: the examples of the chapter.
func TestExamples(t *testing.T) {
	text := func(a []uint32, e api.Errno) string {
		s, textError := Text(a)
		if e != api.OK || textError != api.OK {
			t.Error(a, e, textError)
		}
		return s
	}
	if a := Of(1 << 32); !slices.Equal(a, []uint32{0, 1}) {
		t.Error(a)
	}
	square, e := Mul(Of(1<<32), Of(1<<32))
	if s := text(square, e); s != "18446744073709551616" || !slices.Equal(square, []uint32{0, 0, 1}) {
		t.Error(square, s)
	}
	quotient, rest, e := DivMod(square, Of(10))
	if text(quotient, e) != "1844674407370955161" || text(rest, e) != "6" {
		t.Error(quotient, rest)
	}
	if a, e := Sub(Of(1), Of(2)); len(a) != 0 || e != api.ErrArg {
		t.Error(a, e)
	}
	if s := text(Pow(Of(10), 20)); s != "100000000000000000000" {
		t.Error(s)
	}
	if s := text(Pow(nil, 0)); s != "1" {
		t.Error(s)
	}
	if a, e := Read("007"); len(a) != 0 || e != ErrText {
		t.Error(a, e)
	}
	if Right([]uint32{5, 0}) {
		t.Error("5, 0")
	}
}
