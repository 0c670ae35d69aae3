package money

import (
	"strings"
	"testing"

	"letterbag/api"
)

// P2.4
func TestTexts(t *testing.T) {
	for _, c := range []struct {
		cents int
		text  string
	}{
		{0, "0.00"}, {1, "0.01"}, {-1, "-0.01"}, {5, "0.05"}, {-5, "-0.05"}, {10, "0.10"}, {99, "0.99"}, {-99, "-0.99"},
		{100, "1.00"}, {101, "1.01"}, {110, "1.10"}, {-100, "-1.00"}, {-101, "-1.01"}, {700, "7.00"}, {1000, "10.00"},
		{10005, "100.05"}, {123456, "1234.56"}, {-123456, "-1234.56"},
		{MaxCents - 1, "9999999999999.99"}, {MaxCents, "10000000000000.00"}, {-MaxCents, "-10000000000000.00"},
	} {
		if s, e := Text(c.cents); s != c.text || e != api.OK {
			t.Errorf("Text(%d) = %q, %d", c.cents, s, e)
		}
		if n, e := Read(c.text); n != c.cents || e != api.OK {
			t.Errorf("Read(%q) = %d, %d", c.text, n, e)
		}
	}
	for _, cents := range noAmounts {
		if s, e := Text(cents); s != "" || e != api.ErrArg {
			t.Errorf("Text(%d) = %q, %d", cents, s, e)
		}
	}
}

// P2.4
func TestNoText(t *testing.T) {
	for _, s := range []string{
		"", ".", "-", "-.", "0", "5", "100", "-100", "0.", ".0", ".00", ".05", "-.05", "0.0", "1.5", "1.", "1.050", "0.005", "10.5",
		"007.00", "00.00", "00.05", "-00.05", "01.00", "-01.00", "-0.00", "--0.05", "+0.05", "-+0.05", "0.-5", "0.+5", "0-.05", "1.-05", "1.0-", "1-.05",
		" 1.00", "1.00 ", "1. 00", "- 1.00", "1.00\n", "1.00\x00", "\x001.00", "1,00", "1:00", "1..00", "1.0.0", ".1.00", "1.00.", "100.", ".100", "1.0.00",
		"1_0.00", "1_000.00", "1,000.00", "0x1.00", "1e2.00", "1.e2", "1.0x", "a.bc", "1.0a", "x1.00", "１.00", "1.٠٠", "NaN", "Inf", "1.00¢",
		"10000000000000.01", "-10000000000000.01", "99999999999999.99", "010000000000000.00",
		"92233720368547758.07", "92233720368547758.08", "-92233720368547758.08", "184467440737095516.16", "184467440737095516.17",
		strings.Repeat("9", 100) + ".00", strings.Repeat("0", 100) + ".00", "1." + strings.Repeat("0", 100), strings.Repeat("1", 100000),
	} {
		if n, e := Read(s); n != 0 || e != ErrText {
			t.Errorf("Read(%q) = %d, %d", s, n, e)
		}
	}
}

// P2.4: each amount has a text of its own, and is read from it alone: no byte of it can be left out, doubled, or be another one, unless that is the text of another amount.
func TestEveryText(t *testing.T) {
	l := amounts()
	for cents := -20000; cents <= 20000; cents++ {
		l = append(l, cents)
	}
	for _, cents := range l {
		s, e := Text(cents)
		if e != api.OK {
			t.Fatal(cents, s, e)
		}
		if n, e := Read(s); n != cents || e != api.OK {
			t.Fatal(cents, s, n, e)
		}
	}
	for _, s := range []string{"0.00", "-0.05", "12.30", "-10000000000000.00"} {
		for i := range len(s) {
			changed := []string{s[:i] + s[i+1:], s[:i+1] + s[i:]}
			for _, b := range []byte("0159+-. \x00\xff") {
				changed = append(changed, s[:i]+string([]byte{b})+s[i:], s[:i]+string([]byte{b})+s[i+1:])
			}
			for _, c := range changed {
				n, e := Read(c)
				want := wellFormed(c)
				if text, _ := Text(n); want != (e == api.OK) || want && text != c || !want && (n != 0 || e != ErrText) {
					t.Errorf("Read(%q) = %d, %d", c, n, e)
				}
			}
		}
	}
}

// wellFormed reports whether a text is that of an amount, byte by byte.
func wellFormed(s string) bool {
	digits := strings.TrimPrefix(s, "-")
	if len(digits) < 4 || digits[len(digits)-3] != '.' {
		return false
	}
	whole, remaining := digits[:len(digits)-3], digits[len(digits)-2:]
	if strings.Trim(whole+remaining, "0123456789") != "" || len(whole) > 1 && whole[0] == '0' || s == "-0.00" {
		return false
	}
	return len(whole) < 14 || len(whole) == 14 && whole+remaining <= "1000000000000000"
}
