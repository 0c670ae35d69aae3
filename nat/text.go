package nat

import (
	"slices"
	"strings"

	"letterbag/api"
)

const (
	groupDigits = 9 // as many as fit into a limb
	groupWhole  = 1000000000

	maxDigits = 9865 // of a number with MaxLimbs limbs
	maxGroups = (maxDigits + groupDigits - 1) / groupDigits
)

// Text returns the decimal digits of a natural number.
func Text(a []uint32) (string, api.Errno) {
	if !Right(a) {
		return "", api.ErrArg
	}
	if len(a) == 0 {
		return "0", api.OK
	}
	var digits [maxGroups * groupDigits]byte
	first := len(digits)
	for rest := slices.Clone(a); len(rest) > 0; rest = trimmed(rest) {
		group := takeGroup(rest)
		for range groupDigits {
			first--
			digits[first] = '0' + byte(group%10)
			group /= 10
		}
	}
	return strings.TrimLeft(string(digits[first:]), "0"), api.OK
}

// Read returns the natural number that has a text.
func Read(s string) ([]uint32, api.Errno) {
	if !isText(s) {
		return nil, ErrText
	}
	if len(s) > maxDigits {
		return nil, api.ErrLong
	}
	var number []uint32
	for len(s) > 0 {
		n := (len(s)-1)%groupDigits + 1 // only the first group may have fewer digits
		number = withGroup(number, groupOf(s[:n]))
		s = s[n:]
	}
	return bounded(number)
}

// isText reports whether a text is that of a natural number of any length.
func isText(s string) bool {
	for i := range len(s) {
		if s[i] < '0' || s[i] > '9' {
			return false
		}
	}
	return s == "0" || s != "" && s[0] != '0'
}

// takeGroup divides limbs by 10^9, and returns the remainder: the lowest nine digits.
func takeGroup(a []uint32) uint32 {
	rest := uint64(0)
	for i := len(a) - 1; i >= 0; i-- {
		n := rest<<limbBits | uint64(a[i])
		a[i] = uint32(n / groupWhole)
		rest = n % groupWhole
	}
	return uint32(rest)
}

// groupOf returns the number of at most nine digits.
func groupOf(digits string) uint32 {
	n := uint32(0)
	for i := range len(digits) {
		n = n*10 + uint32(digits[i]-'0')
	}
	return n
}

// withGroup returns limbs after it has put nine digits behind theirs.
func withGroup(a []uint32, group uint32) []uint32 {
	next := carrying(group)
	for i, n := range a {
		a[i] = next(uint64(n) * groupWhole)
	}
	if high := next(0); high > 0 {
		a = append(a, high)
	}
	return a
}
