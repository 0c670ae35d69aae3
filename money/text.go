package money

import (
	"strconv"
	"strings"

	"letterbag/api"
)

// hundred is how many cents the digits ahead of the point count.
const hundred = 100

// Text returns the text of an amount.
func Text(cents int) (string, api.Errno) {
	if !Right(cents) {
		return "", api.ErrArg
	}
	sign := ""
	if cents < 0 {
		sign, cents = "-", -cents
	}
	remaining := strconv.Itoa(hundred + cents%hundred)[1:] // the digit that is cut off keeps a zero behind it
	return sign + strconv.Itoa(cents/hundred) + "." + remaining, api.OK
}

// Read returns the amount that has a text.
func Read(s string) (int, api.Errno) {
	cents, err := strconv.Atoi(strings.Replace(s, ".", "", 1))
	if err != nil {
		return 0, ErrText
	}
	// Digits may be those of an amount that is written otherwise: each amount has just one text.
	text, e := Text(cents)
	if e != api.OK || text != s {
		return 0, ErrText
	}
	return cents, api.OK
}
