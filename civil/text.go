package civil

import (
	"strconv"
	"strings"

	"letterbag/api"
)

const (
	dateLength = 10
	timeLength = 16
)

// Text returns the text of a date.
func Text(day int) (string, api.Errno) {
	year, month, d, e := Date(day)
	if e != api.OK {
		return "", e
	}
	return padded(year, 4) + "-" + padded(month, 2) + "-" + padded(d, 2), api.OK
}

// Read returns the day that has a text.
func Read(s string) (int, api.Errno) {
	if len(s) != dateLength || s[4] != '-' || s[7] != '-' {
		return 0, ErrText
	}
	day, e := Day(number(s[:4]), number(s[5:7]), number(s[8:]))
	if e != api.OK {
		return 0, ErrText
	}
	return day, api.OK
}

// TimeText returns the text of a time.
func TimeText(time int) (string, api.Errno) {
	day, minute, e := Split(time)
	if e != api.OK {
		return "", e
	}
	date, e := Text(day)
	if e != api.OK {
		return "", e
	}
	return date + " " + padded(minute/60, 2) + ":" + padded(minute%60, 2), api.OK
}

// ReadTime returns the time that has a text.
func ReadTime(s string) (int, api.Errno) {
	if len(s) != timeLength || s[10] != ' ' || s[13] != ':' {
		return 0, ErrText
	}
	day, e := Read(s[:dateLength])
	hour, minute := number(s[11:13]), number(s[14:])
	if e != api.OK || hour < 0 || hour > 23 || minute < 0 || minute > 59 {
		return 0, ErrText
	}
	return day*api.DayMinutes + hour*60 + minute, api.OK
}

// padded returns the digits of a number that has at most width of them, with zeros ahead of them.
func padded(n, width int) string {
	s := strconv.Itoa(n)
	return strings.Repeat("0", width-len(s)) + s
}

// number returns the number of a text of digits, or -1 if it has another byte: strconv.Atoi would take a sign.
func number(s string) int {
	n := 0
	for i := range len(s) {
		if s[i] < '0' || s[i] > '9' {
			return -1
		}
		n = n*10 + int(s[i]-'0')
	}
	return n
}
