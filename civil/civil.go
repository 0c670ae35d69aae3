// Package civil counts days and minutes: dates, weekdays, texts of dates and times, holidays and working days. It is layer 1: see shared/doc/01-civil.md.
package civil

import "letterbag/api"

// Errors.
const (
	ErrDate api.Errno = 10 // no date, or no day of the year
	ErrText api.Errno = 11 // no text of a date, or of a time
)

// MaxHolidays is the greatest number of holidays in a list.
const MaxHolidays = 1000

const (
	firstYear = 2001
	lastYear  = 4000
	leapYear  = 2004 // any leap year: it has every day of the year

	yearDays    = 365               // of a year that is no leap year
	fourDays    = 4*yearDays + 1    // of 4 years, the last of which is a leap year
	centuryDays = 25*fourDays - 1   // of 100 years, the last of which is no leap year
	cycleDays   = 4*centuryDays + 1 // of 400 years, the last of which is a leap year

	lastMinute = api.DayMinutes - 1 // of a day
)

// daysAhead has, for each month of a year that is no leap year, the days ahead of it; and, as its last number, the days of the year.
var daysAhead = [13]int{0, 31, 59, 90, 120, 151, 181, 212, 243, 273, 304, 334, 365}

// Leap reports whether a year is a leap year.
func Leap(year int) bool { return year%4 == 0 && (year%100 != 0 || year%400 == 0) }

// Day returns the day of a date.
func Day(year, month, day int) (int, api.Errno) {
	if year < firstYear || year > lastYear || !inMonth(year, month, day) {
		return 0, ErrDate
	}
	y := year - firstYear
	return y*yearDays + y/4 - y/100 + y/400 + monthStart(year, month) + day - 1, api.OK
}

// Date returns the date of a day: year, month, day of the month.
func Date(day int) (int, int, int, api.Errno) {
	if e := checkDay(day); e != api.OK {
		return 0, 0, 0, e
	}
	year, rest := yearOf(day)
	month := 12
	for monthStart(year, month) > rest {
		month--
	}
	return year, month, rest - monthStart(year, month) + 1, api.OK
}

// Weekday returns the weekday of a day, from 0 (Monday) to 6.
func Weekday(day int) (int, api.Errno) {
	if e := checkDay(day); e != api.OK {
		return 0, e
	}
	return day % 7, api.OK
}

// Time returns the time of a minute of a day.
func Time(day, minute int) (int, api.Errno) {
	if day < 0 || minute < 0 || minute > lastMinute {
		return 0, api.ErrArg
	}
	if day > api.MaxDay {
		return 0, api.ErrLong
	}
	return day*api.DayMinutes + minute, api.OK
}

// Split returns the day of a time, and the minute of the day.
func Split(time int) (int, int, api.Errno) {
	if time < 0 {
		return 0, 0, api.ErrArg
	}
	if time > api.MaxTime {
		return 0, 0, api.ErrLong
	}
	return time / api.DayMinutes, time % api.DayMinutes, api.OK
}

// Yearly reports whether a day lies from one day of the year to another one.
func Yearly(day, from, to int) (bool, api.Errno) {
	_, month, d, e := Date(day)
	if e != api.OK {
		return false, e
	}
	if !inYear(from) || !inYear(to) {
		return false, ErrDate
	}
	own := 100*month + d
	if from > to {
		return own >= from || own <= to, api.OK
	}
	return own >= from && own <= to, api.OK
}

// checkDay returns the error of a number that should be a day.
func checkDay(day int) api.Errno {
	if day < 0 {
		return api.ErrArg
	}
	if day > api.MaxDay {
		return api.ErrLong
	}
	return api.OK
}

// inMonth reports whether a month of a year has a day.
func inMonth(year, month, day int) bool {
	if month < 1 || month > 12 {
		return false
	}
	return day >= 1 && day <= monthStart(year, month+1)-monthStart(year, month)
}

// inYear reports whether a number is a day of the year.
func inYear(n int) bool { return inMonth(leapYear, n/100, n%100) }

// monthStart returns how many days of a year are ahead of a month; 13 stands for the month behind the last one.
func monthStart(year, month int) int {
	if month > 2 && Leap(year) {
		return daysAhead[month-1] + 1
	}
	return daysAhead[month-1]
}

// yearOf returns the year of a day, and how many days of the year are ahead of it.
func yearOf(day int) (int, int) {
	year := firstYear + day/cycleDays*400
	rest := day % cycleDays
	// The last century of a cycle, and the last year of four, are a day longer than the others: their last day would begin a fifth one.
	n := min(rest/centuryDays, 3)
	year += n * 100
	rest -= n * centuryDays
	year += rest / fourDays * 4
	rest %= fourDays
	n = min(rest/yearDays, 3)
	return year + n, rest - n*yearDays
}
