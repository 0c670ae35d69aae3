package civil

import (
	"slices"
	"sort"

	"letterbag/api"
)

// saturday is the first weekday that is no working day.
const saturday = 5

// Right reports whether days are a list of holidays.
func Right(holidays []int) bool {
	if len(holidays) > MaxHolidays {
		return false
	}
	last := -1
	for _, h := range holidays {
		if h <= last || h > api.MaxDay {
			return false
		}
		last = h
	}
	return true
}

// Works reports whether a day is a working day.
func Works(day int, holidays []int) (bool, api.Errno) {
	if !Right(holidays) {
		return false, api.ErrArg
	}
	if e := checkDay(day); e != api.OK {
		return false, e
	}
	_, holiday := slices.BinarySearch(holidays, day)
	return day%7 < saturday && !holiday, api.OK
}

// Between returns the number of working days from a day on, less than another one.
func Between(from, to int, holidays []int) (int, api.Errno) {
	if !Right(holidays) || from < 0 || to < from {
		return 0, api.ErrArg
	}
	if to > api.MaxDay {
		return 0, api.ErrLong
	}
	inFront := worksInFront(holidays)
	return inFront(to) - inFront(from), api.OK
}

// Ahead returns the working day that is n working days ahead.
func Ahead(day, n int, holidays []int) (int, api.Errno) {
	if !Right(holidays) || day < 0 || n < 0 {
		return 0, api.ErrArg
	}
	if day > api.MaxDay || n > api.MaxDay { // so that the sum below cannot overflow
		return 0, api.ErrLong
	}
	inFront := worksInFront(holidays)
	count := inFront(day) + n
	// The day that is looked for is the last one with count working days in front of it: it is itself in front of the next day.
	steps := api.MaxDay - day + 1
	i := sort.Search(steps, func(i int) bool { return inFront(day+i+1) > count })
	if i == steps {
		return 0, api.ErrLong
	}
	return day + i, api.OK
}

// worksInFront returns what counts the working days that are less than a day.
func worksInFront(holidays []int) func(day int) int {
	holidaysInFront := func(day int) int {
		n := 0
		for _, h := range holidays {
			if h >= day {
				break
			}
			if h%7 < saturday { // the others are left out already
				n++
			}
		}
		return n
	}
	return func(day int) int {
		return day/7*saturday + min(day%7, saturday) - holidaysInFront(day)
	}
}
