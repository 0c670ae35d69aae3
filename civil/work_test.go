package civil

import (
	"math"
	"slices"
	"testing"

	"letterbag/api"
)

// run returns days that follow one another.
func run(from, n int) []int {
	days := make([]int, n)
	for i := range days {
		days[i] = from + i
	}
	return days
}

// lists has lists of holidays: none, weekdays and weekends, at both ends, and as many as there can be.
func lists() [][]int {
	sparse := make([]int, MaxHolidays)
	for i := range sparse {
		sparse[i] = i * 3
	}
	return [][]int{nil, {}, {0}, {1}, {5}, {1, 5, 8, 365}, {0, 1, 2, 3, 4, 5, 6, 7}, {api.MaxDay - 2}, {api.MaxDay}, {0, api.MaxDay}, sparse, run(0, MaxHolidays), run(api.MaxDay-MaxHolidays+1, MaxHolidays)}
}

// wrong has lists that are no holidays.
func wrong() [][]int {
	return [][]int{{-1}, {math.MinInt}, {-1, 0}, {api.MaxDay + 1}, {0, api.MaxDay + 1}, {math.MaxInt}, {0, 0}, {3, 3}, {2, 1}, {1, 3, 2}, {5, 6, 6}, run(0, MaxHolidays+1)}
}

// plain reports whether a day is a working day, as the chapter says it.
func plain(day int, holidays []int) bool {
	return day%7 != 5 && day%7 != 6 && !slices.Contains(holidays, day)
}

// P1.4
func TestRight(t *testing.T) {
	for i, h := range lists() {
		if !Right(h) {
			t.Error("list", i)
		}
	}
	for i, h := range wrong() {
		if Right(h) {
			t.Error("wrong list", i)
		}
	}
	if !Right(run(0, 1000)) || Right(run(0, 1001)) {
		t.Error("not 1000 holidays at most")
	}
}

// P1.4
func TestWorks(t *testing.T) {
	for i, h := range lists() {
		for _, span := range [][2]int{{0, 1100}, {api.MaxDay - 1100, api.MaxDay + 1}} {
			for day := span[0]; day < span[1]; day++ {
				if got, e := Works(day, h); got != plain(day, h) || e != api.OK {
					t.Fatalf("list %d: Works(%d) = %v, %d", i, day, got, e)
				}
			}
		}
	}
}

// P1.4
func TestBetween(t *testing.T) {
	for _, c := range []struct {
		from, to int
		holidays []int
		want     int
	}{
		{0, 0, nil, 0}, {0, 1, nil, 1}, {0, 5, nil, 5}, {0, 6, nil, 5}, {0, 7, nil, 5}, {0, 8, nil, 6}, {5, 7, nil, 0}, {4, 8, nil, 2},
		{0, 7, []int{1}, 4}, {1, 2, []int{1}, 0}, {2, 7, []int{1}, 3}, {0, 1, []int{1}, 1}, {0, 7, []int{5, 6}, 5}, {0, 14, []int{1, 5, 8, 365}, 8},
		{0, api.MaxDay, nil, 521775}, {0, api.MaxDay, []int{api.MaxDay - 2}, 521774}, {api.MaxDay, api.MaxDay, nil, 0}, {api.MaxDay - 1, api.MaxDay, nil, 0}, {api.MaxDay - 2, api.MaxDay, nil, 1},
	} {
		if got, e := Between(c.from, c.to, c.holidays); got != c.want || e != api.OK {
			t.Errorf("Between of %v: %d, %d", c, got, e)
		}
	}
	for i, h := range lists() {
		for _, from := range []int{0, 1, 5, 300, 995, 2990, api.MaxDay - 1010, api.MaxDay - 8, api.MaxDay} {
			count := 0
			for to := from; to <= min(from+1100, api.MaxDay); to++ {
				if got, e := Between(from, to, h); got != count || e != api.OK {
					t.Fatalf("list %d: Between(%d, %d) = %d, %d", i, from, to, got, e)
				}
				if plain(to, h) {
					count++
				}
			}
		}
	}
}

// P1.4
func TestAhead(t *testing.T) {
	for _, c := range []struct {
		day, n   int
		holidays []int
		want     int
	}{
		{0, 0, nil, 0}, {0, 1, nil, 1}, {0, 4, nil, 4}, {0, 5, nil, 7}, {5, 0, nil, 7}, {6, 0, nil, 7}, {6, 1, nil, 8},
		{0, 1, []int{1}, 2}, {1, 0, []int{1}, 2}, {1, 1, []int{1}, 3}, {4, 1, []int{1}, 7}, {0, 0, []int{0, 1, 2, 3, 4, 5, 6, 7}, 8}, {4, 1, []int{7}, 8},
		{0, 0, run(0, MaxHolidays), 1001}, // the day 1000 is a Sunday
		{api.MaxDay - 2, 0, nil, api.MaxDay - 2}, {0, 521774, nil, api.MaxDay - 2}, {0, 521773, []int{api.MaxDay - 2}, api.MaxDay - 3},
	} {
		if got, e := Ahead(c.day, c.n, c.holidays); got != c.want || e != api.OK {
			t.Errorf("Ahead of %d by %d: %d, %d", c.day, c.n, got, e)
		}
	}
}

// P1.4
func TestAheadOneByOne(t *testing.T) {
	for i, h := range lists() {
		for _, day := range []int{0, 1, 5, 6, 300, 995, 2990, api.MaxDay - 1010, api.MaxDay - 8, api.MaxDay} {
			n := 0
			for want := day; want <= min(day+500, api.MaxDay); want++ {
				if !plain(want, h) {
					continue
				}
				if got, e := Ahead(day, n, h); got != want || e != api.OK {
					t.Fatalf("list %d: Ahead(%d, %d) = %d, %d", i, day, n, got, e)
				}
				n++
			}
			if day+500 < api.MaxDay {
				continue
			}
			if got, e := Ahead(day, n, h); got != 0 || e != api.ErrLong {
				t.Fatalf("list %d: Ahead(%d, %d) = %d, %d", i, day, n, got, e)
			}
		}
	}
}

// P1.4
func TestWorkErrors(t *testing.T) {
	for _, c := range outside {
		if got, e := Works(c.day, nil); got || e != c.e {
			t.Errorf("Works(%d) = %v, %d", c.day, got, e)
		}
		if got, e := Ahead(c.day, 0, nil); got != 0 || e != c.e {
			t.Errorf("Ahead(%d, 0) = %d, %d", c.day, got, e)
		}
	}
	for _, c := range []struct {
		from, to int
		e        api.Errno
	}{
		{-1, 0, api.ErrArg}, {math.MinInt, math.MaxInt, api.ErrArg}, {1, 0, api.ErrArg}, {0, -1, api.ErrArg},
		{-1, api.MaxDay + 1, api.ErrArg}, {api.MaxDay + 2, api.MaxDay + 1, api.ErrArg}, // ErrArg comes first
		{0, api.MaxDay + 1, api.ErrLong}, {api.MaxDay + 1, api.MaxDay + 1, api.ErrLong}, {0, math.MaxInt, api.ErrLong},
	} {
		if got, e := Between(c.from, c.to, nil); got != 0 || e != c.e {
			t.Errorf("Between(%d, %d) = %d, %d", c.from, c.to, got, e)
		}
	}
	for _, c := range []struct {
		day, n int
		e      api.Errno
	}{
		{0, -1, api.ErrArg}, {0, math.MinInt, api.ErrArg}, {api.MaxDay + 1, -1, api.ErrArg}, {-1, math.MaxInt, api.ErrArg}, // ErrArg comes first
		{0, 521775, api.ErrLong}, {api.MaxDay - 2, 1, api.ErrLong}, {api.MaxDay - 1, 0, api.ErrLong}, {api.MaxDay, 0, api.ErrLong},
		{0, api.MaxDay, api.ErrLong}, {0, math.MaxInt, api.ErrLong}, {api.MaxDay, math.MaxInt, api.ErrLong}, {math.MaxInt, math.MaxInt, api.ErrLong},
	} {
		if got, e := Ahead(c.day, c.n, nil); got != 0 || e != c.e {
			t.Errorf("Ahead(%d, %d) = %d, %d", c.day, c.n, got, e)
		}
	}
}

// P1.4: a list that is not right is the first error.
func TestWrongLists(t *testing.T) {
	for i, h := range wrong() {
		for _, day := range []int{0, api.MaxDay, api.MaxDay + 1} {
			if got, e := Works(day, h); got || e != api.ErrArg {
				t.Errorf("wrong list %d: Works(%d) = %v, %d", i, day, got, e)
			}
			if got, e := Between(0, day, h); got != 0 || e != api.ErrArg {
				t.Errorf("wrong list %d: Between(0, %d) = %d, %d", i, day, got, e)
			}
			if got, e := Ahead(day, 0, h); got != 0 || e != api.ErrArg {
				t.Errorf("wrong list %d: Ahead(%d, 0) = %d, %d", i, day, got, e)
			}
		}
	}
}

// P1.6: working days between add up; those of a day, and of the one that is n working days ahead, differ by n.
func TestWorkConsequences(t *testing.T) {
	for i, h := range lists() {
		for _, day := range []int{0, 2, 364, 1461, 3000, 36523} {
			for _, n := range []int{0, 1, 4, 5, 23, 261, 2000, 100000} {
				ahead, e := Ahead(day, n, h)
				if e != api.OK || !plain(ahead, h) {
					t.Fatalf("list %d: Ahead(%d, %d) = %d, %d", i, day, n, ahead, e)
				}
				if got, e := Between(day, ahead, h); got != n || e != api.OK {
					t.Fatalf("list %d: Between(%d, %d) = %d, %d, want %d", i, day, ahead, got, e, n)
				}
				middle := (day + ahead) / 2
				a, _ := Between(day, middle, h)
				if b, e := Between(middle, ahead, h); a+b != n || e != api.OK {
					t.Fatalf("list %d: %d and %d from %d to %d to %d, want %d", i, a, b, day, middle, ahead, n)
				}
			}
		}
	}
}

// R3: neither the holidays nor what lies behind them is written.
func TestHolidaysStay(t *testing.T) {
	whole := []int{1, 5, 8, 365, -7, -7}
	kept := slices.Clone(whole)
	h := whole[:4]
	Right(h)
	Works(8, h)
	Between(0, 400, h)
	Ahead(0, 300, h)
	if !slices.Equal(whole, kept) {
		t.Error(whole)
	}
}
