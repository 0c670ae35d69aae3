package civil

import (
	"math"
	"testing"

	"letterbag/api"
)

// calendar calls f with every day and its date, counted on day by day.
func calendar(f func(day, year, month, d int)) {
	lengths := []int{31, 28, 31, 30, 31, 30, 31, 31, 30, 31, 30, 31}
	day := 0
	for year := 2001; year <= 4000; year++ {
		for i, length := range lengths {
			if i == 1 && (year%400 == 0 || year%4 == 0 && year%100 != 0) {
				length = 29
			}
			for d := 1; d <= length; d++ {
				f(day, year, i+1, d)
				day++
			}
		}
	}
}

// P1.1
func TestLeap(t *testing.T) {
	for year, want := range map[int]bool{
		2001: false, 2004: true, 2100: false, 2200: false, 2400: true, 3000: false, 3600: true, 4000: true,
		0: true, 1: false, 4: true, 100: false, 400: true, 1900: false, 2000: true,
		-1: false, -4: true, -100: false, -400: true,
		math.MaxInt: false, math.MinInt: true, // MinInt is -2^63, which 4 divides, and 100 does not
	} {
		if got := Leap(year); got != want {
			t.Errorf("Leap(%d) = %v", year, got)
		}
	}
}

// P1.1
func TestDayAndDate(t *testing.T) {
	for _, c := range []struct{ year, month, d, day int }{
		{2001, 1, 1, 0},
		{2001, 1, 31, 30},
		{2001, 2, 1, 31},
		{2001, 2, 28, 58},
		{2001, 3, 1, 59},
		{2001, 12, 31, 364},
		{2002, 1, 1, 365},
		{2004, 2, 28, 1153},
		{2004, 2, 29, 1154},
		{2004, 3, 1, 1155},
		{2004, 12, 31, 1460},
		{2005, 1, 1, 1461},
		{2100, 2, 28, 36217},
		{2100, 3, 1, 36218},
		{2100, 12, 31, 36523},
		{2101, 1, 1, 36524},
		{2400, 2, 29, 145790},
		{2400, 12, 31, 146096},
		{2401, 1, 1, 146097},
		{4000, 12, 31, 730484},
	} {
		if day, e := Day(c.year, c.month, c.d); day != c.day || e != api.OK {
			t.Errorf("Day of %v: %d, %d", c, day, e)
		}
		if year, month, d, e := Date(c.day); year != c.year || month != c.month || d != c.d || e != api.OK {
			t.Errorf("Date of %v: %d, %d, %d, %d", c, year, month, d, e)
		}
	}
}

// P1.1
func TestNoDate(t *testing.T) {
	for _, c := range [][3]int{
		{2000, 12, 31}, {4001, 1, 1}, {0, 1, 1}, {-2001, 1, 1}, {math.MinInt, 1, 1}, {math.MaxInt, 1, 1},
		{2001, 0, 1}, {2001, 13, 1}, {2001, -1, 1}, {2001, math.MinInt, 1}, {2001, math.MaxInt, 1},
		{2001, 1, 0}, {2001, 1, 32}, {2001, 1, -1}, {2001, 1, math.MinInt}, {2001, 1, math.MaxInt},
		{2001, 2, 29}, {2004, 2, 30}, {2100, 2, 29}, {2400, 2, 30}, {2001, 3, 32}, {2001, 4, 31}, {2001, 5, 32}, {2001, 6, 31},
		{2001, 7, 32}, {2001, 8, 32}, {2001, 9, 31}, {2001, 10, 32}, {2001, 11, 31}, {2001, 12, 32}, {2004, 12, 32},
	} {
		if day, e := Day(c[0], c[1], c[2]); day != 0 || e != ErrDate {
			t.Errorf("Day of %v: %d, %d", c, day, e)
		}
	}
}

// P1.1
func TestWeekday(t *testing.T) {
	for day, want := range map[int]int{0: 0, 1: 1, 4: 4, 5: 5, 6: 6, 7: 0, 146096: 6, 146097: 0, api.MaxDay: 6} {
		if got, e := Weekday(day); got != want || e != api.OK {
			t.Errorf("Weekday(%d) = %d, %d", day, got, e)
		}
	}
}

// outside has numbers that are no days, with the errors that functions of a day return.
var outside = []struct {
	day int
	e   api.Errno
}{{-1, api.ErrArg}, {math.MinInt, api.ErrArg}, {api.MaxDay + 1, api.ErrLong}, {math.MaxInt, api.ErrLong}}

// P1.1, P1.3
func TestOutsideDays(t *testing.T) {
	for _, c := range outside {
		if year, month, d, e := Date(c.day); year != 0 || month != 0 || d != 0 || e != c.e {
			t.Errorf("Date(%d) = %d, %d, %d, %d", c.day, year, month, d, e)
		}
		if w, e := Weekday(c.day); w != 0 || e != c.e {
			t.Errorf("Weekday(%d) = %d, %d", c.day, w, e)
		}
		if s, e := Text(c.day); s != "" || e != c.e {
			t.Errorf("Text(%d) = %q, %d", c.day, s, e)
		}
	}
}

// P1.2
func TestTimeAndSplit(t *testing.T) {
	for _, c := range []struct{ day, minute, time int }{
		{0, 0, 0}, {0, 1, 1}, {0, 1439, 1439}, {1, 0, 1440}, {1, 1, 1441}, {59, 605, 85565},
		{api.MaxDay, 0, api.MaxTime - 1439}, {api.MaxDay, 1439, api.MaxTime},
	} {
		if time, e := Time(c.day, c.minute); time != c.time || e != api.OK {
			t.Errorf("Time of %v: %d, %d", c, time, e)
		}
		if day, minute, e := Split(c.time); day != c.day || minute != c.minute || e != api.OK {
			t.Errorf("Split of %v: %d, %d, %d", c, day, minute, e)
		}
	}
}

// P1.2
func TestNoTime(t *testing.T) {
	for _, c := range []struct {
		day, minute int
		e           api.Errno
	}{
		{-1, 0, api.ErrArg}, {0, -1, api.ErrArg}, {0, 1440, api.ErrArg}, {math.MinInt, 0, api.ErrArg},
		{0, math.MinInt, api.ErrArg}, {0, math.MaxInt, api.ErrArg},
		{api.MaxDay + 1, -1, api.ErrArg}, {api.MaxDay + 1, 1440, api.ErrArg}, // ErrArg comes first
		{api.MaxDay + 1, 0, api.ErrLong}, {math.MaxInt, 1439, api.ErrLong},
	} {
		if time, e := Time(c.day, c.minute); time != 0 || e != c.e {
			t.Errorf("Time of %v: %d, %d", c, time, e)
		}
	}
}

// P1.2, P1.3
func TestOutsideTimes(t *testing.T) {
	for _, c := range []struct {
		time int
		e    api.Errno
	}{{-1, api.ErrArg}, {math.MinInt, api.ErrArg}, {api.MaxTime + 1, api.ErrLong}, {math.MaxInt, api.ErrLong}} {
		if day, minute, e := Split(c.time); day != 0 || minute != 0 || e != c.e {
			t.Errorf("Split(%d) = %d, %d, %d", c.time, day, minute, e)
		}
		if s, e := TimeText(c.time); s != "" || e != c.e {
			t.Errorf("TimeText(%d) = %q, %d", c.time, s, e)
		}
	}
}

// P1.5
func TestYearly(t *testing.T) {
	day := func(year, month, d int) int {
		n, e := Day(year, month, d)
		if e != api.OK {
			t.Fatal(year, month, d, e)
		}
		return n
	}
	for _, c := range []struct {
		day, from, to int
		want          bool
	}{
		{day(2001, 12, 31), 1201, 228, true},
		{day(2001, 3, 1), 1201, 228, false},
		{day(2001, 2, 28), 1201, 228, true},
		{day(2002, 12, 1), 1201, 228, true},
		{day(2002, 11, 30), 1201, 228, false},
		{day(2004, 2, 29), 1201, 228, false},
		{day(2004, 2, 29), 1201, 229, true},
		{day(2004, 2, 29), 229, 229, true},
		{day(2005, 3, 1), 229, 229, false},
		{day(2005, 2, 28), 229, 229, false},
		{day(2005, 3, 1), 301, 301, true},
		{day(2005, 5, 31), 601, 831, false},
		{day(2005, 6, 1), 601, 831, true},
		{day(2005, 7, 15), 601, 831, true},
		{day(2005, 8, 31), 601, 831, true},
		{day(2005, 9, 1), 601, 831, false},
		{day(2005, 1, 1), 101, 1231, true},
		{day(2005, 12, 31), 101, 1231, true},
		{day(2005, 1, 1), 1231, 101, true},
		{day(2005, 1, 2), 1231, 101, false},
		{day(2005, 6, 9), 610, 609, true},
		{0, 101, 101, true},
		{api.MaxDay, 1231, 1231, true},
	} {
		if got, e := Yearly(c.day, c.from, c.to); got != c.want || e != api.OK {
			t.Errorf("Yearly of %v: %v, %d", c, got, e)
		}
	}
}

// P1.5
func TestYearlyErrors(t *testing.T) {
	for _, n := range []int{0, 1, 99, 100, 132, 200, 230, 231, 332, 431, 532, 631, 732, 832, 931, 1032, 1131, 1200, 1232, 1301, 10101, -1, -101, math.MinInt, math.MaxInt} {
		if got, e := Yearly(0, n, 101); got || e != ErrDate {
			t.Errorf("Yearly from %d: %v, %d", n, got, e)
		}
		if got, e := Yearly(0, 101, n); got || e != ErrDate {
			t.Errorf("Yearly to %d: %v, %d", n, got, e)
		}
	}
	for _, c := range outside { // ErrDate comes last
		for _, n := range []int{0, 101} {
			if got, e := Yearly(c.day, n, 1231); got || e != c.e {
				t.Errorf("Yearly(%d, %d, 1231) = %v, %d", c.day, n, got, e)
			}
			if got, e := Yearly(c.day, 101, n); got || e != c.e {
				t.Errorf("Yearly(%d, 101, %d) = %v, %d", c.day, n, got, e)
			}
		}
	}
}

// P1.5: a day of the year lies from one to another one as the numbers do.
func TestEveryDayOfTheYear(t *testing.T) {
	const first, days = 1095, 366 // 2004
	for _, c := range [][2]int{{101, 1231}, {1231, 101}, {229, 301}, {301, 228}, {615, 615}, {616, 615}} {
		for day := first; day < first+days; day++ {
			_, month, d, _ := Date(day)
			n := month*100 + d
			want := n >= c[0] && n <= c[1]
			if c[0] > c[1] {
				want = n >= c[0] || n <= c[1]
			}
			if got, e := Yearly(day, c[0], c[1]); got != want || e != api.OK {
				t.Fatalf("Yearly(%d, %v) = %v, %d", day, c, got, e)
			}
		}
	}
}

// P1.6: Day and Date are inverse to each other, and the days follow one another.
func TestEveryDay(t *testing.T) {
	days := 0
	calendar(func(day, year, month, d int) {
		if n, e := Day(year, month, d); n != day || e != api.OK {
			t.Fatalf("Day(%d, %d, %d) = %d, %d", year, month, d, n, e)
		}
		if y, m, n, e := Date(day); y != year || m != month || n != d || e != api.OK {
			t.Fatalf("Date(%d) = %d, %d, %d, %d", day, y, m, n, e)
		}
		if w, e := Weekday(day); w != day%7 || e != api.OK {
			t.Fatalf("Weekday(%d) = %d, %d", day, w, e)
		}
		days++
	})
	if days != api.MaxDay+1 {
		t.Error(days)
	}
}

// P1.6: 400 years are 146097 days, which are whole weeks.
func TestCycle(t *testing.T) {
	for year := 2001; year+400 <= 4000; year++ {
		a, _ := Day(year, 1, 1)
		b, e := Day(year+400, 1, 1)
		if b-a != 146097 || e != api.OK {
			t.Fatal(year, a, b, e)
		}
		v, _ := Weekday(a)
		if w, _ := Weekday(b); v != w {
			t.Fatal(year, v, w)
		}
	}
}
