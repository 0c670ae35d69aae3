package civil

import (
	"strconv"
	"testing"

	"letterbag/api"
)

// P1.3
func TestTexts(t *testing.T) {
	for _, c := range []struct {
		time int
		text string
	}{
		{0, "2001-01-01 00:00"},
		{1, "2001-01-01 00:01"},
		{59, "2001-01-01 00:59"},
		{60, "2001-01-01 01:00"},
		{1439, "2001-01-01 23:59"},
		{1441, "2001-01-02 00:01"},
		{59*1440 + 605, "2001-03-01 10:05"},
		{364*1440 + 754, "2001-12-31 12:34"},
		{1154*1440 + 540, "2004-02-29 09:00"},
		{36218 * 1440, "2100-03-01 00:00"},
		{api.MaxTime, "4000-12-31 23:59"},
	} {
		day, date := c.time/1440, c.text[:10]
		if s, e := Text(day); s != date || e != api.OK {
			t.Errorf("Text(%d) = %q, %d", day, s, e)
		}
		if n, e := Read(date); n != day || e != api.OK {
			t.Errorf("Read(%q) = %d, %d", date, n, e)
		}
		if s, e := TimeText(c.time); s != c.text || e != api.OK {
			t.Errorf("TimeText(%d) = %q, %d", c.time, s, e)
		}
		if n, e := ReadTime(c.text); n != c.time || e != api.OK {
			t.Errorf("ReadTime(%q) = %d, %d", c.text, n, e)
		}
	}
}

// P1.3
func TestNoText(t *testing.T) {
	for _, s := range []string{
		"", "-", "2001", "2001-01", "2001-01-", "2001-01-0", "2001-1-01", "2001-01-1", "2001-1-1", "201-01-01", "01-01-2001",
		"02001-01-01", "2001-001-01", "2001-01-001", " 2001-01-01", "2001-01-01 ", "2001-01-01\n", "2001-01-01\x00",
		"2001/01/01", "2001 01 01", "2001-01/01", "2001/01-01", "20010101", "2001-0101-", "20-01-0101",
		"+001-01-01", "2001-+1-01", "2001-01-+1", "2001--1-01", "2001-01--1", "20x1-01-01", "2001-0x-01", "2001-01-0x", "2001-01-1 ", "2_01-01-01",
		"２001-01-01", "2001-01-01 00:00",
		"2000-12-31", "4001-01-01", "0000-01-01", "9999-12-31", "2001-00-01", "2001-13-01", "2001-01-00", "2001-01-32", "2001-02-29", "2004-02-30", "2100-02-29", "2001-04-31",
	} {
		if day, e := Read(s); day != 0 || e != ErrText {
			t.Errorf("Read(%q) = %d, %d", s, day, e)
		}
		if time, e := ReadTime(s + " 12:00"); time != 0 || e != ErrText {
			t.Errorf("ReadTime(%q and 12:00) = %d, %d", s, time, e)
		}
	}
}

// P1.3
func TestNoTimeText(t *testing.T) {
	for _, s := range []string{
		"", "2001-01-01", "2001-01-01 ", "2001-01-01 00", "2001-01-01 00:", "2001-01-01 00:0", "2001-01-01 0:00", "2001-01-01 0:000", "2001-01-01 000:0",
		"2001-01-01 24:00", "2001-01-01 23:60", "2001-01-01 99:99", "2001-01-01T23:00", "2001-01-01  3:00", "2001-01-0123:00", "2001-01-01 23.00", "2001-01-01 2300", "2001-01-01 23000",
		"2001-01-01 -1:00", "2001-01-01 +1:00", "2001-01-01 00:-1", "2001-01-01 00:+1", "2001-01-01 0x:00", "2001-01-01 00:x0", "2001-01-01 00: 1",
		" 2001-01-01 00:00", "2001-01-01 00:00 ", "2001-01-01 00:00:00", "00:00", "00:00 2001-01-01",
	} {
		if time, e := ReadTime(s); time != 0 || e != ErrText {
			t.Errorf("ReadTime(%q) = %d, %d", s, time, e)
		}
	}
}

// wide returns the digits of a number, with zeros ahead of them.
func wide(n, width int) string {
	return strconv.Itoa(n + 100000)[6-width:]
}

// P1.3, P1.6: dates and their texts are inverse to each other, and the texts are in the order of the days.
func TestEveryDateText(t *testing.T) {
	last := ""
	calendar(func(day, year, month, d int) {
		s, e := Text(day)
		if s != wide(year, 4)+"-"+wide(month, 2)+"-"+wide(d, 2) || e != api.OK {
			t.Fatalf("Text(%d) = %q, %d", day, s, e)
		}
		if s <= last {
			t.Fatal(last, s)
		}
		last = s
		if n, e := Read(s); n != day || e != api.OK {
			t.Fatalf("Read(%q) = %d, %d", s, n, e)
		}
	})
}

// P1.3, P1.6: times and their texts are inverse to each other, and the texts are in the order of the times.
func TestEveryMinuteText(t *testing.T) {
	for _, day := range []int{0, 58, 1154, api.MaxDay} {
		last := ""
		for minute := range 1440 {
			time, _ := Time(day, minute)
			date, _ := Text(day)
			s, e := TimeText(time)
			if s != date+" "+wide(minute/60, 2)+":"+wide(minute%60, 2) || e != api.OK {
				t.Fatalf("TimeText(%d) = %q, %d", time, s, e)
			}
			if s <= last {
				t.Fatal(last, s)
			}
			last = s
			if n, e := ReadTime(s); n != time || e != api.OK {
				t.Fatalf("ReadTime(%q) = %d, %d", s, n, e)
			}
		}
	}
}

// P1.3: a text that is read is the only one of its day.
func TestChangedTexts(t *testing.T) {
	const text = "2004-02-29 10:05"
	for i := range text {
		for b := range 256 {
			s := text[:i] + string([]byte{byte(b)}) + text[i+1:]
			time, e := ReadTime(s)
			if e != api.OK {
				if time != 0 || e != ErrText {
					t.Fatalf("ReadTime(%q) = %d, %d", s, time, e)
				}
				continue
			}
			if back, e := TimeText(time); back != s || e != api.OK {
				t.Fatalf("ReadTime(%q) = %d, whose text is %q, %d", s, time, back, e)
			}
		}
	}
}
