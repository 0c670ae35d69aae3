package fold

import (
	"slices"
	"strings"
	"testing"
)

// chapterRows is the chapter's table as it stands there.
var chapterRows = []string{
	KindPre:    "NORTH N, SOUTH S, EAST E, WEST W, NORTHEAST NE, NORTHWEST NW, SOUTHEAST SE, SOUTHWEST SW",
	KindSuffix: "STREET ST, AVENUE AVE, AVENUE AV, ROAD RD, DRIVE DR, LANE LN, COURT CT, PLACE PL, SQUARE SQ, BOULEVARD BLVD, TERRACE TER, HIGHWAY HWY, CRESCENT CRES, WAY WAY, STRASSE STR, PLATZ PL, WEG WEG, ALLEE AL",
	KindUnit:   "APARTMENT APT, SUITE STE, FLOOR FL, ROOM RM, FLAT FL, UNIT UNIT",
	KindBox:    "BOX BOX, POSTBOX PB, POSTFACH PF",
	KindName:   "SAINT ST, SAINTE STE, MOUNT MT, FORT FT, DOCTOR DR",
}

// plainTable cuts the chapter's table into rows.
func plainTable() []Row {
	var table []Row
	for kind, text := range chapterRows {
		if text == "" {
			continue
		}
		for row := range strings.SplitSeq(text, ", ") {
			long, short, _ := strings.Cut(row, " ")
			table = append(table, Row{Kind: uint8(kind), Long: long, Short: short})
		}
	}
	return table
}

// someWords returns all words of the table, and others that are not there.
func someWords() []string {
	words := []string{"", " ", "X", "st", "St", "ST ", "NORT", "NORTHS", "STREET ST", "\xC3\x84", "ST\x00"}
	for _, row := range plainTable() {
		words = append(words, row.Long, row.Short)
	}
	return words
}

// plainLongs gathers long words as the chapter says it.
func plainLongs(kind uint8, word string) []string {
	var longs []string
	for _, row := range plainTable() {
		if (kind == 0 || kind == row.Kind) && (word == row.Long || word == row.Short) && !slices.Contains(longs, row.Long) {
			longs = append(longs, row.Long)
		}
	}
	return longs
}

// P5.2
func TestTable(t *testing.T) {
	got, want := Table(), plainTable()
	if len(got) != 40 || !slices.Equal(got, want) {
		t.Errorf("Table() = %v, not %v", got, want)
	}
	got[0] = Row{}
	if !slices.Equal(Table(), want) {
		t.Error("what a caller writes to the table stays there")
	}
	if l := Longs(0, "N"); !slices.Equal(l, []string{"NORTH"}) {
		t.Errorf("Longs with a changed table: %q", l)
	}
}

// P5.2: the chapter's examples, and edges.
func TestLongs(t *testing.T) {
	for _, c := range []struct {
		kind uint8
		word string
		want []string
	}{
		{0, "ST", []string{"STREET", "SAINT"}},
		{KindName, "ST", []string{"SAINT"}},
		{KindSuffix, "ST", []string{"STREET"}},
		{KindSuffix, "AVENUE", []string{"AVENUE"}},
		{0, "AVENUE", []string{"AVENUE"}},
		{KindSuffix, "AV", []string{"AVENUE"}},
		{KindSuffix, "PL", []string{"PLACE", "PLATZ"}},
		{KindSuffix, "PLACE", []string{"PLACE"}},
		{0, "DR", []string{"DRIVE", "DOCTOR"}},
		{0, "STE", []string{"SUITE", "SAINTE"}},
		{KindUnit, "FL", []string{"FLOOR", "FLAT"}},
		{KindUnit, "UNIT", []string{"UNIT"}},
		{0, "BOX", []string{"BOX"}},
		{0, "WAY", []string{"WAY"}},
		{KindPre, "ST", nil},
		{KindBox, "STREET", nil},
		{0, "X", nil},
		{0, "", nil},
		{0, "st", nil},
		{6, "ST", nil},
		{7, "", nil},
		{255, "N", nil},
	} {
		if got := Longs(c.kind, c.word); !slices.Equal(got, c.want) {
			t.Errorf("Longs(%d, %q) = %q, not %q", c.kind, c.word, got, c.want)
		}
	}
	for kind := range 256 {
		for _, word := range someWords() {
			if got, want := Longs(uint8(kind), word), plainLongs(uint8(kind), word); !slices.Equal(got, want) {
				t.Fatalf("Longs(%d, %q) = %q, not %q", kind, word, got, want)
			}
		}
	}
}

// P5.2: the chapter's examples, and edges.
func TestShort(t *testing.T) {
	for _, c := range []struct {
		kind uint8
		word string
		want string
		ok   bool
	}{
		{KindSuffix, "AVENUE", "AVE", true},
		{KindSuffix, "ST", "", false},
		{0, "ST", "", false},
		{0, "STREET", "ST", true},
		{0, "SAINT", "ST", true},
		{KindSuffix, "SAINT", "", false},
		{KindName, "SAINT", "ST", true},
		{KindSuffix, "WAY", "WAY", true},
		{KindUnit, "UNIT", "UNIT", true},
		{KindPre, "SOUTHWEST", "SW", true},
		{0, "NORTH", "N", true},
		{0, "DOCTOR", "DR", true},
		{0, "", "", false},
		{KindPre, "", "", false},
		{0, "north", "", false},
		{6, "NORTH", "", false},
		{255, "DOCTOR", "", false},
	} {
		if got, ok := Short(c.kind, c.word); got != c.want || ok != c.ok {
			t.Errorf("Short(%d, %q) = %q, %v, not %q, %v", c.kind, c.word, got, ok, c.want, c.ok)
		}
	}
	for kind := range 256 {
		for _, word := range someWords() {
			i := slices.IndexFunc(plainTable(), func(r Row) bool { return (kind == 0 || int(r.Kind) == kind) && r.Long == word })
			want := ""
			if i >= 0 {
				want = plainTable()[i].Short
			}
			if got, ok := Short(uint8(kind), word); got != want || ok != (i >= 0) {
				t.Fatalf("Short(%d, %q) = %q, %v, not %q", kind, word, got, ok, want)
			}
		}
	}
}

// P5.3
func TestKinds(t *testing.T) {
	for _, c := range []struct {
		word string
		want uint8
	}{
		{"ST", 36}, {"X", 0}, {"", 0}, {"N", 2}, {"NORTH", 2}, {"DR", 36}, {"STE", 40}, {"SAINT", 32}, {"PL", 4}, {"AVENUE", 4}, {"FL", 8}, {"UNIT", 8}, {"BOX", 16}, {"n", 0}, {" ST", 0},
	} {
		if got := Kinds(c.word); got != c.want {
			t.Errorf("Kinds(%q) = %d, not %d", c.word, got, c.want)
		}
	}
	for _, word := range someWords() {
		want := 0
		for kind := 1; kind <= 5; kind++ {
			if len(plainLongs(uint8(kind), word)) > 0 {
				want += 1 << kind
			}
		}
		if got := Kinds(word); int(got) != want {
			t.Errorf("Kinds(%q) = %d, not %d", word, got, want)
		}
	}
}

// P5.3
func TestSame(t *testing.T) {
	for _, c := range []struct {
		kind uint8
		a, b string
		want bool
	}{
		{KindSuffix, "PLATZ", "PLACE", false},
		{KindSuffix, "PL", "PLACE", true},
		{KindSuffix, "PLATZ", "PL", true},
		{0, "ST", "SAINT", true},
		{KindName, "ST", "SAINT", true},
		{KindSuffix, "ST", "SAINT", false},
		{0, "STREET", "SAINT", false},
		{KindSuffix, "AV", "AVE", true},
		{0, "AV", "AVE", true},
		{KindName, "AV", "AVE", false},
		{6, "AV", "AVE", false},
		{6, "AV", "AV", true},
		{255, "", "", true},
		{0, "", "", true},
		{0, "X", "X", true},
		{0, "X", "Y", false},
		{0, "x", "X", false},
		{0, "", "N", false},
		{KindPre, "\xC3\x84", "\xC3\x84", true},
	} {
		if got := Same(c.kind, c.a, c.b); got != c.want {
			t.Errorf("Same(%d, %q, %q) = %v", c.kind, c.a, c.b, got)
		}
	}
	for _, kind := range []uint8{0, 1, 2, 3, 4, 5, 6, 255} {
		for _, a := range someWords() {
			for _, b := range someWords() {
				common := slices.ContainsFunc(plainLongs(kind, a), func(long string) bool { return slices.Contains(plainLongs(kind, b), long) })
				if got := Same(kind, a, b); got != (a == b || common) {
					t.Fatalf("Same(%d, %q, %q) = %v", kind, a, b, got)
				}
			}
		}
	}
}

// P5.4: what Short returns is of the same row.
func TestShortIsOfTheRow(t *testing.T) {
	for kind := range uint8(7) {
		for _, word := range someWords() {
			if short, ok := Short(kind, word); ok && !slices.Contains(Longs(kind, short), word) {
				t.Errorf("%q is not among Longs(%d, %q)", word, kind, short)
			}
		}
	}
}
