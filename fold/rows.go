package fold

import "slices"

// The kinds of abbreviations.
const (
	KindPre    uint8 = 1
	KindSuffix uint8 = 2
	KindUnit   uint8 = 3
	KindBox    uint8 = 4
	KindName   uint8 = 5
)

// Row is a row of the table of abbreviations.
type Row struct {
	Kind        uint8
	Long, Short string
}

var rows = [40]Row{
	{KindPre, "NORTH", "N"},
	{KindPre, "SOUTH", "S"},
	{KindPre, "EAST", "E"},
	{KindPre, "WEST", "W"},
	{KindPre, "NORTHEAST", "NE"},
	{KindPre, "NORTHWEST", "NW"},
	{KindPre, "SOUTHEAST", "SE"},
	{KindPre, "SOUTHWEST", "SW"},
	{KindSuffix, "STREET", "ST"},
	{KindSuffix, "AVENUE", "AVE"},
	{KindSuffix, "AVENUE", "AV"},
	{KindSuffix, "ROAD", "RD"},
	{KindSuffix, "DRIVE", "DR"},
	{KindSuffix, "LANE", "LN"},
	{KindSuffix, "COURT", "CT"},
	{KindSuffix, "PLACE", "PL"},
	{KindSuffix, "SQUARE", "SQ"},
	{KindSuffix, "BOULEVARD", "BLVD"},
	{KindSuffix, "TERRACE", "TER"},
	{KindSuffix, "HIGHWAY", "HWY"},
	{KindSuffix, "CRESCENT", "CRES"},
	{KindSuffix, "WAY", "WAY"},
	{KindSuffix, "STRASSE", "STR"},
	{KindSuffix, "PLATZ", "PL"},
	{KindSuffix, "WEG", "WEG"},
	{KindSuffix, "ALLEE", "AL"},
	{KindUnit, "APARTMENT", "APT"},
	{KindUnit, "SUITE", "STE"},
	{KindUnit, "FLOOR", "FL"},
	{KindUnit, "ROOM", "RM"},
	{KindUnit, "FLAT", "FL"},
	{KindUnit, "UNIT", "UNIT"},
	{KindBox, "BOX", "BOX"},
	{KindBox, "POSTBOX", "PB"},
	{KindBox, "POSTFACH", "PF"},
	{KindName, "SAINT", "ST"},
	{KindName, "SAINTE", "STE"},
	{KindName, "MOUNT", "MT"},
	{KindName, "FORT", "FT"},
	{KindName, "DOCTOR", "DR"},
}

// Table returns the table of abbreviations.
func Table() []Row {
	table := rows
	return table[:]
}

// Longs returns the long words that a word may stand for.
func Longs(kind uint8, word string) []string {
	return selected(func(r Row) (string, bool) { return r.Long, r.hasKind(kind) && r.hasWord(word) })
}

// Short returns the short word of a long one.
func Short(kind uint8, word string) (string, bool) {
	row := first(func(r Row) bool { return r.hasKind(kind) && r.Long == word })
	return row.Short, row != Row{}
}

// Kinds returns the kinds that have a word.
func Kinds(word string) uint8 {
	var sum uint8
	for _, kind := range selected(func(r Row) (uint8, bool) { return r.Kind, r.hasWord(word) }) {
		sum += 1 << kind
	}
	return sum
}

// Same reports whether two words may stand for the same one.
func Same(kind uint8, a, b string) bool {
	if a == b {
		return true
	}
	longs := Longs(kind, b)
	return slices.ContainsFunc(Longs(kind, a), func(long string) bool { return slices.Contains(longs, long) })
}

// hasKind reports whether a row is of a kind; every row is if the kind is 0.
func (r Row) hasKind(kind uint8) bool { return kind == 0 || r.Kind == kind }

// hasWord reports whether a word is of a row.
func (r Row) hasWord(word string) bool { return r.Long == word || r.Short == word }

// first returns the first row that is wanted, and the zero row, which is not in the table, if there is none.
func first(wanted func(Row) bool) Row {
	for _, r := range rows {
		if wanted(r) {
			return r
		}
	}
	return Row{}
}

// selected returns what a function takes from the rows that it wants, in their order, each once.
func selected[T comparable](take func(Row) (T, bool)) []T {
	var taken []T
	for _, r := range rows {
		if t, wanted := take(r); wanted && !slices.Contains(taken, t) {
			taken = append(taken, t)
		}
	}
	return taken
}
