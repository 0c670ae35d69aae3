package lex

import (
	"fmt"
	"math/rand"
	"regexp"
	"slices"
	"strconv"
	"strings"
	"testing"

	"letterbag/api"
	"letterbag/fold"
)

// plainClasses is the chapter's table: the number of each class, and a pattern of the words that have it.
var plainClasses = []struct {
	number  uint16
	pattern *regexp.Regexp
}{
	{1, pattern(`[1-9][0-9]{0,5}`)},
	{2, pattern(`[1-9][0-9]{0,5}[A-Z]`)},
	{4, pattern(`[A-Z0-9-]*[A-Z][A-Z0-9-]*`)},
	{8, pattern(`NORTH|N|SOUTH|S|EAST|E|WEST|W|NORTHEAST|NE|NORTHWEST|NW|SOUTHEAST|SE|SOUTHWEST|SW`)},
	{16, pattern(`STREET|ST|AVENUE|AVE|AV|ROAD|RD|DRIVE|DR|LANE|LN|COURT|CT|PLACE|PL|SQUARE|SQ|BOULEVARD|BLVD|TERRACE|TER|HIGHWAY|HWY|CRESCENT|CRES|WAY|STRASSE|STR|PLATZ|WEG|ALLEE|AL`)},
	{32, pattern(`APARTMENT|APT|SUITE|STE|FLOOR|FL|ROOM|RM|FLAT|UNIT`)},
	{64, pattern(`BOX|POSTBOX|PB|POSTFACH|PF`)},
	{128, pattern(`[A-Z0-9]{1,6}`)},
	{256, pattern(`[A-Z]{2}`)},
	{512, pattern(`[0-9]{5}`)},
	{1024, pattern(`([A-Z][0-9]){3}`)},
	{2048, pattern(`[A-Z][0-9][A-Z]`)},
	{4096, pattern(`[0-9][A-Z][0-9]`)},
	{8192, pattern(`[0-9]{4}`)},
}

// pattern returns an expression that only whole words match.
func pattern(s string) *regexp.Regexp { return regexp.MustCompile(`\A(?:` + s + `)\z`) }

// plainClassesOf returns the classes of a word by the chapter's table.
func plainClassesOf(word string) uint16 {
	var sum uint16
	for _, c := range plainClasses {
		if c.pattern.MatchString(word) {
			sum += c.number
		}
	}
	return sum
}

// plainNumber returns what Number returns by the chapter's words.
func plainNumber(word string) (int, string, bool) {
	classes := plainClassesOf(word)
	if classes&(1+2) == 0 {
		return 0, "", false
	}
	letter := strings.TrimLeft(word, "0123456789")
	n, _ := strconv.Atoi(strings.TrimSuffix(word, letter))
	return n, letter, true
}

// plainCode returns what Code returns by the chapter's words.
func plainCode(country uint8, s string) (string, bool) {
	codes := map[uint8]*regexp.Regexp{
		api.CountryA: pattern(`[0-9]{5}`),
		api.CountryB: pattern(`[A-Z][0-9][A-Z] ?[0-9][A-Z][0-9]`),
		api.CountryC: pattern(`[0-9]{4}`),
	}
	if codes[country] == nil || !codes[country].MatchString(s) {
		return "", false
	}
	return strings.ReplaceAll(s, " ", ""), true
}

// eachWord calls a function with all words of up to most of some signs.
func eachWord(signs string, most int, f func(word string)) {
	layer := []string{""}
	for n := 0; ; n++ {
		for _, word := range layer {
			f(word)
		}
		if n == most {
			return
		}
		var next []string
		for _, word := range layer {
			for i := range len(signs) {
				next = append(next, word+signs[i:i+1])
			}
		}
		layer = next
	}
}

// eachNear calls a function with a word, and with those in which one byte is another one, missing, or there besides.
func eachNear(word string, f func(word string)) {
	f(word)
	for i := range len(word) + 1 {
		for b := range 256 {
			put := string([]byte{byte(b)})
			f(word[:i] + put + word[i:])
			if i < len(word) {
				f(word[:i] + put + word[i+1:])
			}
		}
		if i < len(word) {
			f(word[:i] + word[i+1:])
		}
	}
}

// samples lists words of each class, and words that just have none.
func samples() []string {
	l := []string{
		"", "-", "/", "1/2", "A-B", "A", "Z", "0", "1", "9", "01234", "12345", "1234", "123", "123456", "1234567", "012345",
		"1A", "12B", "999999Z", "100000A", "012B", "1234567A", "0A", "12AB", "K1A", "0B1", "K1A0B1", "K1A0B", "IL", "ILL",
		"ABCDEF", "ABCDEFG", "A1B2C3", "A1B2C3D", "-A", "A-", "--", "1-2", "1-A",
	}
	for _, row := range fold.Table() {
		l = append(l, row.Long, row.Short)
	}
	return l
}

func wantClasses(t *testing.T, word string) {
	t.Helper()
	if got, want := Classes(word), plainClassesOf(word); got != want {
		t.Errorf("Classes(%q): %d, want %d", word, got, want)
	}
}

func wantNumber(t *testing.T, word string) {
	t.Helper()
	number, letter, is := Number(word)
	wantNumber, wantLetter, want := plainNumber(word)
	if number != wantNumber || letter != wantLetter || is != want {
		t.Errorf("Number(%q): %d %q %v, want %d %q %v", word, number, letter, is, wantNumber, wantLetter, want)
	}
}

func wantCode(t *testing.T, country uint8, s string) {
	t.Helper()
	got, is := Code(country, s)
	want, wantIs := plainCode(country, s)
	if got != want || is != wantIs {
		t.Errorf("Code(%d, %q): %q %v, want %q %v", country, s, got, is, want, wantIs)
	}
}

// P8.3
func TestClasses(t *testing.T) {
	for _, c := range []struct {
		word string
		want uint16
	}{
		{"12345", 1 + 128 + 512},
		{"01234", 128 + 512},
		{"1234", 1 + 128 + 8192},
		{"0000", 128 + 8192},
		{"K1A", 4 + 128 + 2048},
		{"0B1", 4 + 128 + 4096},
		{"1B1", 4 + 128 + 4096},
		{"K1A0B1", 4 + 128 + 1024},
		{"1/2", 0},
		{"-", 0},
		{"A-B", 4},
		{"", 0},
		{"0", 128},
		{"1", 1 + 128},
		{"999999", 1 + 128},
		{"1000000", 0},
		{"000000", 128},
		{"0000000", 0},
		{"9Z", 2 + 4 + 128},
		{"99999Z", 2 + 4 + 128},
		{"999999Z", 2 + 4}, // 7 bytes: no flat
		{"1000000Z", 4},
		{"0A", 4 + 128},
		{"N", 4 + 8 + 128},
		{"NE", 4 + 8 + 128 + 256},
		{"ST", 4 + 16 + 128 + 256}, // also of KindName, which has no class
		{"SAINT", 4 + 128},
		{"MOUNT", 4 + 128},
		{"STE", 4 + 32 + 128},
		{"FL", 4 + 32 + 128 + 256},
		{"PB", 4 + 64 + 128 + 256},
		{"BOX", 4 + 64 + 128},
		{"POSTFACH", 4 + 64},
		{"BOULEVARD", 4 + 16},
		{"SOUTHWEST", 4 + 8},
		{"st", 0},
		{"A B", 0},
		{"12 345", 0},
		{"A\n", 0},
		{"1234\n", 0},
		{"\xC3\x84", 0},
		{strings.Repeat("A", 1<<20), 4},
		{strings.Repeat("-", 1<<20), 0},
		{strings.Repeat("-", 1<<20) + "A", 4},
		{strings.Repeat("1", 1<<20), 0},
	} {
		if got := Classes(c.word); got != c.want {
			t.Errorf("Classes(%.20q): %d, want %d", c.word, got, c.want)
		}
	}
}

// P8.3
func TestClassesAndNumbersOfAllShortWords(t *testing.T) {
	eachWord("AZ019-", 5, func(word string) { wantClasses(t, word); wantNumber(t, word) })
	eachWord("A01", 8, func(word string) { wantClasses(t, word); wantNumber(t, word) })
	eachWord("A1 /a\n", 4, func(word string) { wantClasses(t, word); wantNumber(t, word) })
}

// P8.3
func TestClassesAndNumbersOfAllBytes(t *testing.T) {
	for _, word := range samples() {
		eachNear(word, func(word string) { wantClasses(t, word); wantNumber(t, word) })
	}
}

// P8.3
func TestNumber(t *testing.T) {
	for _, c := range []struct {
		word   string
		number int
		letter string
		is     bool
	}{
		{"12B", 12, "B", true},
		{"012", 0, "", false},
		{"1234567", 0, "", false},
		{"12", 12, "", true},
		{"1", 1, "", true},
		{"7A", 7, "A", true},
		{"999999", 999999, "", true},
		{"999999Z", 999999, "Z", true},
		{"100000", 100000, "", true},
		{"1234567Z", 0, "", false},
		{"0", 0, "", false},
		{"0A", 0, "", false},
		{"A", 0, "", false},
		{"", 0, "", false},
		{"12AB", 0, "", false},
		{"A12", 0, "", false},
		{"12b", 0, "", false},
		{"-1", 0, "", false},
		{"+1", 0, "", false},
		{"1_2", 0, "", false},
		{"0x1F", 0, "", false},
		{" 1", 0, "", false},
		{"1 ", 0, "", false},
		{"12 B", 0, "", false},
		{"99999999999999999999999", 0, "", false},
		{"\xD9\xA1", 0, "", false}, // a digit, but none of 0 to 9
	} {
		number, letter, is := Number(c.word)
		if number != c.number || letter != c.letter || is != c.is {
			t.Errorf("Number(%q): %d %q %v, want %d %q %v", c.word, number, letter, is, c.number, c.letter, c.is)
		}
	}
}

// P8.4
func TestCode(t *testing.T) {
	for _, c := range []struct {
		country uint8
		s       string
		want    string
	}{
		{api.CountryA, "12345", "12345"},
		{api.CountryA, "00000", "00000"},
		{api.CountryA, "1234", ""},
		{api.CountryA, "123456", ""},
		{api.CountryA, "K1A0B1", ""},
		{api.CountryA, "K1A 0B1", ""},
		{api.CountryA, "12 345", ""},
		{api.CountryA, "12345 ", ""},
		{api.CountryB, "K1A 0B1", "K1A0B1"},
		{api.CountryB, "K1A0B1", "K1A0B1"},
		{api.CountryB, "K1A  0B1", ""},
		{api.CountryB, " K1A0B1", ""},
		{api.CountryB, "K1A0B1 ", ""},
		{api.CountryB, " K1A 0B1", ""},
		{api.CountryB, "K1A 0B1 ", ""},
		{api.CountryB, "K1A\t0B1", ""},
		{api.CountryB, "K1 A0B1", ""},
		{api.CountryB, "K1A0 B1", ""},
		{api.CountryB, " ", ""},
		{api.CountryB, "K1A", ""},
		{api.CountryB, "0B1", ""},
		{api.CountryB, "K1A ", ""},
		{api.CountryB, " 0B1", ""},
		{api.CountryB, "0B1 K1A", ""},
		{api.CountryB, "K1A K1A", ""},
		{api.CountryB, "0B1 0B1", ""},
		{api.CountryB, "0K1A0B", ""},
		{api.CountryB, "k1a 0b1", ""},
		{api.CountryB, "12345", ""},
		{api.CountryB, "1234", ""},
		{api.CountryC, "1234", "1234"},
		{api.CountryC, "0000", "0000"},
		{api.CountryC, "12345", ""},
		{api.CountryC, "123", ""},
		{api.CountryC, "12 34", ""},
		{api.CountryC, "K1A 0B1", ""},
		{0, "12345", ""},
		{0, "", ""},
		{4, "1234", ""},
		{4, "K1A 0B1", ""},
		{255, "12345", ""},
		{api.CountryA, "", ""},
		{api.CountryB, "", ""},
		{api.CountryC, "", ""},
		{api.CountryB, strings.Repeat("K1A ", 1<<18), ""},
	} {
		got, is := Code(c.country, c.s)
		if got != c.want || is != (c.want != "") {
			t.Errorf("Code(%d, %.20q): %q %v, want %q", c.country, c.s, got, is, c.want)
		}
	}
}

// P8.4
func TestCodesAreThoseOfTheChapter(t *testing.T) {
	for country := range 256 {
		for _, s := range []string{"12345", "1234", "K1A0B1", "K1A 0B1", ""} {
			wantCode(t, uint8(country), s)
		}
	}
	for country := range uint8(5) {
		for _, s := range []string{"12345", "1234", "K1A0B1", "K1A 0B1"} {
			eachNear(s, func(s string) { wantCode(t, country, s) })
		}
		eachWord("A1 ", 7, func(s string) { wantCode(t, country, s) })
	}
}

// P8.5: A code is a code of its country, and itself.
func TestCodesOfCodesAreTheSame(t *testing.T) {
	r := rand.New(rand.NewSource(84))
	kinds := [][]string{api.CountryA: {"99999"}, api.CountryB: {"A9A9A9", "A9A 9A9"}, api.CountryC: {"9999"}}
	for country := api.CountryA; country <= api.CountryC; country++ {
		forms := kinds[country]
		for range 1000 {
			s := []byte(forms[r.Intn(len(forms))])
			for i, b := range s {
				switch b {
				case '9':
					s[i] = byte('0' + r.Intn(10))
				case 'A':
					s[i] = byte('A' + r.Intn(26))
				}
			}
			code, is := Code(country, string(s))
			again, same := Code(country, code)
			if !is || !same || again != code || strings.Contains(code, " ") {
				t.Fatalf("Code(%d, %q): %q %v, and of it %q %v", country, s, code, is, again, same)
			}
		}
	}
}

// P8.5: No word has ClassNumber and ClassName both; each word of ClassLettered has ClassName, too.
func TestClassesThatGoTogether(t *testing.T) {
	check := func(word string) {
		classes := Classes(word)
		if classes&ClassNumber != 0 && classes&ClassName != 0 {
			t.Errorf("%q has ClassNumber and ClassName: %d", word, classes)
		}
		if classes&ClassLettered != 0 && classes&ClassName == 0 {
			t.Errorf("%q has ClassLettered, but not ClassName: %d", word, classes)
		}
		if _, _, is := Number(word); is != (classes&(ClassNumber|ClassLettered) != 0) {
			t.Errorf("Number(%q): %v, but its classes are %d", word, is, classes)
		}
	}
	eachWord("A01-", 7, check)
	for _, word := range samples() {
		check(word)
	}
}

// The numbers of the classes are those of the chapter's table, in its order, and each word of it has just these.
func TestNumbersOfClasses(t *testing.T) {
	got := []uint16{
		ClassNumber, ClassLettered, ClassName, ClassPre, ClassSuffix, ClassUnit, ClassBox,
		ClassFlat, ClassRegion, ClassCodeA, ClassCodeB, ClassFirst, ClassLast, ClassCodeC,
	}
	for i, c := range plainClasses {
		if got[i] != c.number {
			t.Errorf("class %d: %d, want %d", i, got[i], c.number)
		}
	}
	if !slices.Equal([]int{MaxLines, MaxLine, MaxTokens}, []int{6, 60, 40}) {
		t.Error(MaxLines, MaxLine, MaxTokens)
	}
}

// ExampleCode shows a code that stands in two words.
func ExampleCode() {
	fmt.Println(Code(api.CountryB, "K1A 0B1"))
	fmt.Println(Code(api.CountryA, "1234"))
	// Output:
	// K1A0B1 true
	//  false
}
