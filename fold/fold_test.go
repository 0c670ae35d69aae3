package fold

import (
	"math/rand"
	"regexp"
	"slices"
	"strings"
	"testing"
)

// tableOfLetters lists the chapter's table: the letters, and behind them the second bytes with the first byte C3.
var tableOfLetters = []struct {
	letters string
	seconds []byte
}{
	{"A", []byte{0x80, 0x81, 0x82, 0x83, 0x85, 0xA0, 0xA1, 0xA2, 0xA3, 0xA5}},
	{"AE", []byte{0x84, 0x86, 0xA4, 0xA6}},
	{"C", []byte{0x87, 0xA7}},
	{"E", []byte{0x88, 0x89, 0x8A, 0x8B, 0xA8, 0xA9, 0xAA, 0xAB}},
	{"I", []byte{0x8C, 0x8D, 0x8E, 0x8F, 0xAC, 0xAD, 0xAE, 0xAF}},
	{"D", []byte{0x90, 0xB0}},
	{"N", []byte{0x91, 0xB1}},
	{"O", []byte{0x92, 0x93, 0x94, 0x95, 0x98, 0xB2, 0xB3, 0xB4, 0xB5, 0xB8}},
	{"OE", []byte{0x96, 0xB6}},
	{"U", []byte{0x99, 0x9A, 0x9B, 0xB9, 0xBA, 0xBB}},
	{"UE", []byte{0x9C, 0xBC}},
	{"Y", []byte{0x9D, 0xBD, 0xBF}},
	{"TH", []byte{0x9E, 0xBE}},
	{"SS", []byte{0x9F}},
}

// pairs returns what two bytes of the table of letters become.
func pairs() map[string]string {
	m := map[string]string{
		"\xC5\x92": "OE", "\xC5\x93": "OE", "\xC5\xA0": "S", "\xC5\xA1": "S", "\xC5\xBD": "Z", "\xC5\xBE": "Z",
	}
	for _, row := range tableOfLetters {
		for _, second := range row.seconds {
			m["\xC3"+string([]byte{second})] = row.letters
		}
	}
	return m
}

var (
	letterPairs = pairs()
	blankRuns   = regexp.MustCompile(" +")
)

// plainFold folds as the chapter's table says it, and then removes blanks.
func plainFold(s string) string {
	var b strings.Builder
	for i := 0; i < len(s); i++ {
		if i+1 < len(s) && letterPairs[s[i:i+2]] != "" {
			b.WriteString(letterPairs[s[i:i+2]])
			i++
			continue
		}
		switch {
		case strings.IndexByte("ABCDEFGHIJKLMNOPQRSTUVWXYZ0123456789-/", s[i]) >= 0:
			b.WriteByte(s[i])
		case strings.IndexByte("abcdefghijklmnopqrstuvwxyz", s[i]) >= 0:
			b.WriteByte(s[i] - 32)
		default:
			b.WriteByte(' ')
		}
	}
	return strings.Trim(blankRuns.ReplaceAllString(b.String(), " "), " ")
}

// anyText returns a text of up to 12 bytes that often has pairs of the table, and beginnings of them.
func anyText(r *rand.Rand) string {
	b := make([]byte, r.Intn(13))
	for i := range b {
		switch r.Intn(6) {
		case 0:
			b[i] = "\xC3\xC5"[r.Intn(2)]
		case 1:
			b[i] = byte(0x80 + r.Intn(64))
		case 2:
			b[i] = ' '
		case 3:
			b[i] = byte(r.Intn(256))
		default:
			b[i] = "aAzZ09-/"[r.Intn(8)]
		}
	}
	return string(b)
}

// P5.1: the chapter's examples, and edges.
func TestFold(t *testing.T) {
	for _, c := range []struct{ s, want string }{
		{" 12-a  Rue\xC2\xA0St. Jean,", "12-A RUE ST JEAN"},
		{"\xC3\x84x\xC3\x9F", "AEXSS"},
		{"\xC3\x97", ""},
		{"\xC3", ""},
		{"", ""},
		{" ", ""},
		{"     ", ""},
		{"a", "A"},
		{" a ", "A"},
		{"a  b", "A B"},
		{"  a\t\n b  ", "A B"},
		{"a\x00b", "A B"},
		{"a\xC3b", "A B"},
		{"a\xC3", "A"},
		{"a\xC5", "A"},
		{"\xC3\xC3\x84", "AE"},
		{"\xC5\xC3\x84", "AE"},
		{"a\xC3\xC5\x92", "A OE"},
		{"\xC3\x9F\x9F", "SS"},
		{"\xC3\x84\xC3\x96\xC3\x9C", "AEOEUE"},
		{"\xC3\x7F\xC3\xC0", ""},
		{"\xC4\x84", ""},
		{"M\xC3\xBCnchen", "MUENCHEN"},
		{"@`[{.:", ""},
		{"-/-", "-/-"},
		{"12 N. Main St.", "12 N MAIN ST"},
		{"\u0161\u017E\u0153\u00FF", "SZOEY"},
		{"A\xCC\x88", "A"},
		{"\xEF\xBC\xA1", ""},
	} {
		if got := Fold(c.s); got != c.want {
			t.Errorf("Fold(%q) = %q, not %q", c.s, got, c.want)
		}
	}
}

// P5.1: every byte, and every two bytes, alone and between letters.
func TestFoldBytes(t *testing.T) {
	for first := range 256 {
		for second := range 256 {
			pair := string([]byte{byte(first), byte(second)})
			for _, s := range []string{pair[:1], pair, "x" + pair + "y", "0" + pair + pair} {
				if got, want := Fold(s), plainFold(s); got != want {
					t.Fatalf("Fold(%q) = %q, not %q", s, got, want)
				}
			}
		}
	}
}

// P5.1: all texts of up to 5 bytes of a few kinds, and any texts.
func TestFoldTexts(t *testing.T) {
	check := func(s string) {
		want := plainFold(s)
		if got := Fold(s); got != want {
			t.Fatalf("Fold(%q) = %q, not %q", s, got, want)
		}
		if got := Right(s); got != (s == want) {
			t.Fatalf("Right(%q) = %v", s, got)
		}
	}
	all := []string{""}
	for range 5 {
		var longer []string
		for _, s := range all {
			for _, c := range []string{" ", "a", "7", ".", "\xC3", "\x84", "\x97", "\xC5"} {
				longer = append(longer, s+c)
				check(s + c)
			}
		}
		all = longer
	}
	r := rand.New(rand.NewSource(5))
	for range 50000 {
		check(anyText(r))
	}
	long := strings.Repeat(" a\xC3\x9F ..", 100000)
	check(long)
	check(Fold(long))
}

// P5.1
func TestRight(t *testing.T) {
	for _, s := range []string{"", "A", "A B", "12-A/3 RUE", "-", "0"} {
		if !Right(s) {
			t.Errorf("%q is folded", s)
		}
	}
	for _, s := range []string{" ", "a", " A", "A ", "A  B", "A.B", "A\tB", "\xC3\x84", "\xC3", "A\n", "\x00"} {
		if Right(s) {
			t.Errorf("%q is not folded", s)
		}
	}
}

// P5.1: only blanks are between words, whatever the other bytes are.
func TestWords(t *testing.T) {
	for _, c := range []struct {
		s    string
		want []string
	}{
		{"", nil},
		{" ", nil},
		{"   ", nil},
		{"a", []string{"a"}},
		{"A B", []string{"A", "B"}},
		{"  A   bc ", []string{"A", "bc"}},
		{"a\tb\nc", []string{"a\tb\nc"}},
		{"a\xC2\xA0b \u3000 \x00", []string{"a\xC2\xA0b", "\u3000", "\x00"}},
		{"\xFF \xC3 \x84", []string{"\xFF", "\xC3", "\x84"}},
		{"\xC3 \x84\xE3\x80", []string{"\xC3", "\x84\xE3\x80"}},
		{"A A A", []string{"A", "A", "A"}},
	} {
		if got := Words(c.s); !slices.Equal(got, c.want) {
			t.Errorf("Words(%q) = %q, not %q", c.s, got, c.want)
		}
	}
	r := rand.New(rand.NewSource(6))
	for range 20000 {
		s := anyText(r)
		var want []string
		for _, w := range strings.Split(s, " ") {
			if w != "" {
				want = append(want, w)
			}
		}
		if got := Words(s); !slices.Equal(got, want) {
			t.Fatalf("Words(%q) = %q, not %q", s, got, want)
		}
	}
}

// R3: what a caller does to words changes no other result.
func TestWordsAreNew(t *testing.T) {
	words := Words("A B C")
	_ = append(words[:1], "X")
	words[0] = "Y"
	if got := Words("A B C"); !slices.Equal(got, []string{"A", "B", "C"}) {
		t.Error(got)
	}
}

// P5.4: what follows for folded texts.
func TestFoldConsequences(t *testing.T) {
	r := rand.New(rand.NewSource(7))
	for range 50000 {
		s, other := anyText(r), anyText(r)
		f, g := Fold(s), Fold(other)
		if Fold(f) != f || !Right(f) {
			t.Fatalf("the folded text of %q, %q, is not folded", s, f)
		}
		if len(f) > len(s) {
			t.Fatalf("the folded text of %q, %q, is longer", s, f)
		}
		both := f + " " + g
		if f == "" || g == "" {
			both = f + g
		}
		if got := Fold(s + " " + other); got != both {
			t.Fatalf("Fold(%q with %q) = %q, not %q", s, other, got, both)
		}
		if got := strings.Join(Words(f), " "); got != f {
			t.Fatalf("the words of %q are those of %q", f, got)
		}
	}
}
