package lex

import (
	"fmt"
	"math/rand"
	"slices"
	"strings"
	"sync"
	"testing"

	"letterbag/api"
	"letterbag/fold"
)

// repeated returns n lines, all the same.
func repeated(line string, n int) []string { return slices.Repeat([]string{line}, n) }

// someText returns a text of up to most bytes, which often has lines, blanks and pairs of bytes that are letters.
func someText(r *rand.Rand, most int) string {
	const signs = "AZaz0159-/, .\n\n\r\t\x00\xC3\xC3\x84\x9F\xC5\x92\xFF"
	b := make([]byte, r.Intn(most+1))
	for i := range b {
		b[i] = signs[r.Intn(len(signs))]
	}
	return string(b)
}

// someLines lists up to most lines as addresses have them.
func someLines(r *rand.Rand, most int) []string {
	words := []string{"12", "12B", "N", "MAIN", "ST", "APT", "BOX", "1/2", "-", "A-B", "IL", "12345", "K1A", "0B1", "1234"}
	var l []string
	for range r.Intn(most + 1) {
		var line []string
		for range 1 + r.Intn(8) {
			line = append(line, words[r.Intn(len(words))])
		}
		l = append(l, strings.Join(line, " "))
	}
	return l
}

// plainLines returns the lines of a text as the chapter defines them, and the error that they have.
func plainLines(s string) ([]string, api.Errno) {
	var l []string
	long := false
	for _, part := range strings.Split(s, "\x0A") {
		if line := fold.Fold(part); line != "" {
			l = append(l, line)
			long = long || len(line) > 60
		}
	}
	switch {
	case len(l) > 6:
		return nil, api.ErrMany
	case long:
		return nil, api.ErrLong
	}
	return l, api.OK
}

// plainTokens returns the tokens of lines that are right: where each one is, is looked for byte by byte.
func plainTokens(lines []string) []Token {
	var l []Token
	for number, line := range lines {
		for at := range len(line) {
			if line[at] == ' ' || at > 0 && line[at-1] != ' ' {
				continue
			}
			word, _, _ := strings.Cut(line[at:], " ")
			l = append(l, Token{word, number, at, plainClassesOf(word)})
		}
	}
	return l
}

func wantLines(t *testing.T, s string, want []string, wantError api.Errno) {
	t.Helper()
	got, e := Lines(s)
	if e != wantError || !slices.Equal(got, want) {
		t.Errorf("Lines(%.80q): %q %v, want %q %v", s, got, e, want, wantError)
	}
}

func wantTokens(t *testing.T, lines []string, want []Token, wantError api.Errno) {
	t.Helper()
	got, e := Tokens(lines)
	if e != wantError || !slices.Equal(got, want) {
		t.Errorf("Tokens(%.200q): %v %v, want %v %v", lines, got, e, want, wantError)
	}
}

// P8.1
func TestLines(t *testing.T) {
	wide := strings.Repeat("A", 60)
	for _, c := range []struct {
		s    string
		want []string
	}{
		{"12b  Main st,\n\nSpringfield", []string{"12B MAIN ST", "SPRINGFIELD"}},
		{"", nil},
		{"\n", nil},
		{" \n,.;\n\t\n\x00", nil},
		{"a", []string{"A"}},
		{"\na\n", []string{"A"}},
		{"a\r\nb\r\n", []string{"A", "B"}},
		{"a\rb\vc\u0085d\u2028e", []string{"A B C D E"}}, // only the byte 10 ends a line
		{"b\na\nb", []string{"B", "A", "B"}},             // in their order, and the same one twice
		{"\xC3\n\x84", nil},                              // the bytes of a letter do not reach across lines
		{"\xC3\x84\n\xC3\x9F", []string{"AE", "SS"}},
		{"1\n2\n3\n4\n5\n6", []string{"1", "2", "3", "4", "5", "6"}},
		{"\n1\n\n2\n.\n3\n4\n \n5\n6\n\n", []string{"1", "2", "3", "4", "5", "6"}}, // empty ones do not count
		{wide, []string{wide}},
		{strings.Repeat(" ", 100) + wide + strings.Repeat(",", 100), []string{wide}}, // the folded line counts
		{"A" + strings.Repeat("\xFF", 100) + "B", []string{"A B"}},
		{strings.Repeat("\n", 1<<20) + "a", []string{"A"}},
	} {
		wantLines(t, c.s, c.want, api.OK)
	}
}

// P8.1
func TestLinesErrors(t *testing.T) {
	long := strings.Repeat("A", 61)
	for _, c := range []struct {
		s    string
		want api.Errno
	}{
		{"1\n2\n3\n4\n5\n6\n7", api.ErrMany},
		{strings.Repeat("a\n\n", 7), api.ErrMany},
		{strings.Repeat("a\n", 1<<16), api.ErrMany},
		{long, api.ErrLong},
		{"a\n" + long, api.ErrLong},
		{long + "\na", api.ErrLong},
		{"1\n2\n3\n4\n5\n" + long, api.ErrLong},
		{strings.Repeat("a ", 30) + "aa", api.ErrLong},
		{strings.Repeat("\xC3\x9F", 31), api.ErrLong},
		{strings.Repeat("x", 1<<20), api.ErrLong},
		{long + "\n2\n3\n4\n5\n6\n7", api.ErrMany}, // ahead of ErrLong, wherever the long line is
		{"1\n2\n3\n4\n5\n6\n" + long, api.ErrMany},
		{"1\n2\n3\n4\n5\n6\n\n\n" + long + "\n", api.ErrMany},
	} {
		wantLines(t, c.s, nil, c.want)
	}
}

// P8.1
func TestLinesAreThoseOfTheChapter(t *testing.T) {
	r := rand.New(rand.NewSource(8))
	for range 50000 {
		s := someText(r, 40)
		if r.Intn(8) == 0 {
			s = someText(r, 8) + strings.Repeat("W", 55+r.Intn(10)) + someText(r, 8)
		}
		want, e := plainLines(s)
		wantLines(t, s, want, e)
	}
}

// P8.2
func TestTokens(t *testing.T) {
	wantTokens(t, []string{"12B MAIN ST", "SPRINGFIELD"}, []Token{
		{"12B", 0, 0, 2 + 4 + 128},
		{"MAIN", 0, 4, 4 + 128},
		{"ST", 0, 9, 4 + 16 + 128 + 256},
		{"SPRINGFIELD", 1, 0, 4},
	}, api.OK)
	wantTokens(t, nil, nil, api.OK)
	wantTokens(t, []string{}, nil, api.OK)
	wantTokens(t, []string{"A"}, []Token{{"A", 0, 0, 4 + 128}}, api.OK)
	wantTokens(t, []string{"A", "A", "A A"}, []Token{
		{"A", 0, 0, 4 + 128}, {"A", 1, 0, 4 + 128}, {"A", 2, 0, 4 + 128}, {"A", 2, 2, 4 + 128},
	}, api.OK)
	wantTokens(t, []string{"1/2 - K1A 0B1 12345"}, []Token{ // words without a class are tokens, too
		{"1/2", 0, 0, 0}, {"-", 0, 4, 0}, {"K1A", 0, 6, 4 + 128 + 2048}, {"0B1", 0, 10, 4 + 128 + 4096}, {"12345", 0, 14, 1 + 128 + 512},
	}, api.OK)
	wide := strings.Repeat("A", 60)
	wantTokens(t, repeated(wide, 6), []Token{
		{wide, 0, 0, 4}, {wide, 1, 0, 4}, {wide, 2, 0, 4}, {wide, 3, 0, 4}, {wide, 4, 0, 4}, {wide, 5, 0, 4},
	}, api.OK)
}

// P8.2
func TestTokensUpToTheMost(t *testing.T) {
	for _, lines := range [][]string{
		{"1 2 3 4 5 6 7 8 9 0 1 2 3 4 5 6 7 8 9 0", "1 2 3 4 5 6 7 8 9 0 1 2 3 4 5 6 7 8 9 0"},
		{"1 2 3 4 5 6 7 8", "1 2 3 4 5 6 7", "1 2 3 4 5 6 7", "1 2 3 4 5 6", "1 2 3 4 5 6", "1 2 3 4 5 6"},
	} {
		got, e := Tokens(lines)
		if e != api.OK || len(got) != 40 || !slices.Equal(got, plainTokens(lines)) {
			t.Errorf("Tokens(%q): %v %v", lines, got, e)
		}
		lines[1] += " X"
		wantTokens(t, lines, nil, api.ErrMany)
	}
	full := strings.TrimSpace(strings.Repeat("A ", 30))
	wantTokens(t, repeated(full, 2), nil, api.ErrMany)
	wantTokens(t, repeated(full, 6), nil, api.ErrMany)
}

// P8.2
func TestTokensErrors(t *testing.T) {
	long := strings.Repeat("A", 61)
	full := strings.TrimSpace(strings.Repeat("A ", 30))
	for _, c := range []struct {
		lines []string
		want  api.Errno
	}{
		{repeated("A", 7), api.ErrMany},
		{repeated("A", 1000), api.ErrMany},
		{[]string{long}, api.ErrLong},
		{[]string{"A", "B", long}, api.ErrLong},
		{[]string{strings.Repeat(" ", 61)}, api.ErrLong}, // the line counts as it is
		{[]string{""}, api.ErrArg},
		{[]string{"A", ""}, api.ErrArg},
		{[]string{"a"}, api.ErrArg},
		{[]string{" A"}, api.ErrArg},
		{[]string{"A "}, api.ErrArg},
		{[]string{"A  B"}, api.ErrArg},
		{[]string{" "}, api.ErrArg},
		{[]string{"A,B"}, api.ErrArg},
		{[]string{"A\nB"}, api.ErrArg},
		{[]string{"A\tB"}, api.ErrArg},
		{[]string{"A\x00"}, api.ErrArg},
		{[]string{"\xC3\x84"}, api.ErrArg},
		{[]string{"A", "B", "C", "D", "E", "f"}, api.ErrArg},
		// The order of the errors, wherever what is wrong stands.
		{[]string{long, "A", "", "D", "E", "f", "G"}, api.ErrMany},
		{repeated("", 7), api.ErrMany},
		{[]string{"", long}, api.ErrLong},
		{[]string{"a", long}, api.ErrLong},
		{[]string{strings.Repeat("a", 61)}, api.ErrLong},
		{[]string{full, full, long}, api.ErrLong},
		{[]string{full, full, ""}, api.ErrArg},
		{[]string{full, full, "a"}, api.ErrArg},
		{[]string{"a", full, full}, api.ErrArg},
	} {
		wantTokens(t, c.lines, nil, c.want)
	}
}

// P8.2
func TestTokensAreThoseOfTheChapter(t *testing.T) {
	r := rand.New(rand.NewSource(82))
	for range 5000 {
		lines := someLines(r, 6)
		want := plainTokens(lines)
		if len(want) > 40 {
			wantTokens(t, lines, nil, api.ErrMany)
			continue
		}
		wantTokens(t, lines, want, api.OK)
	}
}

// R3, R4: lines that were passed are as before, results are new memory, and calls do not disturb each other.
func TestCallsShareNothing(t *testing.T) {
	lines := append(make([]string, 0, 8), "12B MAIN ST", "SPRINGFIELD IL 12345")
	spare := lines[:8]
	want := slices.Clone(spare)
	first, _ := Tokens(lines)
	second, _ := Tokens(lines)
	if len(first) == 0 || !slices.Equal(first, second) || !slices.Equal(spare, want) {
		t.Fatalf("%v %v %q", first, second, spare)
	}
	for i := range first {
		first[i] = Token{}
	}
	third, _ := Tokens(lines)
	if !slices.Equal(second, third) {
		t.Errorf("%v, want %v", third, second)
	}
	one, _ := Lines("a\nb")
	one[0] = "X"
	wantLines(t, "a\nb", []string{"A", "B"}, api.OK)
	var group sync.WaitGroup
	for range 8 {
		group.Go(func() {
			for range 200 {
				if got, e := Tokens(lines); e != api.OK || !slices.Equal(got, second) {
					t.Errorf("Tokens: %v %v", got, e)
				}
			}
		})
	}
	group.Wait()
}

// P8.5: Lines put together with a byte 10 between them have the same lines.
func TestLinesOfLinesAreTheSame(t *testing.T) {
	r := rand.New(rand.NewSource(85))
	some := 0
	for range 20000 {
		lines, e := Lines(someText(r, 40))
		if e != api.OK {
			continue
		}
		some += len(lines)
		wantLines(t, strings.Join(lines, "\x0A"), lines, api.OK)
	}
	if some == 0 {
		t.Error("no lines at all")
	}
}

// P8.5: The words of a line, with one blank between two, are the line. (And lines of a text are right for Tokens, unless they have too many.)
func TestTokensOfLinesAreTheLines(t *testing.T) {
	r := rand.New(rand.NewSource(853))
	for range 20000 {
		lines, e := Lines(someText(r, 60))
		if e != api.OK {
			continue
		}
		tokens, e := Tokens(lines)
		if e != api.OK {
			if total := len(fold.Words(strings.Join(lines, " "))); e != api.ErrMany || total <= 40 {
				t.Fatalf("Tokens(%q): %v", lines, e)
			}
			continue
		}
		again := make([]string, len(lines))
		for _, token := range tokens {
			if again[token.Line] != "" {
				again[token.Line] += " "
			}
			if token.At != len(again[token.Line]) {
				t.Errorf("%q: %v is not at %d", lines, token, len(again[token.Line]))
			}
			again[token.Line] += token.Text
		}
		if !slices.Equal(again, lines) {
			t.Errorf("%q, want %q", again, lines)
		}
	}
}

// Example shows the chapter's first examples.
func Example() {
	lines, _ := Lines("12b  Main st,\n\nSpringfield")
	tokens, _ := Tokens(lines)
	for _, token := range tokens {
		fmt.Println(token.Text, token.Line, token.At, token.Classes)
	}
	// Output:
	// 12B 0 0 134
	// MAIN 0 4 132
	// ST 0 9 404
	// SPRINGFIELD 1 0 4
}
