package lexicon

import (
	"cmp"
	"fmt"
	"math"
	"math/rand"
	"slices"
	"strings"
	"sync"
	"testing"

	"letterbag/api"
	"letterbag/edit"
)

var ones = edit.Costs{Insert: 1, Delete: 1, Change: 1, Swap: 1}

// made returns a lexicon of words that are right.
func made(t testing.TB, words ...string) *Lexicon {
	t.Helper()
	x, e := New(words)
	if x == nil || e != api.OK {
		t.Fatalf("New(%q): %v %v", words, x, e)
	}
	return x
}

// example returns the lexicon of the chapter's examples.
func example(t testing.TB) *Lexicon {
	t.Helper()
	return made(t, "MAIN", "MAINE", "MINE", "ROAD")
}

// numbered lists n different words.
func numbered(n int) []string {
	var l []string
	for i := range n {
		l = append(l, fmt.Sprintf("W%d", i))
	}
	return l
}

// someText returns a text of up to most letters of a few kinds, so that many texts are near one another.
func someText(r *rand.Rand, most int) string {
	b := make([]byte, r.Intn(most+1))
	for i := range b {
		b[i] = "AB\x00\xFF"[r.Intn(4)]
	}
	return string(b)
}

// someWords lists up to most different words.
func someWords(r *rand.Rand, most int) []string {
	var l []string
	for range r.Intn(most + 1) {
		if word := someText(r, 6); word != "" && !slices.Contains(l, word) {
			l = append(l, word)
		}
	}
	return l
}

// someCosts returns costs that are right.
func someCosts(r *rand.Rand) edit.Costs {
	return edit.Costs{Insert: 1 + r.Intn(4), Delete: 1 + r.Intn(4), Change: 1 + r.Intn(4), Swap: 1 + r.Intn(4)}
}

// plainHits lists the hits as the chapter defines them.
func plainHits(t testing.TB, words []string, s string, c edit.Costs, most int) []Hit {
	t.Helper()
	var l []Hit
	for number, word := range words {
		cost, e := edit.Distance(s, word, c)
		if e != api.OK {
			t.Fatal(e)
		}
		if cost <= most {
			l = append(l, Hit{number, cost})
		}
	}
	slices.SortStableFunc(l, func(a, b Hit) int { return cmp.Compare(a.Cost, b.Cost) })
	return l
}

// right returns the hits that a method answers to arguments that are right.
func right(t testing.TB, ask func(string, edit.Costs, int) ([]Hit, api.Errno), s string, c edit.Costs, most int) []Hit {
	t.Helper()
	l, e := ask(s, c, most)
	if e != api.OK {
		t.Fatalf("the hits of %q, %v, %d: %v", s, c, most, e)
	}
	return l
}

// near returns all hits of arguments that are right.
func near(t testing.TB, x *Lexicon, s string, c edit.Costs, most int) []Hit {
	t.Helper()
	return right(t, x.Near, s, c, most)
}

// best returns the best hits of arguments that are right.
func best(t testing.TB, x *Lexicon, s string, c edit.Costs, most int) []Hit {
	t.Helper()
	return right(t, x.Best, s, c, most)
}

// P7.1
func TestNewKeepsWords(t *testing.T) {
	long := strings.Repeat("L", MaxWord)
	for _, words := range [][]string{
		nil,
		{},
		{"A"},
		{"MAIN", "MAINE", "MAI", "M", "ROAD"}, // words that begin others are no doubles
		{"a", "A", " ", "\x00", "\xFF", "\x00\x00"},
		{long, long[1:], long[1:] + "M"},
		numbered(MaxWords),
	} {
		x := made(t, words...)
		if x.Len() != len(words) {
			t.Errorf("%q: Len is %d", words, x.Len())
		}
		for number, word := range words {
			if got, is := x.Word(number); got != word || !is {
				t.Errorf("%q: Word(%d) is %q %v", words, number, got, is)
			}
		}
	}
}

// P7.1
func TestNewErrors(t *testing.T) {
	long := strings.Repeat("L", MaxWord+1)
	for _, c := range []struct {
		words []string
		want  api.Errno
	}{
		{[]string{""}, api.ErrArg},
		{[]string{"A", ""}, api.ErrArg},
		{[]string{long}, api.ErrLong},
		{[]string{"A", long}, api.ErrLong},
		{[]string{"A", "A"}, ErrTwice},
		{[]string{"A", "B", "A"}, ErrTwice},
		{[]string{"AB", "A", "AB"}, ErrTwice},
		{[]string{long[1:], long[1:]}, ErrTwice},
		{numbered(MaxWords + 1), api.ErrMany},
		{append(numbered(MaxWords-1), "W0"), ErrTwice},
		{append(numbered(MaxWords-1), ""), api.ErrArg},
		// The first word with an error decides, whatever its error is.
		{[]string{"", long, "A", "A"}, api.ErrArg},
		{[]string{long, "", "A", "A"}, api.ErrLong},
		{[]string{"A", "A", "", long}, ErrTwice},
		{[]string{"", ""}, api.ErrArg},
		{[]string{long, long}, api.ErrLong},
		// Too many words are an error ahead of those of all words.
		{append([]string{"", long}, numbered(MaxWords)...), api.ErrMany},
		{make([]string, MaxWords+1), api.ErrMany},
	} {
		if x, e := New(c.words); x != nil || e != c.want {
			t.Errorf("New(%.60q): %v %v, want %v", c.words, x, e, c.want)
		}
	}
	if ErrTwice != 70 || MaxWords != 1000 || MaxWord != 40 {
		t.Error("a limit or an error has another number")
	}
}

// P7.1, R3
func TestNewKeepsNothingOfItsArgument(t *testing.T) {
	words := []string{"B", "A", "C", "D"}[:3]
	x := made(t, words...)
	y, e := New(words)
	if e != api.OK || !slices.Equal(words[:4], []string{"B", "A", "C", "D"}) {
		t.Fatal("New changed its argument", words[:4], e)
	}
	words[0] = "Z"
	if word, _ := y.Word(0); word != "B" {
		t.Errorf("a lexicon changed with the list that it was made from: %q", word)
	}
	if number, is := y.Find("B"); number != 0 || !is {
		t.Error(number, is)
	}
	if l := near(t, y, "Z", ones, 0); len(l) != 0 {
		t.Error(l)
	}
	if word, _ := x.Word(0); word != "B" {
		t.Error(word)
	}
}

// P7.2
func TestWordThatIsNotThere(t *testing.T) {
	x := example(t)
	for _, n := range []int{-1, 4, 5, MaxWords, math.MaxInt, math.MinInt} {
		if word, is := x.Word(n); word != "" || is {
			t.Errorf("Word(%d): %q %v", n, word, is)
		}
	}
	if word, is := made(t).Word(0); word != "" || is {
		t.Errorf("a lexicon without words has %q %v", word, is)
	}
}

// P7.2
func TestFind(t *testing.T) {
	x := example(t)
	for number, word := range []string{"MAIN", "MAINE", "MINE", "ROAD"} {
		if got, is := x.Find(word); got != number || !is {
			t.Errorf("Find(%q): %d %v", word, got, is)
		}
	}
	for _, word := range []string{"", "M", "MAI", "MAINES", "MAINX", "main", "ROAD ", " ROAD", "OAD", "X", "\x00", strings.Repeat("MAIN", 100000)} {
		if got, is := x.Find(word); got != 0 || is {
			t.Errorf("Find(%.20q): %d %v", word, got, is)
		}
	}
	if got, is := made(t).Find(""); got != 0 || is {
		t.Error(got, is)
	}
}

// P7.2
func TestPrefix(t *testing.T) {
	x := made(t, "ROAD", "MAINE", "MINE", "MAIN", "M", "RO")
	for _, c := range []struct {
		p    string
		want []int
	}{
		{"", []int{0, 1, 2, 3, 4, 5}},
		{"M", []int{1, 2, 3, 4}},
		{"MA", []int{1, 3}},
		{"MAIN", []int{1, 3}},
		{"MAINE", []int{1}},
		{"MAINES", nil},
		{"RO", []int{0, 5}},
		{"ROA", []int{0}},
		{"A", nil},
		{"m", nil},
		{strings.Repeat("M", 1000), nil},
	} {
		if got := x.Prefix(c.p); !slices.Equal(got, c.want) {
			t.Errorf("Prefix(%.20q): %v, want %v", c.p, got, c.want)
		}
	}
	if l := made(t).Prefix(""); len(l) != 0 {
		t.Error(l)
	}
	// Results are new each time.
	x.Prefix("M")[0] = 99
	if got := x.Prefix("M"); !slices.Equal(got, []int{1, 2, 3, 4}) {
		t.Error(got)
	}
}

// P7.2
func TestWordsOfManyLexicons(t *testing.T) {
	r := rand.New(rand.NewSource(7))
	for range 300 {
		words := someWords(r, 60)
		x := made(t, words...)
		for range 20 {
			s := someText(r, 6)
			number := slices.Index(words, s)
			if got, is := x.Find(s); is != (number >= 0) || got != max(number, 0) {
				t.Fatalf("%q: Find(%q): %d %v", words, s, got, is)
			}
			var want []int
			for number, word := range words {
				if strings.HasPrefix(word, s) {
					want = append(want, number)
				}
			}
			if got := x.Prefix(s); !slices.Equal(got, want) {
				t.Fatalf("%q: Prefix(%q): %v, want %v", words, s, got, want)
			}
		}
	}
}

// P7.2
func TestPrefixOfManyWords(t *testing.T) {
	words := numbered(MaxWords)
	slices.Reverse(words)
	x := made(t, words...)
	all := x.Prefix("")
	if len(all) != MaxWords || !slices.IsSorted(all) || all[0] != 0 || all[MaxWords-1] != MaxWords-1 {
		t.Error(len(all))
	}
	if l := x.Prefix("W99"); len(l) != 11 || !slices.IsSorted(l) { // W99, W990 to W999
		t.Error(l)
	}
}

// P7.3, the chapter's examples
func TestExamples(t *testing.T) {
	x := example(t)
	if l := near(t, x, "MAINE", ones, 1); !slices.Equal(l, []Hit{{1, 0}, {0, 1}, {2, 1}}) {
		t.Error(l)
	}
	if l := near(t, x, "MANI", ones, 1); !slices.Equal(l, []Hit{{0, 1}}) {
		t.Error(l)
	}
	if l := best(t, x, "MAINS", ones, 2); !slices.Equal(l, []Hit{{0, 1}, {1, 1}}) {
		t.Error(l)
	}
	if l := near(t, x, "X", ones, 0); len(l) != 0 {
		t.Error(l)
	}
	if l := x.Prefix("MA"); !slices.Equal(l, []int{0, 1}) {
		t.Error(l)
	}
	if n, is := x.Find("ROAD"); n != 3 || !is {
		t.Error(n, is)
	}
	if x, e := New([]string{"A", ""}); x != nil || e != api.ErrArg {
		t.Error(x, e)
	}
	if x, e := New([]string{"A", "B", "A"}); x != nil || e != ErrTwice {
		t.Error(x, e)
	}
}

// P7.3
func TestHitsByDefinition(t *testing.T) {
	r := rand.New(rand.NewSource(73))
	for range 400 {
		words := someWords(r, 40)
		x := made(t, words...)
		for range 10 {
			s, c, most := someText(r, 7), someCosts(r), r.Intn(14)-2
			want := plainHits(t, words, s, c, most)
			if got := near(t, x, s, c, most); !slices.Equal(got, want) {
				t.Fatalf("%q: Near(%q, %v, %d): %v, want %v", words, s, c, most, got, want)
			}
			first := slices.DeleteFunc(slices.Clone(want), func(h Hit) bool { return h.Cost != want[0].Cost })
			if got := best(t, x, s, c, most); !slices.Equal(got, first) {
				t.Fatalf("%q: Best(%q, %v, %d): %v, want %v", words, s, c, most, got, first)
			}
		}
	}
}

// P7.3: the distance is that from the text to the word, not the other way round.
func TestHitsGoFromTheTextToTheWord(t *testing.T) {
	x := made(t, "AB")
	c := edit.Costs{Insert: 2, Delete: 7, Change: 1000, Swap: 1000}
	for s, cost := range map[string]int{"A": 2, "": 4, "ABC": 7, "AXB": 7, "AB": 0} {
		if l := near(t, x, s, c, 7); !slices.Equal(l, []Hit{{0, cost}}) {
			t.Errorf("Near(%q): %v, want the cost %d", s, l, cost)
		}
	}
}

// P7.3
func TestHitsInOrder(t *testing.T) {
	x := made(t, "AXX", "AX", "A", "B", "AXXX", "BX", "C")
	want := []Hit{{2, 0}, {1, 1}, {3, 1}, {6, 1}, {0, 2}, {5, 2}, {4, 3}}
	if l := near(t, x, "A", ones, 3); !slices.Equal(l, want) {
		t.Error(l)
	}
	if l := best(t, x, "A", ones, 3); !slices.Equal(l, want[:1]) {
		t.Error(l)
	}
	if l := best(t, x, "D", ones, 3); !slices.Equal(l, []Hit{{2, 1}, {3, 1}, {6, 1}}) {
		t.Error(l)
	}
}

// P7.3
func TestLimits(t *testing.T) {
	x := example(t)
	for _, most := range []int{-1, -2, math.MinInt} {
		for _, s := range []string{"MAIN", "X", ""} {
			if l := near(t, x, s, ones, most); len(l) != 0 {
				t.Errorf("Near(%q) within %d: %v", s, most, l)
			}
			if l := best(t, x, s, ones, most); len(l) != 0 {
				t.Errorf("Best(%q) within %d: %v", s, most, l)
			}
		}
	}
	want := []Hit{{0, 4}, {2, 4}, {3, 4}, {1, 5}}
	for _, most := range []int{5, 6, 1000000, math.MaxInt} {
		if l := near(t, x, "", ones, most); !slices.Equal(l, want) {
			t.Errorf("within %d: %v", most, l)
		}
	}
	if l := near(t, x, "", ones, 4); !slices.Equal(l, want[:3]) {
		t.Error(l)
	}
	dear := edit.Costs{Insert: edit.MaxCost, Delete: edit.MaxCost, Change: edit.MaxCost, Swap: edit.MaxCost}
	y := made(t, strings.Repeat("A", MaxWord))
	if l := near(t, y, strings.Repeat("B", edit.MaxText), dear, 60*edit.MaxCost); !slices.Equal(l, []Hit{{0, 60 * edit.MaxCost}}) {
		t.Error(l)
	}
	if l := near(t, y, strings.Repeat("B", edit.MaxText), dear, 60*edit.MaxCost-1); len(l) != 0 {
		t.Error(l)
	}
}

// P7.3
func TestHitsErrors(t *testing.T) {
	fine, long := strings.Repeat("A", edit.MaxText), strings.Repeat("A", edit.MaxText+1)
	var wrong []edit.Costs
	for _, n := range []int{0, -1, edit.MaxCost + 1, math.MaxInt, math.MinInt} {
		wrong = append(wrong, edit.Costs{Insert: n, Delete: 1, Change: 1, Swap: 1}, edit.Costs{Insert: 1, Delete: n, Change: 1, Swap: 1},
			edit.Costs{Insert: 1, Delete: 1, Change: n, Swap: 1}, edit.Costs{Insert: 1, Delete: 1, Change: 1, Swap: n})
	}
	objects := map[string]*Lexicon{"example": example(t), "no words": made(t)}
	expect := func(name string, s string, c edit.Costs, most int, want api.Errno) {
		t.Helper()
		x := objects[name]
		if l, e := x.Near(s, c, most); len(l) != 0 || e != want {
			t.Errorf("%s: Near(%.5q, %v, %d): %v %v, want %v", name, s, c, most, l, e, want)
		}
		if l, e := x.Best(s, c, most); len(l) != 0 || e != want {
			t.Errorf("%s: Best(%.5q, %v, %d): %v %v, want %v", name, s, c, most, l, e, want)
		}
	}
	for name := range objects {
		for _, most := range []int{-1, 1} {
			for _, c := range wrong {
				expect(name, fine, c, most, api.ErrArg)
				expect(name, long, c, most, api.ErrArg)
			}
			expect(name, long, ones, most, api.ErrLong)
			expect(name, fine, ones, most, api.OK)
		}
	}
}

// P7.3, R3
func TestHitsShareNoMemory(t *testing.T) {
	x := example(t)
	for _, ask := range []func(string, edit.Costs, int) ([]Hit, api.Errno){x.Near, x.Best} {
		first, _ := ask("MAINS", ones, 1)
		second, _ := ask("MAINS", ones, 1)
		first = append(first[:0], Hit{99, 99}, Hit{98, 98})
		third, _ := ask("MAINS", ones, 1)
		if want := []Hit{{0, 1}, {1, 1}}; !slices.Equal(second, want) || !slices.Equal(third, want) {
			t.Error(first, second, third)
		}
	}
}

// P7.4: the hits for a limit are the first ones of those for a greater limit.
func TestHitsOfGreaterLimits(t *testing.T) {
	r := rand.New(rand.NewSource(74))
	for range 200 {
		x := made(t, someWords(r, 30)...)
		s, c := someText(r, 7), someCosts(r)
		all := near(t, x, s, c, math.MaxInt)
		if len(all) != x.Len() {
			t.Fatal(len(all), x.Len())
		}
		for most := -1; most < 30; most++ {
			l := near(t, x, s, c, most)
			if len(l) > len(all) || !slices.Equal(l, all[:len(l)]) || len(l) < len(all) && all[len(l)].Cost <= most {
				t.Fatalf("Near(%q, %v, %d): %v of %v", s, c, most, l, all)
			}
		}
	}
}

// P7.4: with the limit 0 only the text itself can be a hit.
func TestHitsOfLimitZero(t *testing.T) {
	r := rand.New(rand.NewSource(740))
	for range 300 {
		x := made(t, someWords(r, 30)...)
		s, c := someText(r, 6), someCosts(r)
		var want []Hit
		if number, is := x.Find(s); is {
			want = []Hit{{number, 0}}
		}
		if l := near(t, x, s, c, 0); !slices.Equal(l, want) {
			t.Fatalf("Near(%q, %v, 0): %v, want %v", s, c, l, want)
		}
	}
}

// costs returns the costs of hits by their words.
func costs(t testing.TB, x *Lexicon, l []Hit) map[string]int {
	t.Helper()
	m := map[string]int{}
	for _, hit := range l {
		word, is := x.Word(hit.Word)
		if !is {
			t.Fatal(hit)
		}
		m[word] = hit.Cost
	}
	return m
}

// P7.4: the order of the words changes nothing but their numbers, and a word that is not there changes no other hit.
func TestHitsOfOtherOrders(t *testing.T) {
	r := rand.New(rand.NewSource(741))
	for range 200 {
		words := append(someWords(r, 30), "C")
		mixed := slices.Clone(words)
		r.Shuffle(len(mixed), func(i, j int) { mixed[i], mixed[j] = mixed[j], mixed[i] })
		x, y := made(t, words...), made(t, mixed...)
		left := r.Intn(len(words))
		z := made(t, slices.Delete(slices.Clone(words), left, left+1)...)
		for range 5 {
			s, c, most := someText(r, 7), someCosts(r), r.Intn(10)
			want := costs(t, x, near(t, x, s, c, most))
			if got := costs(t, y, near(t, y, s, c, most)); fmt.Sprint(got) != fmt.Sprint(want) {
				t.Fatalf("%q and %q: %v and %v", words, mixed, want, got)
			}
			delete(want, words[left])
			if got := costs(t, z, near(t, z, s, c, most)); fmt.Sprint(got) != fmt.Sprint(want) {
				t.Fatalf("%q without %d: %v, want %v", words, left, got, want)
			}
		}
	}
}

// R8
func TestNoObjects(t *testing.T) {
	long := strings.Repeat("A", edit.MaxText+1)
	for name, x := range map[string]*Lexicon{"nil": nil, "zero": {}} {
		if n := x.Len(); n != 0 {
			t.Errorf("%s: Len is %d", name, n)
		}
		if word, is := x.Word(0); word != "" || is {
			t.Errorf("%s: Word: %q %v", name, word, is)
		}
		for _, word := range []string{"", "A"} {
			if n, is := x.Find(word); n != 0 || is {
				t.Errorf("%s: Find: %d %v", name, n, is)
			}
			if l := x.Prefix(word); len(l) != 0 {
				t.Errorf("%s: Prefix: %v", name, l)
			}
		}
		for _, c := range []edit.Costs{ones, {}} {
			for _, s := range []string{"", "A", long} {
				if l, e := x.Near(s, c, 1); len(l) != 0 || e != api.ErrNil {
					t.Errorf("%s: Near: %v %v", name, l, e)
				}
				if l, e := x.Best(s, c, 1); len(l) != 0 || e != api.ErrNil {
					t.Errorf("%s: Best: %v %v", name, l, e)
				}
			}
		}
	}
}

// R8: a lexicon without words is an object nevertheless.
func TestNoWords(t *testing.T) {
	for _, words := range [][]string{nil, {}} {
		x := made(t, words...)
		if x.Len() != 0 || len(near(t, x, "", ones, 9)) != 0 || len(best(t, x, "A", ones, 9)) != 0 {
			t.Error(x.Len())
		}
	}
}

// R4: two lexicons have nothing in common, and one can be asked by many at a time.
func TestLexiconsAreApart(t *testing.T) {
	x, y := example(t), made(t, "MAIN", "MAX")
	if l := y.Prefix("MA"); !slices.Equal(l, []int{0, 1}) {
		t.Error(l)
	}
	if _, is := x.Find("MAX"); is {
		t.Error("a word of another lexicon was found")
	}
	want := near(t, x, "MAINE", ones, 2)
	var all sync.WaitGroup
	for range 8 {
		all.Go(func() {
			if l, e := x.Near("MAINE", ones, 2); e != api.OK || !slices.Equal(l, want) {
				t.Error(l, e)
			}
			if l := x.Prefix("M"); !slices.Equal(l, []int{0, 1, 2}) {
				t.Error(l)
			}
		})
	}
	all.Wait()
}

func BenchmarkNear(b *testing.B) {
	x := made(b, numbered(MaxWords)...)
	for b.Loop() {
		x.Near("W9999", ones, 1)
	}
}
