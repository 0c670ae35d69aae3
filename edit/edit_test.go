package edit

import (
	"bytes"
	"math"
	"math/rand"
	"slices"
	"strings"
	"testing"

	"letterbag/api"
)

var (
	ones    = Costs{1, 1, 1, 1}
	notOnes = Costs{Insert: 1, Delete: 1, Change: 3, Swap: 1}
)

// wrongCosts lists costs of which one is beyond a limit.
func wrongCosts() []Costs {
	var l []Costs
	for _, n := range []int{0, -1, MaxCost + 1, math.MaxInt, math.MinInt} {
		l = append(l, Costs{n, 1, 1, 1}, Costs{1, n, 1, 1}, Costs{1, 1, n, 1}, Costs{1, 1, 1, n})
	}
	return append(l, Costs{})
}

// script makes steps of pairs: a kind, and its Byte.
func script(pairs ...uint8) []Op {
	var l []Op
	for i := 0; i < len(pairs); i += 2 {
		l = append(l, Op{pairs[i], pairs[i+1]})
	}
	return l
}

// found is a script, and its cost.
type found struct {
	ops  []Op
	cost int
}

// allScripts lists every script that turns a into b, by the chapter's table.
func allScripts(a, b string, c Costs) []found {
	if a == "" && b == "" {
		return []found{{}}
	}
	var l []found
	add := func(op Op, cost, takes, writes int) {
		for _, f := range allScripts(a[takes:], b[writes:], c) {
			l = append(l, found{append([]Op{op}, f.ops...), cost + f.cost})
		}
	}
	if a != "" {
		add(Op{OpDelete, 0}, c.Delete, 1, 0)
	}
	if b != "" {
		add(Op{OpInsert, b[0]}, c.Insert, 0, 1)
	}
	if a != "" && b != "" && a[0] == b[0] {
		add(Op{OpKeep, 0}, 0, 1, 1)
	}
	if a != "" && b != "" && a[0] != b[0] {
		add(Op{OpChange, b[0]}, c.Change, 1, 1)
	}
	if len(a) > 1 && len(b) > 1 && a[0] != a[1] && a[:2] == string([]byte{b[1], b[0]}) {
		add(Op{OpSwap, 0}, c.Swap, 2, 2)
	}
	return l
}

// before tells the order of scripts, step by step by their kinds.
func before(a, b []Op) int {
	return slices.CompareFunc(a, b, func(x, y Op) int { return int(x.Kind) - int(y.Kind) })
}

// plainPath picks the path out of all scripts.
func plainPath(a, b string, c Costs) found {
	return slices.MinFunc(allScripts(a, b, c), func(x, y found) int {
		if x.cost != y.cost {
			return x.cost - y.cost
		}
		return before(x.ops, y.ops)
	})
}

// plainDistance computes distances from the beginnings of texts on, all of them in one table.
func plainDistance(a, b string, c Costs) int {
	d := make([][]int, len(a)+1)
	for i := range d {
		d[i] = make([]int, len(b)+1)
		for j := range d[i] {
			if i == 0 || j == 0 {
				d[i][j] = i*c.Delete + j*c.Insert
				continue
			}
			d[i][j] = min(d[i-1][j]+c.Delete, d[i][j-1]+c.Insert)
			if a[i-1] == b[j-1] {
				d[i][j] = min(d[i][j], d[i-1][j-1])
			} else {
				d[i][j] = min(d[i][j], d[i-1][j-1]+c.Change)
			}
			if i > 1 && j > 1 && a[i-1] == b[j-2] && a[i-2] == b[j-1] && a[i-1] != a[i-2] {
				d[i][j] = min(d[i][j], d[i-2][j-2]+c.Swap)
			}
		}
	}
	return d[len(a)][len(b)]
}

// texts lists all texts of up to a length of the letters.
func texts(letters string, length int) []string {
	l := []string{""}
	for from := 0; length > 0; length-- {
		end := len(l)
		for _, s := range l[from:end] {
			for _, r := range letters {
				l = append(l, s+string(r))
			}
		}
		from = end
	}
	return l
}

// anyText returns a text of up to a length, of few different bytes.
func anyText(r *rand.Rand, length int) string {
	b := make([]byte, r.Intn(length+1))
	kinds := 1 + r.Intn(5)
	for i := range b {
		b[i] = "AB\x00\xFF "[r.Intn(kinds)]
	}
	return string(b)
}

// nearText returns a text that is made of another one by a few steps.
func nearText(r *rand.Rand, s string) string {
	b := []byte(s)
	for range r.Intn(6) {
		i := r.Intn(len(b) + 1)
		switch {
		case r.Intn(4) == 0 && len(b) < MaxText:
			b = slices.Insert(b, i, "AB\x00\xFF "[r.Intn(5)])
		case i == len(b):
		case r.Intn(3) == 0:
			b = slices.Delete(b, i, i+1)
		case i > 0:
			b[i-1], b[i] = b[i], b[i-1]
		default:
			b[i] = 'B'
		}
	}
	return string(b)
}

// anyCosts returns costs that are right, some of them at the limits.
func anyCosts(r *rand.Rand) Costs {
	one := func() int { return []int{1, 1, 2, 3, 1 + r.Intn(7), 1 + r.Intn(MaxCost), MaxCost}[r.Intn(7)] }
	return Costs{one(), one(), one(), one()}
}

// pairsOfTexts calls a function for many texts, near and far, with costs.
func pairsOfTexts(n, length int, f func(r *rand.Rand, a, b string, c Costs)) {
	r := rand.New(rand.NewSource(6))
	for range n {
		a := anyText(r, length)
		b := anyText(r, length)
		if r.Intn(2) == 0 {
			b = nearText(r, a)
		}
		f(r, a, b, anyCosts(r))
	}
}

// P6.1: costs that are right, and that are not.
func TestRight(t *testing.T) {
	for _, c := range []Costs{ones, {MaxCost, 1, 1, 1}, {1, MaxCost, 1, 1}, {1, 1, MaxCost, 1}, {1, 1, 1, MaxCost}, {1000, 1000, 1000, 1000}, {2, 3, 4, 5}} {
		if !Right(c) {
			t.Error(c)
		}
	}
	for _, c := range wrongCosts() {
		if Right(c) {
			t.Error(c)
		}
	}
}

// P6.1: the chapter's examples, and edges.
func TestDistance(t *testing.T) {
	long := strings.Repeat("A", MaxText)
	for _, x := range []struct {
		a, b string
		c    Costs
		want int
	}{
		{"ROAD", "RAOD", ones, 1},
		{"MAIN", "MAINE", ones, 1},
		{"AB", "", ones, 2},
		{"CA", "ABC", ones, 3},
		{"CA", "AC", ones, 1},
		{"AC", "ABC", ones, 1},
		{"A", "B", notOnes, 2},
		{"MAIN", "MINE", ones, 2},
		{"", "", ones, 0},
		{"", "AB", Costs{7, 1, 1, 1}, 14},
		{"AB", "", Costs{1, 7, 1, 1}, 14},
		{"A", "B", Costs{7, 7, 5, 7}, 5},
		{"AB", "BA", Costs{7, 7, 7, 5}, 5},
		{"AB", "BA", Costs{1, 1, 9, 3}, 2},
		{"AA", "AA", ones, 0},
		{"ABC", "CAB", ones, 2},
		{"ABC", "CBA", ones, 2},
		{"ABCD", "BADC", ones, 2},
		{"\x00\xFF", "\xFF\x00", ones, 1},
		{"\x00", "", ones, 1},
		{"A", "a", ones, 1},
		{"\xC3\x84", "A", ones, 2},
		{long, long, Costs{1000, 1000, 1000, 1000}, 0},
		{long, "", Costs{1000, 1000, 1000, 1000}, 60000},
		{"", long, Costs{1000, 1000, 1000, 1000}, 60000},
		{long, strings.Repeat("B", MaxText), Costs{1000, 1000, 1000, 1000}, 60000},
		{long, strings.Repeat("B", MaxText), Costs{499, 500, 1000, 1000}, 59940},
		{long[:59] + "B", "B" + long[:59], ones, 2},
	} {
		if d, e := Distance(x.a, x.b, x.c); d != x.want || e != api.OK {
			t.Errorf("%q to %q, %v: %d %d, want %d", x.a, x.b, x.c, d, e, x.want)
		}
	}
}

// P6.1: all short texts, by all of their scripts.
func TestDistanceOfShortTexts(t *testing.T) {
	short := texts("ABC", 3)
	for _, c := range []Costs{ones, notOnes, {2, 3, 4, 5}, {1, 1, 2, 3}, {1000, 1, 500, 7}} {
		for _, a := range short {
			for _, b := range short {
				if d, e := Distance(a, b, c); d != plainPath(a, b, c).cost || e != api.OK {
					t.Fatalf("%q to %q, %v: %d %d", a, b, c, d, e)
				}
			}
		}
	}
}

// P6.1: texts of all lengths, by one table of distances.
func TestDistanceOfLongTexts(t *testing.T) {
	pairsOfTexts(1000, MaxText, func(_ *rand.Rand, a, b string, c Costs) {
		if d, e := Distance(a, b, c); d != plainDistance(a, b, c) || e != api.OK {
			t.Fatalf("%q to %q, %v: %d %d", a, b, c, d, e)
		}
	})
}

// P6.1, P6.2, P6.3: errors in their order.
func TestErrorsOfTexts(t *testing.T) {
	long := strings.Repeat("A", MaxText+1)
	check := func(a, b string, c Costs, want api.Errno) {
		t.Helper()
		if d, e := Distance(a, b, c); d != 0 || e != want {
			t.Error("Distance:", len(a), len(b), c, d, e)
		}
		if d, in, e := Within(a, b, c, math.MaxInt); d != 0 || in || e != want {
			t.Error("Within:", len(a), len(b), c, d, in, e)
		}
		if l, d, e := Path(a, b, c); len(l) != 0 || d != 0 || e != want {
			t.Error("Path:", len(a), len(b), c, l, d, e)
		}
	}
	for _, c := range wrongCosts() {
		check("A", "B", c, api.ErrArg)
		check("A", "A", c, api.ErrArg)
		check("", "", c, api.ErrArg)
		check(long, long, c, api.ErrArg)
	}
	check(long, "", ones, api.ErrLong)
	check("", long, ones, api.ErrLong)
	check(long, long, ones, api.ErrLong)
	check(long[1:], long, ones, api.ErrLong)
	check(long, long[1:], ones, api.ErrLong)
	check(strings.Repeat("B", 1000), "B", ones, api.ErrLong)
}

// P6.2: the chapter's examples, and edges.
func TestWithin(t *testing.T) {
	for _, x := range []struct {
		a, b string
		most int
		want int
		in   bool
	}{
		{"MAIN", "MINE", 1, 0, false},
		{"MAIN", "MINE", 2, 2, true},
		{"MAIN", "MINE", 3, 2, true},
		{"MAIN", "MINE", math.MaxInt, 2, true},
		{"MAIN", "MINE", 0, 0, false},
		{"MAIN", "MINE", -1, 0, false},
		{"MAIN", "MAIN", 0, 0, true},
		{"MAIN", "MAIN", -1, 0, false},
		{"MAIN", "MAIN", math.MinInt, 0, false},
		{"", "", 0, 0, true},
		{"", "", -1, 0, false},
		{"", "A", 0, 0, false},
		{"", "A", 1, 1, true},
		{"A", "", 0, 0, false},
		{"A", "", 1, 1, true},
		{"AB", "BA", 0, 0, false},
		{"AB", "BA", 1, 1, true},
		{"ABCDEF", "BADCFE", 2, 0, false},
		{"ABCDEF", "BADCFE", 3, 3, true},
	} {
		if d, in, e := Within(x.a, x.b, ones, x.most); d != x.want || in != x.in || e != api.OK {
			t.Error(x, d, in, e)
		}
	}
	// The row between both bytes of a swap is above the limit.
	if d, in, e := Within("AB", "BA", Costs{9, 9, 9, 1}, 1); d != 1 || !in || e != api.OK {
		t.Error(d, in, e)
	}
}

// P6.2: every limit around the distance.
func TestWithinLimits(t *testing.T) {
	pairsOfTexts(2000, 20, func(r *rand.Rand, a, b string, c Costs) {
		want := plainDistance(a, b, c)
		for _, most := range []int{-1, 0, 1, want / 2, want - 2, want - 1, want, want + 1, 2 * want, r.Intn(10000)} {
			d, in, e := Within(a, b, c, most)
			if e != api.OK || in != (want <= most) || in && d != want || !in && d != 0 {
				t.Fatalf("%q to %q, %v, most %d: %d %v %d, want %d", a, b, c, most, d, in, e, want)
			}
		}
	})
}

// P6.3: the chapter's examples, and texts with several scripts of the least cost.
func TestPath(t *testing.T) {
	for _, x := range []struct {
		a, b string
		c    Costs
		want []Op
		cost int
	}{
		{"ROAD", "RAOD", ones, script(OpKeep, 0, OpSwap, 0, OpKeep, 0), 1},
		{"MAIN", "MAINE", ones, script(OpKeep, 0, OpKeep, 0, OpKeep, 0, OpKeep, 0, OpInsert, 'E'), 1},
		{"AB", "", ones, script(OpDelete, 0, OpDelete, 0), 2},
		{"CA", "ABC", ones, script(OpChange, 'A', OpChange, 'B', OpInsert, 'C'), 3},
		{"A", "B", notOnes, script(OpDelete, 0, OpInsert, 'B'), 2},
		{"", "", ones, nil, 0},
		{"", "AB", ones, script(OpInsert, 'A', OpInsert, 'B'), 2},
		{"AA", "A", ones, script(OpKeep, 0, OpDelete, 0), 1},
		{"A", "AA", ones, script(OpKeep, 0, OpInsert, 'A'), 1},
		{"AB", "BA", Costs{9, 9, 1, 2}, script(OpChange, 'B', OpChange, 'A'), 2},
		{"AB", "BA", Costs{1, 1, 9, 2}, script(OpSwap, 0), 2},
		{"AB", "BA", Costs{1, 1, 9, 3}, script(OpDelete, 0, OpKeep, 0, OpInsert, 'A'), 2},
		{"AB", "C", ones, script(OpChange, 'C', OpDelete, 0), 2},
		{"C", "AB", ones, script(OpChange, 'A', OpInsert, 'B'), 2},
		{"A", "\x00", ones, script(OpChange, 0), 1},
		{"", "\x00\xFF", ones, script(OpInsert, 0, OpInsert, 255), 2},
		{"ABA", "BAB", ones, script(OpChange, 'B', OpSwap, 0), 2},
	} {
		if l, d, e := Path(x.a, x.b, x.c); !slices.Equal(l, x.want) || d != x.cost || e != api.OK {
			t.Errorf("%q to %q, %v: %v %d %d, want %v %d", x.a, x.b, x.c, l, d, e, x.want, x.cost)
		}
	}
}

// P6.3: the longest path has MaxOps steps.
func TestLongestPath(t *testing.T) {
	a, b := strings.Repeat("A", MaxText), strings.Repeat("B", MaxText)
	l, d, e := Path(a, b, notOnes)
	if len(l) != MaxOps || d != MaxOps || e != api.OK {
		t.Fatal(len(l), d, e)
	}
	for i, op := range l {
		if want := script(OpDelete, 0, OpInsert, 'B')[i/MaxText]; op != want {
			t.Fatal(i, op)
		}
	}
	if s, e := Apply(a, l); s != b || e != api.OK {
		t.Error(s, e)
	}
	if n, e := Cost(l, notOnes); n != MaxOps || e != api.OK {
		t.Error(n, e)
	}
}

// P6.3: all short texts, by all of their scripts.
func TestPathOfShortTexts(t *testing.T) {
	short := texts("ABC", 3)
	for _, c := range []Costs{ones, notOnes, {1, 1, 2, 1}, {1, 1, 2, 2}, {1, 2, 3, 3}, {2, 1, 3, 5}, {3, 3, 1, 2}} {
		for _, a := range short {
			for _, b := range short {
				want := plainPath(a, b, c)
				if l, d, e := Path(a, b, c); !slices.Equal(l, want.ops) || d != want.cost || e != api.OK {
					t.Fatalf("%q to %q, %v: %v %d %d, want %v", a, b, c, l, d, e, want)
				}
			}
		}
	}
}

// P6.3: texts with several swaps and changes, by all of their scripts.
func TestPathOfTexts(t *testing.T) {
	pairsOfTexts(300, 5, func(r *rand.Rand, a, b string, _ Costs) {
		b = b[:min(len(b), 6)]
		c := Costs{1 + r.Intn(3), 1 + r.Intn(3), 1 + r.Intn(5), 1 + r.Intn(5)}
		want := plainPath(a, b, c)
		if l, d, e := Path(a, b, c); !slices.Equal(l, want.ops) || d != want.cost || e != api.OK {
			t.Fatalf("%q to %q, %v: %v %d %d, want %v", a, b, c, l, d, e, want)
		}
	})
}

// plainApply applies a script as the chapter's table says it; false if that is not possible.
func plainApply(s string, l []Op) (string, bool) {
	rest := []byte(s)
	var out bytes.Buffer
	for _, op := range l {
		need := map[uint8]int{OpKeep: 1, OpChange: 1, OpSwap: 2, OpDelete: 1, OpInsert: 0}
		n, known := need[op.Kind]
		noByte := op.Kind == OpKeep || op.Kind == OpSwap || op.Kind == OpDelete
		if !known || len(rest) < n || noByte && op.Byte != 0 {
			return "", false
		}
		taken := rest[:n]
		rest = rest[n:]
		switch op.Kind {
		case OpKeep:
			out.Write(taken)
		case OpChange:
			if taken[0] == op.Byte {
				return "", false
			}
			out.WriteByte(op.Byte)
		case OpSwap:
			if taken[0] == taken[1] {
				return "", false
			}
			out.WriteByte(taken[1])
			out.WriteByte(taken[0])
		case OpInsert:
			out.WriteByte(op.Byte)
		}
	}
	return out.String(), len(rest) == 0
}

// P6.4: the chapter's examples, and each row of the table.
func TestApply(t *testing.T) {
	for _, x := range []struct {
		s    string
		l    []Op
		want string
		e    api.Errno
	}{
		{"AB", script(OpSwap, 0), "BA", api.OK},
		{"AA", script(OpSwap, 0), "", ErrScript},
		{"AB", script(OpKeep, 0), "", ErrScript},
		{"A", script(OpChange, 'A'), "", ErrScript},
		{"", nil, "", api.OK},
		{"A", nil, "", ErrScript},
		{"A", script(OpKeep, 0), "A", api.OK},
		{"A", script(OpKeep, 'A'), "", ErrScript},
		{"", script(OpKeep, 0), "", ErrScript},
		{"A", script(OpChange, 'B'), "B", api.OK},
		{"A", script(OpChange, 0), "\x00", api.OK},
		{"A", script(OpChange, 255), "\xFF", api.OK},
		{"\x00", script(OpChange, 0), "", ErrScript},
		{"", script(OpChange, 'B'), "", ErrScript},
		{"", script(OpChange, 0), "", ErrScript},
		{"AB", script(OpSwap, 'A'), "", ErrScript},
		{"A", script(OpSwap, 0), "", ErrScript},
		{"", script(OpSwap, 0), "", ErrScript},
		{"ABC", script(OpSwap, 0, OpSwap, 0), "", ErrScript},
		{"ABC", script(OpKeep, 0, OpSwap, 0), "ACB", api.OK},
		{"A", script(OpDelete, 0), "", api.OK},
		{"A", script(OpDelete, 'A'), "", ErrScript},
		{"", script(OpDelete, 0), "", ErrScript},
		{"A", script(OpDelete, 0, OpDelete, 0), "", ErrScript},
		{"", script(OpInsert, 'A'), "A", api.OK},
		{"", script(OpInsert, 0), "\x00", api.OK},
		{"A", script(OpInsert, 'B'), "", ErrScript},
		{"A", script(OpInsert, 'B', OpKeep, 0), "BA", api.OK},
		{"A", script(OpKeep, 0, OpInsert, 'A'), "AA", api.OK},
		{"A", script(0, 0), "", ErrScript},
		{"A", script(6, 0), "", ErrScript},
		{"", script(0, 0), "", ErrScript},
		{"", script(6, 'A'), "", ErrScript},
		{"A", script(255, 0, OpKeep, 0), "", ErrScript},
		{"A", script(OpKeep, 0, 0, 0), "", ErrScript},
		{"\x80\xFF", script(OpKeep, 0, OpKeep, 0), "\x80\xFF", api.OK},
	} {
		if s, e := Apply(x.s, x.l); s != x.want || e != x.e {
			t.Errorf("%q, %v: %q %d, want %q %d", x.s, x.l, s, e, x.want, x.e)
		}
	}
}

// P6.4: what is too long is told ahead of all else.
func TestApplyLong(t *testing.T) {
	long := strings.Repeat("A", MaxText)
	keeps := slices.Repeat(script(OpKeep, 0), MaxText)
	inserts := slices.Repeat(script(OpInsert, 'B'), MaxText)
	full := slices.Concat(keeps, inserts)
	for _, x := range []struct {
		s    string
		l    []Op
		want string
		e    api.Errno
	}{
		{long, keeps, long, api.OK},
		{long, full, long + strings.Repeat("B", MaxText), api.OK},
		{"", append(inserts, inserts...), strings.Repeat("B", MaxOps), api.OK},
		{long + "A", append(keeps, Op{OpKeep, 0}), "", api.ErrLong},
		{long + "A", nil, "", api.ErrLong},
		{long, append(full, Op{OpInsert, 'B'}), "", api.ErrLong},
		{long, slices.Repeat(script(0, 0), MaxOps+1), "", api.ErrLong},
		{"", slices.Repeat(script(OpInsert, 'B'), 1000), "", api.ErrLong},
		{long, slices.Repeat(script(0, 0), MaxOps), "", ErrScript},
	} {
		if s, e := Apply(x.s, x.l); s != x.want || e != x.e {
			t.Errorf("%d bytes, %d steps: %q %d, want %q %d", len(x.s), len(x.l), s, e, x.want, x.e)
		}
	}
}

// P6.4: any scripts, by the chapter's table; they are not modified.
func TestApplyAny(t *testing.T) {
	r := rand.New(rand.NewSource(64))
	fitting := 0
	for range 200000 {
		s := anyText(r, 4)
		l := make([]Op, r.Intn(5))
		for i := range l {
			l[i] = Op{uint8(r.Intn(7)), []byte{0, 0, 0, 'A', 255}[r.Intn(5)]}
		}
		given := slices.Clone(l)
		want, fits := plainApply(s, l)
		e := api.OK
		if !fits {
			want, e = "", ErrScript
		} else {
			fitting++
		}
		if got, err := Apply(s, l); got != want || err != e {
			t.Fatalf("%q, %v: %q %d, want %q %d", s, l, got, err, want, e)
		}
		if !slices.Equal(l, given) {
			t.Fatal("modified:", given, l)
		}
	}
	if fitting < 1000 {
		t.Error("too few scripts that fit:", fitting)
	}
}

// P6.5: sums of costs, limits and errors in their order.
func TestCost(t *testing.T) {
	c := Costs{Insert: 1, Delete: 20, Change: 300, Swap: 1000}
	long := slices.Repeat(script(OpSwap, 0), MaxOps)
	for _, x := range []struct {
		l    []Op
		c    Costs
		want int
		e    api.Errno
	}{
		{nil, c, 0, api.OK},
		{script(OpKeep, 0), c, 0, api.OK},
		{script(OpChange, 'A'), c, 300, api.OK},
		{script(OpSwap, 0), c, 1000, api.OK},
		{script(OpDelete, 0), c, 20, api.OK},
		{script(OpInsert, 'A'), c, 1, api.OK},
		{script(OpInsert, 'A', OpKeep, 0, OpDelete, 0, OpInsert, 0, OpSwap, 0, OpChange, 0), c, 1322, api.OK},
		{script(OpKeep, 7, OpSwap, 7, OpDelete, 7), c, 1020, api.OK}, // only kinds are asked for
		{long, c, MaxOps * 1000, api.OK},
		{append(long, Op{OpKeep, 0}), c, 0, api.ErrLong},
		{append(long, Op{0, 0}), c, 0, api.ErrLong},
		{append(long, Op{0, 0}), Costs{}, 0, api.ErrArg},
		{script(0, 0), c, 0, ErrScript},
		{script(6, 0), c, 0, ErrScript},
		{script(255, 0), c, 0, ErrScript},
		{script(OpInsert, 'A', 6, 0), c, 0, ErrScript},
		{script(0, 0, OpInsert, 'A'), c, 0, ErrScript},
		{script(0, 0), Costs{1, 1, 1, 0}, 0, api.ErrArg},
	} {
		if n, e := Cost(x.l, x.c); n != x.want || e != x.e {
			t.Errorf("%d steps, %v: %d %d, want %d %d", len(x.l), x.c, n, e, x.want, x.e)
		}
	}
	for _, c := range wrongCosts() {
		if n, e := Cost(nil, c); n != 0 || e != api.ErrArg {
			t.Error(c, n, e)
		}
	}
}

// backwards returns a text from its last byte to its first one.
func backwards(s string) string {
	b := []byte(s)
	slices.Reverse(b)
	return string(b)
}

// P6.6: the distance is 0 exactly for equal texts.
func TestEqualTexts(t *testing.T) {
	short := texts("AB", 4)
	for _, a := range short {
		for _, b := range short {
			if d, e := Distance(a, b, ones); (d == 0) != (a == b) || e != api.OK {
				t.Fatal(a, b, d, e)
			}
		}
	}
}

// P6.6: texts exchanged, written backwards, deleted and inserted, and with a byte behind them.
func TestDistancesCompared(t *testing.T) {
	pairsOfTexts(1000, MaxText-1, func(_ *rand.Rand, a, b string, c Costs) {
		if len(b) == MaxText {
			b = b[1:]
		}
		d, e := Distance(a, b, c)
		exchanged, e2 := Distance(b, a, Costs{c.Delete, c.Insert, c.Change, c.Swap})
		back, e3 := Distance(backwards(a), backwards(b), c)
		longer, e4 := Distance(a+"A", b+"A", c)
		if e+e2+e3+e4 != api.OK || exchanged != d || back != d {
			t.Fatalf("%q to %q, %v: %d, %d, %d", a, b, c, d, exchanged, back)
		}
		if d > len(a)*c.Delete+len(b)*c.Insert || longer > d {
			t.Fatalf("%q to %q, %v: %d, %d", a, b, c, d, longer)
		}
	})
}

// P6.6: the path gives the other text at its cost, and bounds what a greater cost can do.
func TestPathCompared(t *testing.T) {
	pairsOfTexts(1000, MaxText, func(r *rand.Rand, a, b string, c Costs) {
		l, d, e := Path(a, b, c)
		if want, _ := Distance(a, b, c); d != want || e != api.OK {
			t.Fatalf("%q to %q, %v: %d %d, want %d", a, b, c, d, e, want)
		}
		if s, e := Apply(a, l); s != b || e != api.OK {
			t.Fatalf("%q to %q, %v: %v gives %q %d", a, b, c, l, s, e)
		}
		if n, e := Cost(l, c); n != d || e != api.OK {
			t.Fatalf("%q to %q, %v: %v costs %d %d", a, b, c, l, n, e)
		}
		uses := map[uint8]int{}
		for _, op := range l {
			uses[op.Kind]++
		}
		for kind := OpChange; kind <= OpInsert; kind++ {
			more := c
			one := map[uint8]*int{OpChange: &more.Change, OpSwap: &more.Swap, OpDelete: &more.Delete, OpInsert: &more.Insert}[kind]
			by := r.Intn(MaxCost - *one + 1)
			*one += by
			if n, e := Distance(a, b, more); n < d || n > d+by*uses[kind] || e != api.OK {
				t.Fatalf("%q to %q, %v, then %v: %d, then %d %d", a, b, c, more, d, n, e)
			}
		}
	})
}

// P6.6: a byte that was exchanged is not treated again.
func TestNoMetric(t *testing.T) {
	direct, _ := Distance("CA", "ABC", ones)
	first, _ := Distance("CA", "AC", ones)
	second, _ := Distance("AC", "ABC", ones)
	if direct != 3 || first != 1 || second != 1 {
		t.Error(direct, first, second)
	}
}
