package flight_test

import (
	"cmp"
	"math"
	"math/big"
	"slices"
	"strconv"
	"strings"
	"testing"

	"haulier/flight"
)

// entry is an Out of the model, and how many were added ahead of it, those that went as well.
type entry struct {
	o    flight.Out
	turn int
}

// model is a Flight made by other means: what is there by Numbers, put in order for each answer, and reckoned without bounds.
type model struct {
	turn  int
	there map[int]entry
}

func (m *model) add(o flight.Out) bool {
	if _, there := m.there[o.Number]; there {
		return false
	}
	m.there[o.Number] = entry{o, m.turn}
	m.turn++
	return true
}

// those are the ones of which is tells true, in order.
func (m *model) those(is func(o flight.Out) bool) []flight.Out {
	var row []entry
	for _, e := range m.there {
		if is(e.o) {
			row = append(row, e)
		}
	}
	slices.SortFunc(row, func(a, b entry) int { return cmp.Compare(a.turn, b.turn) })
	var list []flight.Out
	for _, e := range row {
		list = append(list, e.o)
	}
	return list
}

// gone are the ones of which is tells true: they go.
func (m *model) gone(is func(o flight.Out) bool) []flight.Out {
	list := m.those(is)
	for _, o := range list {
		delete(m.there, o.Number)
	}
	return list
}

func (m *model) take(number int) (flight.Out, bool) {
	o, ok := m.there[number]
	delete(m.there, number)
	return o.o, ok
}

func (m *model) late(now, wait int) []flight.Out {
	last := new(big.Int).Sub(big.NewInt(int64(now)), big.NewInt(int64(wait)))
	return m.gone(func(o flight.Out) bool { return big.NewInt(int64(o.At)).Cmp(last) <= 0 })
}

func (m *model) drop() []flight.Out {
	return m.gone(func(flight.Out) bool { return true })
}

func (m *model) all() []flight.Out {
	return m.those(func(flight.Out) bool { return true })
}

// pair is a Flight and its model.
type pair struct {
	f *flight.Flight
	m *model
}

func newPair() pair {
	return pair{flight.New(), &model{there: map[int]entry{}}}
}

// like sees to it that what p's Flight tells of itself is the model's, each time that it is asked.
func (p pair) like(t *testing.T) {
	t.Helper()
	want := p.m.all()
	for range 2 {
		if got := p.f.All(); !slices.Equal(got, want) {
			t.Fatalf("All() = %v, want %v", got, want)
		}
		if got := p.f.Len(); got != len(want) {
			t.Fatalf("Len() = %d, want %d", got, len(want))
		}
	}
}

// The calls of a pair see to it that the answer is the model's, and so is what is there behind it.

func (p pair) add(t *testing.T, o flight.Out) bool {
	t.Helper()
	got := p.f.Add(o)
	if want := p.m.add(o); got != want {
		t.Fatalf("Add(%v) = %t, want %t", o, got, want)
	}
	p.like(t)
	return got
}

func (p pair) take(t *testing.T, number int) bool {
	t.Helper()
	o, ok := p.f.Take(number)
	if want, there := p.m.take(number); o != want || ok != there {
		t.Fatalf("Take(%d) = %v, %t, want %v, %t", number, o, ok, want, there)
	}
	p.like(t)
	return ok
}

func (p pair) late(t *testing.T, now, wait int) []flight.Out {
	t.Helper()
	got := p.f.Late(now, wait)
	if want := p.m.late(now, wait); !slices.Equal(got, want) {
		t.Fatalf("Late(%d, %d) = %v, want %v", now, wait, got, want)
	}
	p.like(t)
	return got
}

func (p pair) drop(t *testing.T) []flight.Out {
	t.Helper()
	got := p.f.Drop()
	if want := p.m.drop(); !slices.Equal(got, want) {
		t.Fatalf("Drop() = %v, want %v", got, want)
	}
	p.like(t)
	return got
}

// numbers are those of s, which stand with a comma between.
func numbers(s string) (a, b int) {
	left, right, _ := strings.Cut(s, ",")
	a, _ = strconv.Atoi(left)
	b, _ = strconv.Atoi(right)
	return a, b
}

// out is an Out of the Number and the At; its places are those of no other one that this model had.
func (m *model) out(number, at int) flight.Out {
	return flight.Out{Number: number, From: 100 + m.turn, To: 200 - m.turn, At: at}
}

// step does a step: "a" and a Number and an At is Add, "t" and a Number Take, "l" and two numbers Late, "d" Drop.
func (p pair) step(t *testing.T, s string) {
	t.Helper()
	a, b := numbers(s[1:])
	switch s[0] {
	case 'a':
		p.add(t, p.m.out(a, b))
	case 't':
		p.take(t, a)
	case 'l':
		p.late(t, a, b)
	case 'd':
		p.drop(t)
	}
}

// made is a pair behind the steps, which stand with a blank between.
func made(t *testing.T, steps string) pair {
	t.Helper()
	p := newPair()
	for _, s := range strings.Fields(steps) {
		p.step(t, s)
	}
	return p
}

// names are the Numbers of the list, with a blank between.
func names(list []flight.Out) string {
	var s []string
	for _, o := range list {
		s = append(s, strconv.Itoa(o.Number))
	}
	return strings.Join(s, " ")
}

// there sees to it that behind the steps the ones of the Numbers of want are there, in that order.
func there(t *testing.T, steps, want string) {
	t.Helper()
	p := made(t, steps)
	if got := names(p.f.All()); got != want {
		t.Errorf("behind %q: %q, want %q", steps, got, want)
	}
	if got := len(strings.Fields(want)); p.f.Len() != got {
		t.Errorf("behind %q: Len() = %d, want %d", steps, p.f.Len(), got)
	}
}

// edges are numbers about 0, about both ends of what an int holds, and between.
func edges() []int {
	return []int{
		math.MinInt, math.MinInt + 1, math.MinInt + 2, -1 << 62, -1<<62 + 1, -1 << 32, -1 << 31, -65, -2, -1, 0,
		1, 2, 64, 1<<16 - 1, 1 << 16, 1 << 31, 1 << 32, 1<<62 - 1, 1 << 62, math.MaxInt - 2, math.MaxInt - 1, math.MaxInt,
	}
}

func TestNothing(t *testing.T) {
	f := flight.New()
	if len(f.All()) != 0 || f.Len() != 0 || len(f.Drop()) != 0 || len(f.Drop()) != 0 {
		t.Error("a new one")
	}
	for _, a := range edges() {
		if o, ok := f.Take(a); ok || o != (flight.Out{}) {
			t.Errorf("Take(%d) of a new one = %v, %t", a, o, ok)
		}
		for _, b := range edges() {
			if got := f.Late(a, b); len(got) != 0 {
				t.Errorf("Late(%d, %d) of a new one = %v", a, b, got)
			}
		}
	}
	if len(f.All()) != 0 || f.Len() != 0 {
		t.Errorf("%v, %d", f.All(), f.Len())
	}
}

func TestAdd(t *testing.T) {
	// One, several: behind all, whatever the Numbers and the ticks.
	there(t, "a7,3", "7")
	there(t, "a7,3 a2,9 a5,1", "7 2 5")
	there(t, "a1 a2 a3 a4", "1 2 3 4")
	there(t, "a4,1 a3,2 a2,3 a1,4", "4 3 2 1")
	there(t, "a0 a-1 a1", "0 -1 1")
	// Of a Number that is there.
	there(t, "a7,3 a7,3", "7")
	there(t, "a7 a2 a5 a7", "7 2 5")
	there(t, "a7 a2 a5 a2,8", "7 2 5")
	there(t, "a7 a2 a5 a5", "7 2 5")
	there(t, "a7 a2 a5 a7 a2 a5 a6", "7 2 5 6")
	// Of one that was there, and went.
	there(t, "a7 t7 a7", "7")
	there(t, "a7 a2 a5 t7 a7", "2 5 7")
	there(t, "a7 a2 a5 t2 a2 t5 a5", "7 2 5")
	there(t, "a7,3 a2,9 a5,1 l8,5 a5,1", "2 5")
	there(t, "a7,3 a2,9 a5,1 l9,0 a2,9 a7", "2 7")
	there(t, "a7 a2 d a7", "7")
	there(t, "a7 a2 d a2 a7 a2", "2 7")
	// Of one that is there again.
	there(t, "a7 t7 a7 a7", "7")
	there(t, "a7 a2 d a2 a7 a7 a2 d", "")
}

// An Add that is false leaves the one that is there as it is, whatever the other one's places and tick.
func TestAddTwice(t *testing.T) {
	first := flight.Out{Number: 7, From: 1, To: 4, At: 9}
	for _, o := range []flight.Out{first, {Number: 7}, {7, 2, 4, 9}, {7, 1, 5, 9}, {7, 1, 4, 8}, {7, math.MinInt, math.MaxInt, -1}} {
		f := flight.New()
		if !f.Add(first) || f.Add(o) || f.Len() != 1 {
			t.Fatalf("Add(%v) behind %v", o, first)
		}
		if got, ok := f.Take(7); !ok || got != first {
			t.Errorf("behind Add(%v): %v", o, got)
		}
		if !f.Add(o) {
			t.Errorf("Add(%v) behind Take", o)
		}
		if got, ok := f.Take(7); !ok || got != o {
			t.Errorf("%v, and not %v", got, o)
		}
	}
}

// Any numbers in each field: all of them stay as they are.
func TestFields(t *testing.T) {
	all := newPair()
	for i, n := range edges() {
		p := newPair()
		for j, o := range []flight.Out{{n, 1, 2, 3}, {n ^ 1, n, 2, 3}, {n ^ 2, 1, n, 3}, {n ^ 3, 1, 2, n}, {n ^ 4, n, n, n}, {n ^ 5, n, -n, ^n}} {
			if !p.add(t, o) {
				t.Errorf("%d: Add(%v) is false", j, o)
			}
		}
		for j := range 6 {
			if !p.take(t, n^j) {
				t.Errorf("Take(%d) is false", n^j)
			}
		}
		if !all.add(t, flight.Out{Number: n, From: n, To: edges()[len(edges())-1-i], At: ^n}) || all.add(t, flight.Out{Number: n}) {
			t.Errorf("of the Number %d", n)
		}
	}
	for _, n := range edges() {
		if !all.take(t, n) || all.take(t, n) {
			t.Errorf("Take(%d)", n)
		}
	}
}

func TestTake(t *testing.T) {
	for _, r := range []struct {
		steps  string
		number int
		ok     bool
		left   string
	}{
		// The first, the middle, the last one; the only one.
		{"a7 a2 a5", 7, true, "2 5"}, {"a7 a2 a5", 2, true, "7 5"}, {"a7 a2 a5", 5, true, "7 2"}, {"a7", 7, true, ""}, {"a0", 0, true, ""}, {"a-1 a0", -1, true, "0"},
		// One twice.
		{"a7 a2 a5 t7", 7, false, "2 5"}, {"a7 a2 a5 t2", 2, false, "7 5"}, {"a7 a2 a5 t5", 5, false, "7 2"}, {"a7 t7", 7, false, ""}, {"a7 a2 t7 a7", 7, true, "2"},
		// None, beside those that are there, and where these stand.
		{"a7 a2 a5", 0, false, "7 2 5"}, {"a7 a2 a5", 1, false, "7 2 5"}, {"a7 a2 a5", 3, false, "7 2 5"}, {"a7 a2 a5", 6, false, "7 2 5"}, {"a7 a2 a5", 8, false, "7 2 5"},
		{"a7 a2 a5", -1, false, "7 2 5"}, {"a7 a2 a5", -7, false, "7 2 5"}, {"a7 a2 a5", math.MinInt, false, "7 2 5"}, {"a7 a2 a5", math.MaxInt, false, "7 2 5"},
		{"a7 a2 a5", 7 + 1<<32, false, "7 2 5"}, {"a7 a2 a5", 7 + 1<<16, false, "7 2 5"}, {"a7 a2 a5", 7 - 1<<32, false, "7 2 5"}, {"a7 a2 a5", 100, false, "7 2 5"},
		// One that went otherwise.
		{"a7,3 a2,9 l3,0", 7, false, "2"}, {"a7,3 a2,9 l3,0", 2, true, ""}, {"a7 a2 d", 2, false, ""}, {"a7 d a2", 7, false, "2"}, {"a7 d a2 a7", 7, true, "2"},
	} {
		p := made(t, r.steps)
		if got := p.take(t, r.number); got != r.ok || names(p.f.All()) != r.left {
			t.Errorf("%v: %t, %q", r, got, names(p.f.All()))
		}
	}
}

func TestLate(t *testing.T) {
	for _, r := range []struct {
		steps      string
		now, wait  int
		gone, left string
	}{
		// At one below now less wait, at it, one above it.
		{"a7,9", 15, 5, "7", ""}, {"a7,10", 15, 5, "7", ""}, {"a7,11", 15, 5, "", "7"}, {"a7,0", 0, 0, "7", ""}, {"a7,1", 0, 0, "", "7"}, {"a7,-1", 0, 0, "7", ""},
		{"a7,0", 4, 5, "", "7"}, {"a7,0", 5, 5, "7", ""}, {"a7,-1", 4, 5, "7", ""}, {"a7,9 a2,10 a5,11", 15, 5, "7 2", "5"}, {"a7,11 a2,10 a5,9", 15, 5, "2 5", "7"},
		// Nothing late; one; some between others; all.
		{"a7,11 a2,12 a5,13", 15, 5, "", "7 2 5"}, {"a7,11 a2,8 a5,13", 15, 5, "2", "7 5"}, {"a7,8 a2,12 a5,13", 15, 5, "7", "2 5"}, {"a7,11 a2,12 a5,8", 15, 5, "5", "7 2"},
		{"a7,11 a2,8 a5,13 a1,10 a9,11 a8,9 a6,20", 15, 5, "2 1 8", "7 5 9 6"}, {"a7,8 a2,11 a5,3 a1,12 a9,10", 15, 5, "7 5 9", "2 1"},
		{"a7,8 a2,9 a5,10", 15, 5, "7 2 5", ""}, {"a7,10 a2,9 a5,8", 15, 5, "7 2 5", ""}, {"a5 a2 a7", 15, 5, "5 2 7", ""},
		// Once more.
		{"a7,9 a2,10 a5,11 l15,5", 15, 5, "", "5"}, {"a7,9 a2,10 a5,11 l15,5", 16, 5, "5", ""}, {"a7,9 l15,5", 15, 5, "", ""}, {"a7,9 a2,10 a5,11 l14,5", 15, 5, "2", "5"},
		{"a7,9 a5,11 l15,5 a7,10 a3,11", 15, 5, "7", "5 3"}, {"a7,9 a5,11 l14,5", 13, 5, "", "5"},
		// now, wait and At below 0.
		{"a7,-9 a2,-4 a5,-3 a1,0", -2, 2, "7 2", "5 1"}, {"a7,4 a2,5 a5,6", 2, -3, "7 2", "5"}, {"a7,-1 a2,0 a5,1", -4, -4, "7 2", "5"}, {"a7,-1 a2,0", -1, 0, "7", "2"}, {"a7,2 a2,3", 0, -2, "7", "2"},
	} {
		p := made(t, r.steps)
		if got := names(p.late(t, r.now, r.wait)); got != r.gone || names(p.f.All()) != r.left {
			t.Errorf("%v: %q, %q", r, got, names(p.f.All()))
		}
	}
}

// Where now less wait is past what an int holds, it is more than each At, or less.
func TestPastInt(t *testing.T) {
	least, most := flight.Out{Number: 1, At: math.MinInt}, flight.Out{Number: 2, At: math.MaxInt}
	for _, r := range []struct {
		now, wait int
		want      string
	}{
		{math.MinInt, 1, ""}, {math.MinInt, math.MaxInt, ""}, {-2, math.MaxInt, ""}, {-1, math.MaxInt, "1"}, {0, math.MaxInt, "1"}, {math.MinInt + 5, 6, ""}, {math.MinInt + 5, 5, "1"},
		{math.MaxInt, -1, "1 2"}, {math.MaxInt, math.MinInt, "1 2"}, {0, math.MinInt, "1 2"}, {-1, math.MinInt, "1 2"}, {-2, math.MinInt, "1"}, {math.MaxInt - 5, -6, "1 2"}, {math.MaxInt - 5, -5, "1 2"}, {math.MaxInt - 5, -4, "1"},
		{math.MinInt, math.MinInt, "1"}, {math.MaxInt, math.MaxInt, "1"}, {math.MinInt, 0, "1"}, {math.MaxInt, 0, "1 2"}, {math.MaxInt, 1, "1"}, {math.MinInt, -1, "1"}, {1, math.MinInt, "1 2"},
	} {
		f := flight.New()
		f.Add(least)
		f.Add(most)
		if got := names(f.Late(r.now, r.wait)); got != r.want || names(f.All()) != strings.TrimPrefix("1 2"[len(r.want):], " ") {
			t.Errorf("Late(%d, %d) = %q, %v is left", r.now, r.wait, got, f.All())
		}
	}
}

// Each of the edges as now, as wait, and as At.
func TestLateEdges(t *testing.T) {
	for _, now := range edges() {
		for _, wait := range edges() {
			p := newPair()
			for i, at := range edges() {
				p.m.add(flight.Out{Number: i, At: at})
				p.f.Add(flight.Out{Number: i, At: at})
			}
			p.late(t, now, wait)
			if again := p.late(t, now, wait); len(again) != 0 {
				t.Errorf("Late(%d, %d), twice: %v", now, wait, again)
			}
		}
	}
}

func TestDrop(t *testing.T) {
	for _, r := range []struct{ steps, gone string }{
		{"", ""}, {"a7", "7"}, {"a7 a2 a5", "7 2 5"}, {"a7 a2 a5 d", ""}, {"a7 a2 a5 t2", "7 5"}, {"a7 t7", ""}, {"a7 d a2", "2"}, {"a7 d a7", "7"},
		{"a7,3 a2,9 a5,1 l3,0", "2"}, {"a7,3 a2,9 a5,1 l9,0", ""}, {"a7 a2 a5 t7 a7", "2 5 7"}, {"a7 a7", "7"},
	} {
		p := made(t, r.steps)
		if got := names(p.drop(t)); got != r.gone || p.f.Len() != 0 {
			t.Errorf("%v: %q, %v is left", r, got, p.f.All())
		}
		if got := p.drop(t); len(got) != 0 {
			t.Errorf("%v, twice: %v", r, got)
		}
	}
}

// states are steps to Flights of many kinds.
func states() []string {
	return []string{
		"", "a1,1", "a1,1 a2,2", "a2,1 a1,1 a3,1", "a1,3 a2,2 a3,1", "a1,1 a2,2 a3,3 t1", "a1,1 a2,2 a3,3 t2", "a1,1 a2,2 a3,3 t3", "a1,1 a2,2 a3,3 l2,1",
		"a1,1 a2,2 a3,3 l3,1", "a1,1 a2,2 d", "a1,1 a2,2 d a2,1", "a1,1 t1", "a1,1 l1,0", "a1,1 a2,1 a3,1 a4,1 a5,1 a6,1 a7,1", "a1,9 a2,1 a3,9 a4,1 a5,9 l5,1",
	}
}

// Calls that are false, or have no one to go, change nothing: neither what is there nor what comes behind.
func TestNothingChanges(t *testing.T) {
	for _, steps := range states() {
		for _, on := range []string{"a9,1 t1", "l2,0 d", "t2 a1,5 a2,5", "l9,0 a3,1 a4,1", "d a1,1 a2,1 l1,0"} {
			t.Log(steps, "and", on)
			p := made(t, steps)
			for _, s := range strings.Fields(on) {
				nothing(t, p)
				p.step(t, s)
			}
			nothing(t, p)
		}
	}
}

// nothing makes calls that are false, or tell none.
func nothing(t *testing.T, p pair) {
	t.Helper()
	want := p.f.All()
	for _, o := range want {
		if p.f.Add(flight.Out{Number: o.Number, From: 77, To: 78, At: -5}) {
			t.Fatalf("Add of the Number %d, which is there", o.Number)
		}
	}
	for _, number := range []int{math.MinInt, -1, 0, 50, 1 + 1<<32, math.MaxInt} {
		if o, ok := p.f.Take(number); ok || o != (flight.Out{}) {
			t.Fatalf("Take(%d) = %v, %t", number, o, ok)
		}
	}
	if got := p.f.Late(5, 6); len(got) != 0 {
		t.Fatalf("Late(5, 6) = %v", got)
	}
	if got := p.f.All(); !slices.Equal(got, want) {
		t.Fatalf("%v, and then %v", want, got)
	}
	p.like(t)
}

// Each row of up to four steps over fifteen, behind some beginnings.
func TestRows(t *testing.T) {
	steps := []string{"a1,1", "a1,3", "a2,2", "a3,1", "a3,4", "a4,2", "t1", "t2", "t3", "t4", "l2,1", "l3,1", "l4,1", "l4,0", "d"}
	for _, begin := range []string{"", "a1,2 a2,1 a3,3", "a3,1 a2,4 a1,2 a4,2"} {
		var walk func(row string, more int)
		walk = func(row string, more int) {
			made(t, row)
			for i := 0; i < len(steps) && more > 0; i++ {
				walk(row+" "+steps[i], more-1)
			}
		}
		walk(begin, 4)
	}
}

// chance is a row of numbers that looks like any, and is the same each time.
type chance uint64

func (c *chance) below(n int) int {
	*c = *c*6364136223846793005 + 1442695040888963407
	return int(uint64(*c) >> 33 % uint64(n))
}

// any is a number from -2 to below n, and seldom one of the edges.
func (c *chance) any(n int) int {
	if c.below(12) == 0 {
		return edges()[c.below(len(edges()))]
	}
	return c.below(n+2) - 2
}

// act makes a call, with Numbers and ticks about n, seldom a Drop.
func (c *chance) act(t *testing.T, p pair, n int) {
	t.Helper()
	switch c.below(9) {
	case 0, 1, 2, 3:
		p.add(t, flight.Out{Number: c.any(n), From: c.any(n), To: c.any(n), At: c.any(n)})
	case 4, 5:
		p.take(t, c.any(n))
	case 6:
		p.late(t, c.any(n), c.below(n))
	case 7:
		p.late(t, c.any(n/4+1), c.any(n))
	case 8:
		if c.below(6) == 0 {
			p.drop(t)
		}
	}
}

func TestLongRows(t *testing.T) {
	c := chance(1)
	for i := range 300 {
		p := newPair()
		for range 150 {
			c.act(t, p, 3+i%40)
		}
	}
}

// As a path has it: numbers and ticks that rise, some answered, the rest late.
func TestRising(t *testing.T) {
	c := chance(2)
	for i := range 60 {
		p, number := newPair(), 0
		for now := range 200 {
			for p.f.Len() < 1+i%16 && c.below(3) > 0 {
				p.add(t, flight.Out{Number: number, From: number * 8, To: number*8 + 8, At: now})
				number++
			}
			if p.take(t, number-1-c.below(20)) && p.take(t, number) {
				t.Fatal("the next number is out")
			}
			p.late(t, now, 1+i%7)
		}
	}
}

// More than a path ever has, and then all of them, from both sides.
func TestMany(t *testing.T) {
	const n = 3000
	f := flight.New()
	for i := range n {
		if !f.Add(flight.Out{Number: i, At: i % 3}) {
			t.Fatalf("Add of the Number %d", i)
		}
	}
	if got := f.Late(1, 1); len(got) != n/3 || f.Len() != n-n/3 || got[7].Number != 21 {
		t.Errorf("%d are late, %d are left", len(got), f.Len())
	}
	for i := range n {
		if _, ok := f.Take(n - 1 - i); ok != ((n-1-i)%3 != 0) {
			t.Fatalf("Take(%d) = %t", n-1-i, ok)
		}
	}
	if f.Len() != 0 || len(f.All()) != 0 {
		t.Errorf("%d are left", f.Len())
	}
}

// Four Flights at once: none has anything of another.
func TestSeveral(t *testing.T) {
	c := chance(5)
	for range 25 {
		list := []pair{newPair(), newPair(), newPair(), newPair()}
		for range 200 {
			c.act(t, list[c.below(4)], 9)
			for _, p := range list {
				p.like(t)
			}
		}
	}
}

// overwrite writes to all of l's memory, behind its length as well.
func overwrite(l []flight.Out) {
	l = l[:cap(l)]
	for i := range l {
		l[i] = flight.Out{Number: -77, From: 77, To: -78, At: math.MinInt}
	}
}

// handOuts are the calls that hand out a list.
func handOuts() map[string]func(t *testing.T, p pair) []flight.Out {
	return map[string]func(t *testing.T, p pair) []flight.Out{
		"all":       func(_ *testing.T, p pair) []flight.Out { return p.f.All() },
		"none late": func(t *testing.T, p pair) []flight.Out { return p.late(t, 0, 50) },
		"some late": func(t *testing.T, p pair) []flight.Out { return p.late(t, 4, 2) },
		"all late":  func(t *testing.T, p pair) []flight.Out { return p.late(t, 50, 0) },
		"drop":      func(t *testing.T, p pair) []flight.Out { return p.drop(t) },
	}
}

// What is handed out is new memory: who has it may change it, behind its length too, and it stays as it is, whatever comes behind.
func TestHandedOut(t *testing.T) {
	for _, steps := range states() {
		for name, hand := range handOuts() {
			for _, on := range []string{"a8,1 a9,2", "t1 a8,1", "t3 t2 a1,1", "l2,0 a8,1 a9,1", "d a8,1 a9,1", "a1,1 a2,1 a3,1"} {
				t.Log(steps, "and", name, "and", on)
				p := made(t, steps)
				before := p.f.All()
				list := hand(t, p)
				kept := p.f.All()
				was, left := slices.Clone(before), slices.Clone(kept)
				overwrite(list)
				_ = append(list, flight.Out{Number: 55})
				p.like(t)
				for _, s := range strings.Fields(on) {
					p.step(t, s)
					overwrite(list)
					p.like(t)
				}
				if !slices.Equal(before, was) || !slices.Equal(kept, left) {
					t.Fatalf("%v and %v, and then %v and %v", was, left, before, kept)
				}
			}
		}
	}
}

// A list that went stays as it is, whatever comes behind.
func TestKept(t *testing.T) {
	for _, steps := range states() {
		for name, hand := range handOuts() {
			for _, on := range []string{"a8,1 a9,2", "t1 t2 t3 a8,1 a9,2", "l9,0 a1,1 a2,1 a3,1", "d a8,1 a9,1 a7,1"} {
				t.Log(steps, "and", name, "and", on)
				p := made(t, steps)
				list := hand(t, p)
				was := slices.Clone(list)
				for _, s := range strings.Fields(on) {
					p.step(t, s)
				}
				if !slices.Equal(list, was) {
					t.Fatalf("%v, and then %v", was, list)
				}
			}
		}
	}
}
