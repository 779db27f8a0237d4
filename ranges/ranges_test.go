package ranges_test

import (
	"math"
	"slices"
	"testing"

	"haulier/ranges"
)

// top is the first place from 0 on that is none.
const top = 1 << 40

// list is the Ranges of the places 2 by 2.
func list(places ...int) []ranges.Range {
	var l []ranges.Range
	for i := 0; i < len(places); i += 2 {
		l = append(l, ranges.Range{From: places[i], To: places[i+1]})
	}
	return l
}

// set is a Set to which the Ranges of the places 2 by 2 were added.
func set(places ...int) *ranges.Set {
	s := ranges.New()
	for _, r := range list(places...) {
		s.Add(r.From, r.To)
	}
	return s
}

// holds sees to it that all that s tells of its places fits the Ranges of the places 2 by 2.
func holds(t *testing.T, s *ranges.Set, places ...int) {
	t.Helper()
	want := list(places...)
	if got := s.All(); !slices.Equal(got, want) {
		t.Errorf("All() = %v, want %v", got, want)
	}
	first, front, count := ranges.Range{}, 0, 0
	for i, r := range want {
		if i == 0 {
			first = r
		}
		if r.From == 0 {
			front = r.To
		}
		count += r.To - r.From
	}
	if got, ok := s.First(); got != first || ok != (len(want) > 0) {
		t.Errorf("First() = %v, %v, want %v, %v", got, ok, first, len(want) > 0)
	}
	if got := s.Front(); got != front {
		t.Errorf("Front() = %d, want %d", got, front)
	}
	if got := s.Count(); got != count {
		t.Errorf("Count() = %d, want %d", got, count)
	}
}

func has(t *testing.T, s *ranges.Set, from, to int, want bool) {
	t.Helper()
	if got := s.Has(from, to); got != want {
		t.Errorf("%v: Has(%d, %d) = %v, want %v", s.All(), from, to, got, want)
	}
}

// overwrite writes to all of l's memory, behind its length as well.
func overwrite(l []ranges.Range) {
	l = l[:cap(l)]
	for i := range l {
		l[i] = ranges.Range{From: 77, To: -77}
	}
}

// numbers are any numbers at all: at the edges of what is a place, of the kinds of integers, and between.
func numbers() []int {
	return []int{
		math.MinInt, math.MinInt + 1, -1 << 62, -top - 1, -top, -top + 1, -1 << 32, -1 << 31, -2, -1, 0, 1, 2, 7, 1 << 31, 1<<32 - 1, 1 << 32, 1<<32 + 3,
		top - 2, top - 1, top, top + 1, top + 7, 2 * top, 1 << 62, math.MaxInt - 1, math.MaxInt,
	}
}

// P5.1: there is nothing in a new one, and that is told by each call.
func TestEmpty(t *testing.T) {
	once := set(3, 8)
	once.Cut(3, 8)
	full := set(0, top)
	full.Cut(math.MinInt, math.MaxInt)
	for _, s := range []*ranges.Set{ranges.New(), once, full, ranges.New().Clone()} {
		holds(t, s)
		for _, from := range numbers() {
			for _, to := range numbers() {
				has(t, s, from, to, from >= to)
				s.Cut(from, to)
			}
		}
		holds(t, s)
		s.Add(4, 6)
		holds(t, s, 4, 6)
	}
}

// P5.1: the chapter's example.
func TestRangesThatTouch(t *testing.T) {
	s := set(2, 5)
	holds(t, s, 2, 5)
	s.Add(5, 7)
	holds(t, s, 2, 7)
	s.Add(0, 2)
	holds(t, s, 0, 7)
	s.Add(8, 9)
	holds(t, s, 0, 7, 8, 9)
	s.Add(7, 8)
	holds(t, s, 0, 9)
}

// P5.1
func TestAdd(t *testing.T) {
	for _, c := range []struct {
		name     string
		from, to int
		want     []int
	}{
		{"ahead of all", 0, 5, []int{0, 5, 10, 20, 30, 40, 50, 60}},
		{"ahead of all, touching", 5, 10, []int{5, 20, 30, 40, 50, 60}},
		{"behind all", 61, 62, []int{10, 20, 30, 40, 50, 60, 61, 62}},
		{"behind all, touching", 60, 62, []int{10, 20, 30, 40, 50, 62}},
		{"in a gap", 21, 29, []int{10, 20, 21, 29, 30, 40, 50, 60}},
		{"in a gap, touching what is ahead", 20, 29, []int{10, 29, 30, 40, 50, 60}},
		{"in a gap, touching what is behind", 21, 30, []int{10, 20, 21, 40, 50, 60}},
		{"a whole gap", 20, 30, []int{10, 40, 50, 60}},
		{"a gap, and more", 15, 35, []int{10, 40, 50, 60}},
		{"what is there", 30, 40, []int{10, 20, 30, 40, 50, 60}},
		{"a part of what is there", 31, 39, []int{10, 20, 30, 40, 50, 60}},
		{"its beginning", 30, 31, []int{10, 20, 30, 40, 50, 60}},
		{"its end", 39, 40, []int{10, 20, 30, 40, 50, 60}},
		{"around one", 29, 41, []int{10, 20, 29, 41, 50, 60}},
		{"from the midst of one", 35, 45, []int{10, 20, 30, 45, 50, 60}},
		{"to the midst of one", 25, 35, []int{10, 20, 25, 40, 50, 60}},
		{"from one to the last but one", 20, 50, []int{10, 60}},
		{"from the midst of the first to that of the last", 12, 55, []int{10, 60}},
		{"around all", 5, 65, []int{5, 65}},
		{"just all", 10, 60, []int{10, 60}},
		{"one place", 25, 26, []int{10, 20, 25, 26, 30, 40, 50, 60}},
	} {
		s := set(10, 20, 30, 40, 50, 60)
		for range 2 {
			s.Add(c.from, c.to)
			if got := s.All(); !slices.Equal(got, list(c.want...)) {
				t.Errorf("%s: %v", c.name, got)
			}
			holds(t, s, c.want...)
			has(t, s, c.from, c.to, true)
		}
	}
}

// P5.1
func TestCut(t *testing.T) {
	for _, c := range []struct {
		name     string
		from, to int
		want     []int
	}{
		{"ahead of all", 0, 5, []int{10, 20, 30, 40, 50, 60}},
		{"ahead of all, touching", 5, 10, []int{10, 20, 30, 40, 50, 60}},
		{"behind all", 61, 62, []int{10, 20, 30, 40, 50, 60}},
		{"behind all, touching", 60, 62, []int{10, 20, 30, 40, 50, 60}},
		{"in a gap", 21, 29, []int{10, 20, 30, 40, 50, 60}},
		{"a whole gap", 20, 30, []int{10, 20, 30, 40, 50, 60}},
		{"a gap, and a place on each side", 19, 31, []int{10, 19, 31, 40, 50, 60}},
		{"one", 30, 40, []int{10, 20, 50, 60}},
		{"one, and both gaps", 20, 50, []int{10, 20, 50, 60}},
		{"the midst of one", 33, 36, []int{10, 20, 30, 33, 36, 40, 50, 60}},
		{"one place of the midst", 35, 36, []int{10, 20, 30, 35, 36, 40, 50, 60}},
		{"all but the first place and the last", 31, 39, []int{10, 20, 30, 31, 39, 40, 50, 60}},
		{"its first place", 30, 31, []int{10, 20, 31, 40, 50, 60}},
		{"its last place", 39, 40, []int{10, 20, 30, 39, 50, 60}},
		{"its beginning, from the gap on", 25, 35, []int{10, 20, 35, 40, 50, 60}},
		{"its end, into the gap", 35, 45, []int{10, 20, 30, 35, 50, 60}},
		{"the midst of the first to that of the last", 12, 55, []int{10, 12, 55, 60}},
		{"the first to the midst of the last", 10, 55, []int{55, 60}},
		{"the midst of the first to the last", 12, 60, []int{10, 12}},
		{"just all", 10, 60, nil},
		{"around all", 5, 65, nil},
	} {
		s := set(10, 20, 30, 40, 50, 60)
		for range 2 {
			s.Cut(c.from, c.to)
			if got := s.All(); !slices.Equal(got, list(c.want...)) {
				t.Errorf("%s: %v", c.name, got)
			}
			holds(t, s, c.want...)
			has(t, s, c.from, c.to, false)
		}
	}
}

// P5.1
func TestHas(t *testing.T) {
	s := set(10, 20, 30, 40, 41, 50)
	for _, c := range []struct {
		from, to int
		want     bool
	}{
		{10, 20, true}, {10, 11, true}, {19, 20, true}, {12, 17, true}, {30, 40, true}, {41, 50, true},
		{9, 10, false}, {9, 20, false}, {10, 21, false}, {20, 21, false}, {9, 21, false}, {0, 60, false},
		{20, 30, false}, {22, 28, false}, {19, 30, false}, {20, 31, false}, {29, 30, false},
		// Over a gap, of one place as well.
		{10, 40, false}, {19, 31, false}, {30, 50, false}, {39, 42, false}, {40, 41, false}, {39, 41, false}, {40, 42, false}, {10, 50, false},
		{50, 51, false}, {49, 51, false}, {50, 60, false}, {60, 70, false},
	} {
		has(t, s, c.from, c.to, c.want)
	}
	holds(t, s, 10, 20, 30, 40, 41, 50)
}

// P5.1: from not below to is nothing, whatever they are, and nothing is in each set.
func TestFromNotBelowTo(t *testing.T) {
	for _, from := range numbers() {
		for _, to := range numbers() {
			if from < to {
				continue
			}
			for _, places := range [][]int{{}, {0, 3, 5, 9}, {0, top}, {2, 4, top - 1, top}} {
				s := set(places...)
				s.Add(from, to)
				holds(t, s, places...)
				s.Cut(from, to)
				holds(t, s, places...)
				has(t, s, from, to, true)
			}
		}
	}
}

// P5.1: the places below 0, and those from 2^40 on, are none: none is added, none is in, none is cut.
func TestPlacesThatAreNone(t *testing.T) {
	for _, from := range numbers() {
		for _, to := range numbers() {
			if from >= to || to > 0 && from < top {
				continue
			}
			for _, places := range [][]int{{}, {0, 3, 5, 9}, {0, top}, {2, 4, top - 1, top}} {
				s := set(places...)
				s.Add(from, to)
				holds(t, s, places...)
				has(t, s, from, to, false)
				s.Cut(from, to)
				holds(t, s, places...)
			}
		}
	}
}

// P5.1: any numbers at all: of those places that are some are added, and cut.
func TestAnyNumbers(t *testing.T) {
	for _, from := range numbers() {
		for _, to := range numbers() {
			low, high := max(from, 0), min(to, top)
			if low >= high {
				continue
			}
			s := ranges.New()
			s.Add(from, to)
			holds(t, s, low, high)
			has(t, s, low, high, true)
			has(t, s, from, to, from == low && to == high)
			has(t, s, low-1, high, false)
			has(t, s, low, high+1, false)
			s.Cut(from, to)
			holds(t, s)
			s.Add(0, top)
			s.Cut(from, to)
			var rest []int
			if low > 0 {
				rest = append(rest, 0, low)
			}
			if high < top {
				rest = append(rest, high, top)
			}
			holds(t, s, rest...)
			s.Add(from, to)
			holds(t, s, 0, top)
		}
	}
}

// P5.1: in all places there are there is no place that is not in, and Front is behind the last.
func TestAllPlaces(t *testing.T) {
	s := set(math.MinInt, math.MaxInt)
	holds(t, s, 0, top)
	if s.Front() != top || s.Count() != top {
		t.Errorf("Front, Count: %d, %d", s.Front(), s.Count())
	}
	has(t, s, 0, top, true)
	has(t, s, -1, top, false)
	has(t, s, 0, top+1, false)
	has(t, s, top-1, top, true)
	has(t, s, top, top+1, false)
	has(t, s, -1, 0, false)
	s.Cut(top-1, top)
	holds(t, s, 0, top-1)
	s.Cut(0, 1)
	holds(t, s, 1, top-1)
}

// P5.1: Front goes over no gap, and not to what does not begin at 0.
func TestFront(t *testing.T) {
	s := ranges.New()
	for i, c := range []struct{ from, to, want int }{
		{1, 2, 0}, {5, 9, 0}, {0, 1, 2}, {3, 5, 2}, {2, 3, 9}, {-4, 10, 10}, {10, 11, 11},
	} {
		s.Add(c.from, c.to)
		if got := s.Front(); got != c.want {
			t.Errorf("%d: Front() = %d, want %d", i, got, c.want)
		}
	}
	for i, c := range []struct{ from, to, want int }{
		{10, 20, 10}, {5, 6, 5}, {6, 10, 5}, {-3, 0, 5}, {0, 1, 0}, {1, 4, 0}, {4, 5, 0},
	} {
		s.Cut(c.from, c.to)
		if got := s.Front(); got != c.want {
			t.Errorf("%d: Front() = %d, want %d", i, got, c.want)
		}
	}
	holds(t, s)
}

// width is how many places a model has: so few that each set of them is gone through.
const width = 8

// model tells of each of some places whether it is in.
type model [width]bool

// places are the model's Ranges, each two places, the first place of all being low.
func (m model) places(low int) []int {
	var l []int
	for i, in := range m {
		if in && (i == 0 || !m[i-1]) {
			l = append(l, low+i)
		}
		if in && (i == width-1 || !m[i+1]) {
			l = append(l, low+i+1)
		}
	}
	return l
}

// all tells whether the places from from to below to are all in: those that the model has not are not.
func (m model) all(from, to int) bool {
	for i := from; i < to; i++ {
		if i < 0 || i >= width || !m[i] {
			return false
		}
	}
	return true
}

// with is the model with the places from from to below to in, or out.
func (m model) with(from, to int, in bool) model {
	for i := max(from, 0); i < min(to, width); i++ {
		m[i] = in
	}
	return m
}

// models are all there are.
func models() []model {
	var l []model
	for bits := range 1 << width {
		var m model
		for i := range m {
			m[i] = bits>>i&1 == 1
		}
		l = append(l, m)
	}
	return l
}

// P5.1: each set of a few places, and each from and to about them, at both edges of what is a place.
func TestEachSet(t *testing.T) {
	for _, m := range models() {
		for _, low := range []int{0, top - width} {
			for from := -2; from <= width+2; from++ {
				for to := -2; to <= width+2; to++ {
					s := set(m.places(low)...)
					has(t, s, low+from, low+to, m.all(from, to))
					// Beside the model's places nothing is added: it could not tell.
					s.Add(max(low+from, low), min(low+to, low+width))
					holds(t, s, m.with(from, to, true).places(low)...)
					s = set(m.places(low)...)
					s.Cut(low+from, low+to)
					holds(t, s, m.with(from, to, false).places(low)...)
				}
			}
		}
	}
}

// P5.1: it is of no account in which order, and how often, the places were added.
func TestOrder(t *testing.T) {
	parts := list(0, 2, 1, 3, 4, 6, 6, 7, 9, 12, 10, 11, 14, 15)
	orders(parts, func(l []ranges.Range) {
		s := ranges.New()
		for _, r := range l {
			s.Add(r.From, r.To)
		}
		holds(t, s, 0, 3, 4, 7, 9, 12, 14, 15)
	})
}

// orders hands l to do in each order that it can have.
func orders(l []ranges.Range, do func(l []ranges.Range)) {
	var from func(at int)
	from = func(at int) {
		if at == len(l) {
			do(l)
			return
		}
		for i := at; i < len(l); i++ {
			l[at], l[i] = l[i], l[at]
			from(at + 1)
			l[at], l[i] = l[i], l[at]
		}
	}
	from(0)
}

// P5.1: many Ranges, made by Add and by Cut, and one again.
func TestMany(t *testing.T) {
	const many = 1000
	odd, even := ranges.New(), set(0, 2*many)
	var odds, evens []int
	for i := range many {
		odd.Add(2*(many-i)-1, 2*(many-i))
		even.Cut(2*i+1, 2*i+2)
		odds = append(odds, 2*i+1, 2*i+2)
		evens = append(evens, 2*i, 2*i+1)
	}
	holds(t, odd, odds...)
	holds(t, even, evens...)
	for i := range many {
		has(t, odd, 2*i+1, 2*i+2, true)
		has(t, odd, 2*i, 2*i+1, false)
		has(t, even, 2*i, 2*i+1, true)
		has(t, even, 2*i, 2*i+2, false)
	}
	for i := range many {
		odd.Add(2*i, 2*i+1)
		holds(t, odd, append([]int{0, 2*i + 2}, odds[2*i+2:]...)...)
	}
	even.Add(-1, 2*many)
	holds(t, even, 0, 2*many)
}

// R4: a Clone is as what it was made of, and what is done to one is not to be seen in the other.
func TestClone(t *testing.T) {
	changes := map[string]func(s *ranges.Set){
		"Add in a gap":        func(s *ranges.Set) { s.Add(5, 6) },
		"Add over all":        func(s *ranges.Set) { s.Add(0, top) },
		"Add to one":          func(s *ranges.Set) { s.Add(4, 5) },
		"Add behind":          func(s *ranges.Set) { s.Add(30, 31) },
		"Cut of the midst":    func(s *ranges.Set) { s.Cut(12, 15) },
		"Cut of the first":    func(s *ranges.Set) { s.Cut(0, 4) },
		"Cut of a beginning":  func(s *ranges.Set) { s.Cut(2, 3) },
		"Cut of all":          func(s *ranges.Set) { s.Cut(0, top) },
		"Add, and Cut behind": func(s *ranges.Set) { s.Add(30, 31); s.Cut(20, 40) },
	}
	for name, change := range changes {
		want := set(2, 4, 10, 20)
		change(want)
		s := set(2, 4, 10, 20)
		c := s.Clone()
		holds(t, c, 2, 4, 10, 20)
		change(c)
		holds(t, s, 2, 4, 10, 20)
		if got := c.All(); !slices.Equal(got, want.All()) {
			t.Errorf("%s: the Clone has %v", name, got)
		}
		c = s.Clone()
		change(s)
		holds(t, c, 2, 4, 10, 20)
		if got := s.All(); !slices.Equal(got, want.All()) {
			t.Errorf("%s: what was cloned has %v", name, got)
		}
	}
}

// R4: both grow from the same on, each by itself; a Clone of a Clone as well.
func TestClonesGrowApart(t *testing.T) {
	s := set(0, 1, 2, 3, 4, 5)
	c := s.Clone()
	d := c.Clone()
	s.Add(10, 11)
	c.Add(20, 21)
	d.Add(30, 31)
	s.Cut(0, 1)
	c.Cut(2, 3)
	d.Cut(4, 5)
	holds(t, s, 2, 3, 4, 5, 10, 11)
	holds(t, c, 0, 1, 4, 5, 20, 21)
	holds(t, d, 0, 1, 2, 3, 30, 31)
}

// R4: a list that is handed out is memory of its own, behind its length as well.
func TestListsHandedOut(t *testing.T) {
	s := set(2, 4, 10, 20, 30, 40)
	s.Cut(30, 40) // what it has may lie in more memory than it needs
	first, second := s.All(), s.All()
	overwrite(first)
	if !slices.Equal(second, list(2, 4, 10, 20)) {
		t.Errorf("two lists share memory: %v", second)
	}
	holds(t, s, 2, 4, 10, 20)
	kept := s.All()
	s.Add(5, 6)
	s.Cut(2, 3)
	s.Add(50, 60)
	if !slices.Equal(kept, list(2, 4, 10, 20)) {
		t.Errorf("a list that was handed out was changed: %v", kept)
	}
	overwrite(kept)
	holds(t, s, 3, 4, 5, 6, 10, 20, 50, 60)
	c := s.Clone()
	overwrite(c.All())
	holds(t, c, 3, 4, 5, 6, 10, 20, 50, 60)
	holds(t, s, 3, 4, 5, 6, 10, 20, 50, 60)
}

// R5: sets go each their own way.
func TestSetsAreApart(t *testing.T) {
	a, b := ranges.New(), ranges.New()
	a.Add(1, 2)
	holds(t, b)
	b.Add(3, 4)
	a.Cut(0, top)
	holds(t, a)
	holds(t, b, 3, 4)
}
