package sched_test

import (
	"math"
	"slices"
	"strconv"
	"strings"
	"testing"

	"haulier/api"
	"haulier/sched"
)

// model is a Sched made by other means: it keeps all that it ever picked.
type model struct {
	kind   int
	picked []int
}

func (m *model) pick(means []int) []int {
	var can []int
	for path := range means {
		if means[path] > -1 {
			can = append(can, path)
		}
	}
	if m.kind != 3 && len(can) > 0 {
		can = []int{m.one(means)}
	}
	m.picked = append(m.picked, can...)
	return can
}

// one is the path that is picked where only one is, and one at least can be used.
func (m *model) one(means []int) int {
	if m.kind == 2 {
		return m.turn(means)
	}
	best := len(means) - 1
	for path := best; path >= 0; path-- {
		if means[path] > -1 && (means[best] < 0 || means[path] <= means[best]) {
			best = path
		}
	}
	return best
}

// turn goes from path to path: from the one behind the last one that was picked to the end, and then from 0 on.
func (m *model) turn(means []int) int {
	path := -1
	if len(m.picked) > 0 {
		path = m.picked[len(m.picked)-1]
	}
	for {
		path++
		if path >= len(means) {
			path = 0
		}
		if means[path] > -1 {
			return path
		}
	}
}

// pair is a Sched and its model.
type pair struct {
	s *sched.Sched
	m *model
}

func newPair(kind int) pair {
	return pair{sched.New(kind), &model{kind: kind}}
}

// pick sees to it that the answer is the model's.
func (p pair) pick(t *testing.T, means []int) []int {
	t.Helper()
	got := p.s.Pick(means)
	if want := p.m.pick(means); !slices.Equal(got, want) {
		t.Fatalf("kind %d: Pick(%v) = %v, want %v", p.m.kind, means, got, want)
	}
	return got
}

// numbers are those of s, with a blank between; "min" and "max" are the least and the greatest int.
func numbers(s string) []int {
	var list []int
	for _, word := range strings.Fields(s) {
		n, _ := strconv.Atoi(word)
		switch word {
		case "min":
			n = math.MinInt
		case "max":
			n = math.MaxInt
		}
		list = append(list, n)
	}
	return list
}

// row sees to it that a new Sched of that kind, and the model as well, answer each of the steps, "means: paths", so.
func row(t *testing.T, kind int, steps ...string) {
	t.Helper()
	p := newPair(kind)
	for i, s := range steps {
		means, want, _ := strings.Cut(s, ":")
		if got := p.pick(t, numbers(means)); !slices.Equal(got, numbers(want)) {
			t.Fatalf("kind %d, %q, step %d: %v", kind, steps, i, got)
		}
	}
}

// each sees to it that a Sched of that kind answers each of the steps so, alone, in a row forth and back, and twice.
func each(t *testing.T, kind int, steps ...string) {
	t.Helper()
	for _, s := range steps {
		row(t, kind, s, s)
	}
	row(t, kind, steps...)
	back := slices.Clone(steps)
	slices.Reverse(back)
	row(t, kind, back...)
}

// others are kinds that are none of the three.
func others() []int {
	return []int{0, -1, -2, -3, 4, 5, 99, 1<<8 + 2, 1<<8 + 3, 1<<16 + 2, 1<<16 + 3, 1<<32 + 2, 1<<32 + 3, -1<<32 + 2, -1<<32 + 3,
		math.MinInt, math.MinInt + 1, math.MinInt + 2, math.MinInt + 3, math.MaxInt - 1, math.MaxInt}
}

// kinds are the three, and the others.
func kinds() []int {
	return append([]int{api.Quickest, api.Round, api.Redundant}, others()...)
}

// Quickest, and each kind that is none: the least one first, last, between; at the edges; several as quick; none, one, two, many.
func TestQuickest(t *testing.T) {
	for _, kind := range append([]int{api.Quickest}, others()...) {
		each(t, kind,
			"5 -1 3:2", "3 5 -1:0", "5 3 4:1", "5 4 3:2", "3 4 5:0", "-1 5 3:2", "-1 3 5:1", "7 2 9 1 8:3",
			"9:0", "0:0", "1:0", "max:0", "9 8:1", "8 9:0", "-1 9:1", "9 -1:0",
			"0 1:0", "1 0:1", "0 max:0", "max 0:1", "max 1:1", "max -1:0", "-1 max:1", "min max:1", "max min:0", "-1 0:1", "0 -1:0", "min 0:1", "0 min:0",
			"max max:0", "-1 max max:1", "-2 -1 7:2", "min -1 max:2",
			"3 3 3:0", "0 0 0:0", "max max max:0", "-1 3 3:1", "3 -1 3:0", "3 3 -1:0", "5 3 3:1", "3 5 3:0", "3 3 5:0", "5 -1 3 -1 3:2", "-1 4 -1 4 4:1",
			"-1:", "-1 -1:", "min:", "min -1 -5:", ":")
	}
}

// By turns: from the first on, over paths that can't be used, round past the last; how quick one is says nothing.
func TestRound(t *testing.T) {
	kind := api.Round
	row(t, kind, "1 1 1:0", "1 1 1:1", "1 1 1:2", "1 1 1:0", "1 1 1:1", "1 1 1:2", "1 1 1:0")
	row(t, kind, "9 5 1:0", "9 5 1:1", "1 5 9:2", "max 0 0:0", "0 max 0:1", "0 0 max:2")
	row(t, kind, "5 -1 3:0", "5 -1 3:2", "5 1 3:0", "5 1 3:1", "-1 -1 -1:", "5 1 -1:0")
	row(t, kind, "7:0", "7:0", "7:0")
	row(t, kind, "7 7:0", "7 7:1", "7 7:0", "7 7:1")
	row(t, kind, "0 0:0", "0 0:1", "0 0:0")
	// The first ones can't be used, at first.
	row(t, kind, "-1 1 1:1", "-1 1 1:2", "-1 1 1:1", "1 1 1:2", "1 1 1:0")
	row(t, kind, "-1 -1 1:2", "1 1 1:0")
	row(t, kind, "min -2 max:2", "min 0 max:1", "0 min max:2", "max min -1:0")
	row(t, kind, "1 -1 -1 -1 1 -1:0", "1 -1 -1 -1 1 -1:4", "1 -1 -1 -1 1 -1:0", "-1 1 -1 -1 1 1:1", "-1 1 -1 -1 1 1:4", "-1 1 -1 -1 1 1:5", "-1 1 -1 -1 1 1:1")
}

// The one that was picked last can't be used any more, or is the only one that can.
func TestRoundBehindTheLast(t *testing.T) {
	kind := api.Round
	row(t, kind, "1 1 1:0", "-1 1 1:1", "1 -1 1:2", "1 1 -1:0", "-1 1 -1:1", "1 -1 -1:0", "-1 -1 1:2")
	row(t, kind, "1 1 1:0", "1 1 1:1", "1 -1 -1:0")
	row(t, kind, "1 -1 -1:0", "1 -1 -1:0", "1 1 1:1")
	row(t, kind, "-1 1 -1:1", "-1 1 -1:1", "1 1 1:2")
	row(t, kind, "-1 -1 1:2", "-1 -1 1:2", "1 1 1:0")
	// The turn of one that can't be used is not kept for it.
	row(t, kind, "1 1 1:0", "1 -1 1:2", "1 1 1:0", "1 1 1:1")
}

// Where none can be used none is picked: the turn stays as it is.
func TestRoundBehindNone(t *testing.T) {
	kind := api.Round
	for _, none := range []string{":", "-1:", "-1 -1:", "-1 -1 -1:", "min -1 -2 min:"} {
		row(t, kind, none, "1 1 1:0", none, "1 1 1:1", none, none, "1 1 1:2", none, none, none, "1 1 1:0", "1 1 1:1")
		row(t, kind, none, none, "-1 1 1:1", none, "1 1 1:2")
		row(t, kind, "1 1 1 1:0", "-1 -1 -1 1:3", none, "1 1 1 1 1:4", none, "1 1:0")
	}
}

// Fewer paths than before, so that the one that was picked last is gone: nothing is behind it, so it is from 0 on.
func TestRoundOfFewer(t *testing.T) {
	kind := api.Round
	row(t, kind, "-1 -1 1:2", "1 1:0", "1 1:1", "1 1:0")
	row(t, kind, "-1 -1 1:2", "-1 1:1", "1 1 1:2")
	row(t, kind, "-1 -1 1:2", "1:0", "1 1 1:1")
	row(t, kind, "-1 1 -1:1", "1:0", "1:0", "1 1:1")
	row(t, kind, "-1 1 -1:1", "1 1:0")
	row(t, kind, "1 -1 -1:0", "1 1:1", "1:0")
	row(t, kind, "-1 -1 -1 1:3", "1 1 1:0", "1 1 1:1")
	row(t, kind, "-1 -1 -1 -1 1:4", "1 1 1:0")
	row(t, kind, "-1 -1 -1 -1 -1 1:5", "-1 1 1 1:1")
	// It is gone while none can be used, and is there again.
	row(t, kind, "-1 1 1:1", "-1:", ":", "1 1 1:2")
	row(t, kind, "-1 -1 1:2", "-1:", ":", "1 1 1 1:3")
}

// More paths than before: the new ones are behind the one that was picked last.
func TestRoundOfMore(t *testing.T) {
	kind := api.Round
	row(t, kind, "1:0", "1 1:1", "1 1 1:2", "1 1 1 1:3", "1 1 1 1:0")
	row(t, kind, "1:0", "1:0", "1 1 1:1", "1 1 1:2", "1 1 1:0")
	row(t, kind, "1 1:0", "1 1:1", "1 1 1:2", "1 1 1:0")
	row(t, kind, "1 1:0", "1 1:1", "1 1 -1:0", "1 1 1:1")
	row(t, kind, "-1 1:1", "1 1 -1 -1 1:4", "1:0", "-1 -1 1 1:2")
}

// All that can be used, rising, each time.
func TestRedundant(t *testing.T) {
	each(t, api.Redundant,
		"5 -1 3:0 2", "3 3 3:0 1 2", "1 2 3:0 1 2", "3 2 1:0 1 2", "0 0:0 1", "0 -1 0 -1 0:0 2 4", "-1 0 -1 0 -1:1 3",
		"9:0", "0:0", "1:0", "max:0", "max min 0:0 2", "max max:0 1", "-1 max:1", "-1 -1 1:2", "1 -1 -1:0", "-1 1 -1:1",
		"-1:", "-1 -1:", "min:", "-1 min -2:", ":", "1 1 1 1 1 1 1 1 1:0 1 2 3 4 5 6 7 8")
}

// None can be used: none, of each kind, as often as it is asked; nil is as the empty list.
func TestNone(t *testing.T) {
	for _, kind := range kinds() {
		p := newPair(kind)
		for _, means := range [][]int{nil, {}, {-1}, {-1, -1}, {-1, -1, -1}, {math.MinInt}, {-2, math.MinInt, -1}, slices.Repeat([]int{-1}, 1000)} {
			for range 3 {
				if got := p.pick(t, means); len(got) != 0 {
					t.Errorf("kind %d: Pick(%v) = %v", kind, means, got)
				}
				p.pick(t, []int{4, 4, 4})
			}
		}
		like := [2]*sched.Sched{sched.New(kind), sched.New(kind)}
		for _, n := range []int{3, 0, 2, 0, 0, 1, 0, 3} {
			a, b := like[0].Pick(slices.Repeat([]int{1}, n)), like[1].Pick(make([]int, n))
			if n == 0 {
				a, b = like[0].Pick(nil), like[1].Pick([]int{})
			}
			if !slices.Equal(a, b) {
				t.Errorf("kind %d, %d paths: %v, and %v", kind, n, a, b)
			}
		}
	}
}

// Of as many paths as there may ever be, and far more.
func TestMany(t *testing.T) {
	for _, n := range []int{api.MaxPaths, api.MaxPaths + 1, 64, 65, 255, 256, 257, 1000, 70000} {
		all := slices.Repeat([]int{6}, n)
		for _, kind := range []int{api.Quickest, api.Round, api.Redundant, 0} {
			p := newPair(kind)
			for _, at := range []int{0, 1, n / 2, n - 2, n - 1} {
				means := slices.Clone(all)
				p.pick(t, means)
				means[at] = 5
				p.pick(t, means)
				means[at] = -1
				p.pick(t, means)
				alone := slices.Repeat([]int{-1}, n)
				alone[at] = 7
				p.pick(t, alone)
				p.pick(t, means)
			}
		}
	}
	s, all := sched.New(api.Round), slices.Repeat([]int{1}, 300)
	for i := range 1000 {
		if got := s.Pick(all); len(got) != 1 || got[0] != i%300 {
			t.Fatalf("turn %d: %v", i, got)
		}
	}
}

// lists are all means of up to most paths, each one of those.
func lists(most int, those ...int) [][]int {
	all := [][]int{nil}
	for i := 0; i < len(all); i++ {
		for k := 0; k < len(those) && len(all[i]) < most; k++ {
			all = append(all, append(slices.Clone(all[i]), those[k]))
		}
	}
	return all
}

// Each Pick of up to five paths at the edges, of each kind.
func TestEachList(t *testing.T) {
	all := lists(5, math.MinInt, -1, 0, 1, math.MaxInt)
	for _, kind := range kinds() {
		p := newPair(kind)
		for _, means := range all {
			newPair(kind).pick(t, means)
			p.pick(t, means)
		}
	}
}

// Each row of up to three Picks of up to three paths.
func TestRows(t *testing.T) {
	all := lists(3, -1, 0, 1)
	for _, kind := range []int{api.Quickest, api.Round, api.Redundant, 0} {
		for _, a := range all {
			for _, b := range all {
				for _, c := range all {
					p := newPair(kind)
					p.pick(t, a)
					p.pick(t, b)
					p.pick(t, c)
				}
			}
		}
	}
}

// Each row of up to five turns of up to three paths.
func TestRowsOfTurns(t *testing.T) {
	all := lists(3, -1, 1)
	rows := [][][]int{nil}
	for i := 0; i < len(rows); i++ {
		p := newPair(api.Round)
		for _, means := range rows[i] {
			p.pick(t, means)
		}
		for k := 0; k < len(all) && len(rows[i]) < 5; k++ {
			rows = append(rows, append(slices.Clone(rows[i]), all[k]))
		}
	}
}

// chance is a row of numbers that looks like any, and is the same each time.
type chance uint64

func (c *chance) below(n int) int {
	*c = *c*6364136223846793005 + 1442695040888963407
	return int(uint64(*c) >> 33 % uint64(n))
}

// mean is one that can't be used, one at the edges, or one of a few.
func (c *chance) mean() int {
	switch edges := numbers("min -2 -1 0 1 max"); c.below(6) {
	case 0, 1:
		return -1
	case 2:
		return edges[c.below(len(edges))]
	}
	return c.below(5)
}

// means are those of fewer than n paths.
func (c *chance) means(n int) []int {
	list := make([]int, c.below(n))
	for i := range list {
		list[i] = c.mean()
	}
	return list
}

func TestLongRows(t *testing.T) {
	c := chance(1)
	for i, kind := range slices.Repeat(kinds(), 20) {
		p := newPair(kind)
		for range 200 {
			p.pick(t, c.means(2+i%9))
		}
	}
}

// Several at once: none has anything of another, of its kind or not.
func TestSeveral(t *testing.T) {
	c := chance(3)
	for range 50 {
		list := []pair{newPair(api.Round), newPair(api.Round), newPair(api.Quickest), newPair(api.Redundant), newPair(0), newPair(api.Round)}
		for range 300 {
			list[c.below(len(list))].pick(t, c.means(5))
		}
	}
	// A new one is at its beginning, whatever the others have picked.
	row(t, api.Round, "1 1 1:0")
}

// Several pick from the same means, each as if it were alone.
func TestSameMeans(t *testing.T) {
	c := chance(4)
	for range 100 {
		var list []pair
		for _, kind := range kinds() {
			list = append(list, newPair(kind), newPair(kind))
		}
		for range 40 {
			means := c.means(5)
			for _, p := range list {
				p.pick(t, means)
			}
		}
	}
	quickest, round := newPair(api.Quickest), newPair(api.Round)
	means := numbers("5 -1 3")
	for _, want := range []int{0, 2, 0, 2} {
		if got := quickest.pick(t, means); got[0] != 2 {
			t.Errorf("the quickest: %v", got)
		}
		if got := round.pick(t, means); got[0] != want {
			t.Errorf("the next: %v, want %d", got, want)
		}
	}
}

// What is handed in is not changed, nor what lies behind its length, and that is not read; it is not kept: the one that has it may change it.
func TestHandedIn(t *testing.T) {
	c := chance(5)
	for _, kind := range kinds() {
		p := newPair(kind)
		for range 200 {
			means := c.means(5)
			// What lies behind would be picked, were it read: it is as quick as can be.
			memory := append(slices.Clone(means), 0, 0, -1, 0)
			was := slices.Clone(memory)
			p.pick(t, memory[:len(means)])
			if !slices.Equal(memory, was) {
				t.Fatalf("kind %d: %v, and then %v", kind, was, memory)
			}
			for i := range memory {
				memory[i] = c.mean()
			}
			was = slices.Clone(memory)
			p.pick(t, c.means(5))
			if !slices.Equal(memory, was) {
				t.Fatalf("kind %d: %v, and then %v", kind, was, memory)
			}
		}
	}
}

// What was handed in may be handed in again, with other numbers in it.
func TestHandedInAgain(t *testing.T) {
	c := chance(6)
	for _, kind := range kinds() {
		p, memory := newPair(kind), make([]int, 6)
		for range 300 {
			for i := range memory {
				memory[i] = c.mean()
			}
			from := c.below(4)
			p.pick(t, memory[from:from+c.below(3)])
		}
	}
}

// What is handed out is new memory: who has it may change it, behind its length too, and it stays as it is, whatever comes behind.
func TestHandedOut(t *testing.T) {
	c := chance(7)
	for _, kind := range kinds() {
		p, q := newPair(kind), newPair(kind)
		var kept, were [][]int
		for range 100 {
			means := c.means(6)
			was := slices.Clone(means)
			list := p.pick(t, means)
			for i := range list[:cap(list)] {
				list[:cap(list)][i] = 77
			}
			_ = append(list, 77)
			if !slices.Equal(means, was) {
				t.Fatalf("kind %d: means %v, and then %v", kind, was, means)
			}
			list = q.pick(t, means)
			kept, were = append(kept, list), append(were, slices.Clone(list))
			for i := range means {
				means[i] = 88
			}
			p.pick(t, was)
			q.pick(t, was)
		}
		for i, list := range kept {
			if !slices.Equal(list, were[i]) {
				t.Fatalf("kind %d: %v, and then %v", kind, were[i], list)
			}
		}
	}
}

// A list that is handed out and one handed out ahead of it have no memory in common, behind their lengths too.
func TestHandedOutTwice(t *testing.T) {
	for _, kind := range kinds() {
		s := sched.New(kind)
		a, b := s.Pick([]int{1, 1, 1}), s.Pick([]int{1, 1, 1})
		was := slices.Clone(b)
		for i := range a[:cap(a)] {
			a[:cap(a)][i] = 77
		}
		if !slices.Equal(b, was) {
			t.Errorf("kind %d: %v, and then %v", kind, was, b)
		}
		for i := range b[:cap(b)] {
			b[:cap(b)][i] = 88
		}
		for _, n := range a[:cap(a)] {
			if n != 77 {
				t.Errorf("kind %d: %v", kind, a[:cap(a)])
			}
		}
	}
}
