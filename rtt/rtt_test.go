package rtt_test

import (
	"math"
	"testing"

	"haulier/api"
	"haulier/rtt"
)

// late stands in a row of steps for a Late; each other number is a Sample of it.
const late = math.MinInt + 5

// numbers are any numbers at all: at the edges of what the calls take, of the kinds of integers, and between.
func numbers() []int {
	return []int{
		math.MinInt, math.MinInt + 1, -1 << 62, -1 << 32, -1<<31 - 1, -1 << 31, -api.MaxTick, -9, -2, -1, 0, 1, 2, 3, 4, 5, 7, 8, 9, 13, 63, 64, 65, 100, 1000,
		api.MaxTick - 1, api.MaxTick, api.MaxTick + 1, 1<<31 - 1, 1 << 31, 1 << 32, 1<<32 + 3, 1 << 62, math.MaxInt - 1, math.MaxInt,
	}
}

// made is a Guess that New(first) made, behind the steps.
func made(first int, steps ...int) *rtt.Guess {
	g := rtt.New(first)
	for _, n := range steps {
		step(g, n)
	}
	return g
}

func step(g *rtt.Guess, n int) {
	if n == late {
		g.Late()
	} else {
		g.Sample(n)
	}
}

// tells sees to it that g's Mean and Wait are these, and that they are so again when they are asked again.
func tells(t *testing.T, g *rtt.Guess, mean, wait int) {
	t.Helper()
	for range 2 {
		if got := g.Mean(); got != mean {
			t.Errorf("Mean() = %d, want %d", got, mean)
		}
		if got := g.Wait(); got != wait {
			t.Errorf("Wait() = %d, want %d", got, wait)
		}
	}
}

// lates sees to it that the Waits behind one Late more each are these, and that the Mean stays.
func lates(t *testing.T, g *rtt.Guess, waits ...int) {
	t.Helper()
	mean := g.Mean()
	for _, wait := range waits {
		g.Late()
		tells(t, g, mean, wait)
	}
}

func TestFirst(t *testing.T) {
	for _, r := range []struct{ first, wait int }{
		{math.MinInt, 1}, {math.MinInt + 1, 1}, {-1 << 32, 1}, {-64, 1}, {-1, 1}, {0, 1}, {1, 1}, {2, 2}, {3, 3}, {33, 33}, {63, 63},
		{64, 64}, {65, 64}, {128, 64}, {1<<32 + 5, 64}, {math.MaxInt - 1, 64}, {math.MaxInt, 64},
	} {
		tells(t, rtt.New(r.first), 0, r.wait)
	}
	for first := 1; first <= api.MaxWait; first++ {
		tells(t, rtt.New(first), 0, first)
	}
}

func TestFirstCountsNoMoreBehindASample(t *testing.T) {
	for _, first := range numbers() {
		tells(t, made(first, 8), 8, 24)
		tells(t, made(first, 0), 0, 1)
		tells(t, made(first, late, late, 3, late), 3, 14)
	}
}

// Mean, and spread by the Wait: n and four times half of it.
func TestFirstSample(t *testing.T) {
	for _, r := range []struct{ n, mean, wait int }{
		{math.MinInt, 0, 1}, {math.MinInt + 1, 0, 1}, {-1 << 32, 0, 1}, {-8, 0, 1}, {-1, 0, 1}, {0, 0, 1}, {1, 1, 2}, {2, 2, 6}, {3, 3, 7},
		{4, 4, 12}, {5, 5, 13}, {6, 6, 18}, {7, 7, 19}, {8, 8, 24}, {9, 9, 25}, {20, 20, 60}, {21, 21, 61}, {22, 22, 64}, {23, 23, 64}, {64, 64, 64},
		{api.MaxTick - 1, api.MaxTick - 1, 64}, {api.MaxTick, api.MaxTick, 64}, {api.MaxTick + 1, api.MaxTick, 64}, {1<<32 + 2, api.MaxTick, 64},
		{math.MaxInt - 1, api.MaxTick, 64}, {math.MaxInt, api.MaxTick, 64},
	} {
		tells(t, made(9, r.n), r.mean, r.wait)
	}
}

// Each row is a first Sample, and what the further ones make of it.
func TestFurtherSamples(t *testing.T) {
	type row struct{ n, mean, wait int }
	for _, rows := range [][]row{
		// Spreads 4, 5, 6, 4, 3: a mean below, above, and at what is measured.
		{{8, 8, 24}, {16, 9, 29}, {0, 7, 31}, {7, 7, 23}, {7, 7, 19}},
		// One further Sample behind a mean of 8 and a spread of 4: quarters of 13 to 21, eighths of 60 to 73.
		{{8, 8, 24}, {7, 7, 19}},
		{{8, 8, 24}, {9, 8, 20}},
		{{8, 8, 24}, {10, 8, 20}},
		{{8, 8, 24}, {11, 8, 20}},
		{{8, 8, 24}, {12, 8, 24}},
		{{8, 8, 24}, {5, 7, 19}},
		{{8, 8, 24}, {4, 7, 23}},
		{{8, 8, 24}, {15, 8, 24}},
		{{8, 8, 24}, {16, 9, 29}},
		{{8, 8, 24}, {17, 9, 29}},
		// The mean goes to 0, the spread to 0 ahead of it.
		{{1, 1, 2}, {1, 1, 2}, {0, 0, 1}, {0, 0, 1}},
		// The mean does not come to 1 by ones: an eighth is rounded down; a spread of 3 times 1 and 1 stays 1.
		{{0, 0, 1}, {1, 0, 1}, {4, 0, 4}, {1, 0, 4}, {0, 0, 1}, {7, 0, 4}, {8, 1, 9}},
		{{2, 2, 6}, {2, 2, 3}, {2, 2, 3}},
		{{3, 3, 7}, {4, 3, 7}, {6, 3, 7}, {7, 3, 7}, {3, 3, 4}},
		// The longest, and what is past it, and below 0, count as the most and the least.
		{{api.MaxTick, 1 << 20, 64}, {math.MaxInt, 1 << 20, 64}, {math.MinInt, 7 << 17, 64}},
		{{-1, 0, 1}, {api.MaxTick + 1, 1 << 17, 64}, {api.MaxTick, 1<<17 + 7<<14, 64}, {-5, 7 * (1<<14 + 7<<11), 64}},
	} {
		g := rtt.New(5)
		for i, r := range rows {
			g.Sample(r.n)
			t.Log(rows, i)
			tells(t, g, r.mean, r.wait)
		}
	}
}

func TestSampleOfWhatIsNone(t *testing.T) {
	for _, n := range numbers() {
		least := min(max(n, 0), api.MaxTick)
		for _, ahead := range [][]int{{}, {0}, {5}, {late, 9, 2}, {api.MaxTick, late}} {
			g, h := made(7, ahead...), made(7, ahead...)
			g.Sample(n)
			h.Sample(least)
			tells(t, g, h.Mean(), h.Wait())
		}
	}
}

func TestLateWithoutASample(t *testing.T) {
	lates(t, rtt.New(1), 2, 4, 8, 16, 32, 64, 64, 64)
	lates(t, rtt.New(3), 6, 12, 24, 48, 64, 64, 64, 64)
	lates(t, rtt.New(31), 62, 64)
	lates(t, rtt.New(32), 64, 64)
	lates(t, rtt.New(33), 64, 64)
	lates(t, rtt.New(63), 64, 64)
	lates(t, rtt.New(64), 64, 64, 64, 64, 64, 64, 64)
	lates(t, rtt.New(math.MinInt), 2, 4, 8, 16, 32, 64, 64)
	lates(t, rtt.New(math.MaxInt), 64, 64, 64, 64, 64, 64, 64)
}

func TestLateBehindASample(t *testing.T) {
	lates(t, made(9, 0), 2, 4, 8, 16, 32, 64, 64)
	lates(t, made(9, 1), 4, 8, 16, 32, 64, 64, 64)
	lates(t, made(9, 8), 48, 64, 64)
	lates(t, made(9, 10), 60, 64, 64)
	lates(t, made(9, 11), 62, 64, 64)
	lates(t, made(9, 8, 7, 7), 30, 60, 64, 64)
	lates(t, made(9, api.MaxTick), 64, 64, 64, 64, 64, 64, 64)
}

func TestASampleEndsLate(t *testing.T) {
	for count := range 9 {
		var ahead []int
		for range count {
			ahead = append(ahead, late)
		}
		tells(t, made(9, append(ahead, 0)...), 0, 1)
		g := made(9, append(ahead, 8)...)
		tells(t, g, 8, 24)
		lates(t, g, 48, 64)
		// A further one as well.
		g = made(9, append([]int{0}, ahead...)...)
		g.Sample(0)
		tells(t, g, 0, 1)
		lates(t, g, 2, 4, 8, 16, 32, 64, 64)
	}
}

// Many Lates are not kept beyond the sixth, and are all gone with one Sample.
func TestManyLates(t *testing.T) {
	g := rtt.New(1)
	for range 1000 {
		g.Late()
	}
	tells(t, g, 0, 64)
	g.Sample(0)
	tells(t, g, 0, 1)
}

// still is the steps of 15 Samples of n: behind them the spread is 0.
func still(n int) []int {
	steps := make([]int, 15)
	for i := range steps {
		steps[i] = n
	}
	return steps
}

// Waits just below MaxWait, at it, and above it, doubled or not.
func TestWaitAboutTheMost(t *testing.T) {
	for _, r := range []struct {
		steps      []int
		mean, wait int
	}{
		// Means and four times spreads: 18 and 44, 19 and 44, 23 and 40, 20 and 44, 21 and 44, 17 and 48, 20 and 48.
		{[]int{20, 4}, 18, 62},
		{[]int{21, 7}, 19, 63},
		{[]int{22, 30}, 23, 63},
		{[]int{22, 11}, 20, 64},
		{[]int{20, 34}, 21, 64},
		{[]int{20, 0}, 17, 64},
		{[]int{22, 7}, 20, 64},
		// A spread of 0 counts as 1, once.
		{still(0), 0, 1},
		{still(62), 62, 63},
		{still(63), 63, 64},
		{still(64), 64, 64},
		{still(api.MaxTick), api.MaxTick, 64},
		{append(still(30), late), 30, 62},
		{append(still(31), late), 31, 64},
		{append(still(32), late), 32, 64},
		{append(still(62), late), 62, 64},
		{append(still(63), late), 63, 64},
		// A spread of 1 counts as 4.
		{[]int{12, 12, 12, 12, 12}, 12, 16},
		{[]int{12, 12, 12, 12, 12, late}, 12, 32},
		{[]int{12, 12, 12, 12, 12, late, late}, 12, 64},
		{[]int{10, 10, 10, 10, late, late}, 10, 56},
		{[]int{11, late}, 11, 62},
		{[]int{12, late}, 12, 64},
	} {
		t.Log(r)
		tells(t, made(1, r.steps...), r.mean, r.wait)
	}
}

// model is a Guess that keeps all that happened to it, and works each answer out anew of it.
type model struct {
	first int
	steps []int
}

// cut is n, counted as least below it, and as most above it.
func cut(n, least, most int) int {
	switch {
	case n < least:
		return least
	case n > most:
		return most
	}
	return n
}

// count is the mean, the spread, how often it is late, and whether there was a Sample at all.
func (m model) count() (mean, spread float64, lates int, sampled bool) {
	for _, s := range m.steps {
		n := float64(cut(s, 0, api.MaxTick))
		switch {
		case s == late:
			lates++
			continue
		case sampled:
			spread = math.Floor(0.75*spread + 0.25*math.Abs(mean-n))
			mean = math.Floor(0.875*mean + 0.125*n)
		default:
			mean, spread = n, math.Floor(0.5*n)
		}
		lates, sampled = 0, true
	}
	return mean, spread, lates, sampled
}

func (m model) tell() (mean, wait int) {
	middle, spread, lates, sampled := m.count()
	wait = cut(m.first, 1, api.MaxWait)
	if sampled {
		wait = int(middle) + 1
		if spread > 0 {
			wait = int(middle + 4*spread)
		}
		wait = cut(wait, 1, api.MaxWait)
	}
	for range min(lates, 6) {
		wait = cut(2*wait, 1, api.MaxWait)
	}
	return int(middle), wait
}

// like sees to it that g tells what m tells.
func like(t *testing.T, g *rtt.Guess, m model) {
	t.Helper()
	mean, wait := m.tell()
	if got := g.Mean(); got != mean {
		t.Fatalf("New(%d), %v: Mean() = %d, want %d", m.first, m.steps, got, mean)
	}
	if got := g.Wait(); got != wait {
		t.Fatalf("New(%d), %v: Wait() = %d, want %d", m.first, m.steps, got, wait)
	}
}

// Each row of up to five steps, each behind a Clone of what is behind the steps ahead of it.
func TestRows(t *testing.T) {
	kinds := []int{late, 0, 1, 3, 8, 13, 22, api.MaxTick}
	var walk func(g *rtt.Guess, m model, more int)
	walk = func(g *rtt.Guess, m model, more int) {
		like(t, g, m)
		if more == 0 {
			return
		}
		for _, n := range kinds {
			next := g.Clone()
			step(next, n)
			walk(next, model{m.first, append(m.steps[:len(m.steps):len(m.steps)], n)}, more-1)
			like(t, g, m)
		}
	}
	for _, first := range []int{-3, 1, 5, 32, 33, 64, 100} {
		walk(rtt.New(first), model{first: first}, 5)
	}
}

// chance is a row of numbers that looks like any, and is the same each time.
type chance uint64

func (c *chance) below(n int) int {
	*c = *c*6364136223846793005 + 1442695040888963407
	return int(uint64(*c) >> 33 % uint64(n))
}

// step is a step: a Late, or a Sample of a small number, of one up to MaxTick, or of any number at all.
func (c *chance) step() int {
	all := numbers()
	switch c.below(5) {
	case 0:
		return late
	case 1, 2:
		return c.below(24)
	case 3:
		return c.below(api.MaxTick + 1)
	}
	return all[c.below(len(all))]
}

func TestLongRows(t *testing.T) {
	c := chance(1)
	for range 300 {
		all := numbers()
		first := all[c.below(len(all))]
		g, m := rtt.New(first), model{first: first}
		for range 60 {
			n := c.step()
			step(g, n)
			m.steps = append(m.steps, n)
			like(t, g, m)
		}
	}
}

// Up to four Guesses, each but the first a Clone of another as it was then; each goes its own way.
func TestClones(t *testing.T) {
	c := chance(7)
	for first := range 70 {
		guesses, models := []*rtt.Guess{rtt.New(first)}, []model{{first: first}}
		for range 40 {
			i := c.below(len(guesses))
			if m := models[i]; len(guesses) < 4 && c.below(4) == 0 {
				guesses = append(guesses, guesses[i].Clone())
				models = append(models, model{m.first, append([]int(nil), m.steps...)})
			} else {
				n := c.step()
				step(guesses[i], n)
				models[i].steps = append(m.steps, n)
			}
			for i, g := range guesses {
				like(t, g, models[i])
			}
		}
	}
}

// ways is what is done to a Clone, or to what it was made of, and what is told behind New(3), late, Sample(5), Late.
var ways = []struct {
	name       string
	do         func(g *rtt.Guess)
	mean, wait int
}{
	{"nothing", func(g *rtt.Guess) {}, 5, 26},
	{"Late", func(g *rtt.Guess) { g.Late() }, 5, 52},
	{"Sample", func(g *rtt.Guess) { g.Sample(13) }, 6, 18},
	{"Wait and Mean", func(g *rtt.Guess) { g.Wait(); g.Mean() }, 5, 26},
	{"a Clone's Late", func(g *rtt.Guess) { g.Clone().Late() }, 5, 26},
	{"a Clone's Sample", func(g *rtt.Guess) { g.Clone().Sample(13) }, 5, 26},
}

func TestEachWayOfAClone(t *testing.T) {
	for _, a := range ways {
		for _, b := range ways {
			t.Log(a.name, b.name)
			g := made(3, late, 5, late)
			h := g.Clone()
			a.do(g)
			tells(t, h, 5, 26)
			b.do(h)
			tells(t, g, a.mean, a.wait)
			tells(t, h, b.mean, b.wait)
			// The Clone's way ahead of the other's.
			g = made(3, late, 5, late)
			h = g.Clone()
			b.do(h)
			tells(t, g, 5, 26)
			a.do(g)
			tells(t, g, a.mean, a.wait)
			tells(t, h, b.mean, b.wait)
		}
	}
}

func TestCloneWithoutASample(t *testing.T) {
	g := rtt.New(3)
	h := g.Clone()
	g.Late()
	tells(t, h, 0, 3)
	h.Sample(8)
	tells(t, g, 0, 6)
	tells(t, h, 8, 24)
	k := g.Clone()
	tells(t, k, 0, 6)
	g.Sample(0)
	tells(t, k, 0, 6)
	tells(t, g, 0, 1)
	lates(t, k, 12, 24, 48, 64, 64, 64)
}

// Two that New made have nothing in common.
func TestTwoGuesses(t *testing.T) {
	g, h := rtt.New(5), rtt.New(5)
	g.Late()
	tells(t, h, 0, 5)
	h.Sample(8)
	tells(t, g, 0, 10)
}
