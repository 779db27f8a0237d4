package duel_test

import (
	"testing"

	"haulier/api"
	"haulier/duel"
)

// walk goes over each row of at most so many of the steps, behind a beginning; each is held against the model at its end.
func walk(t *testing.T, c api.Config, begin string, steps []string, most int) {
	t.Helper()
	var more func(row []string, most int)
	more = func(row []string, most int) {
		p := newPair(t, c)
		for _, s := range row {
			p.step(t, s)
		}
		p.like(t)
		for i := 0; i < len(steps) && most > 0; i++ {
			more(append(row, steps[i]), most-1)
		}
	}
	more(split(begin), most)
}

func TestEachRow(t *testing.T) {
	walk(t, config(), "", []string{
		"up 0 0", "up 1 0", "write 0 abcdef", "write 1 xy", "deliver 1 0", "deliver 0 0", "deliver 1 1", "drop 1 0", "again 1 0", "spoil 1 0 9 5", "close 0", "tick 3", "round 1", "down 1 0",
	}, 4)
	for kind := api.Quickest; kind <= api.Redundant; kind++ {
		c := with(func(c *api.Config) { c.Sched = kind })
		walk(t, c, busy+"; up 0 1; up 1 1", []string{
			"deliver 0 0", "deliver 0 1", "deliver 1 0", "deliver 1 2", "drop 0 1", "again 0 0", "spoil 0 0 -1 2", "read 0 3", "read 1 9", "close 1", "tick 1", "tick 4", "round 2", "down 0 0",
		}, 3)
	}
}

// anyConfig is one that may be, of few paths and small numbers.
func (c *chance) anyConfig() api.Config {
	return api.Config{Paths: 1 + c.below(3), Buffer: 1 + c.below(40), Window: 1 + c.below(40), Chunk: 1 + c.below(9), Most: 1 + c.below(8), First: 1 + c.below(9), Sched: 1 + c.below(3)}
}

// any is a step, seldom one that can't be: with a kind, a side, a place that there is not.
func (c *chance) any(p pair) duel.Step {
	s := duel.Step{Kind: 1 + c.below(10), Side: c.below(2), Bit: c.below(90) - 20, Mask: uint32(c.below(1<<31)) >> c.below(32)}
	switch s.Kind {
	case duel.Write:
		s.Data = filled(len(p.m.ends[s.Side].Written())+100*s.Side, c.below(12))
	case duel.Read:
		s.N = c.below(12) - 1
	case duel.Close, duel.Down:
		// Most rows go on for long.
		if s.N = c.below(4); c.below(8) > 0 {
			s.Kind, s.N = duel.Deliver, 0
		}
	case duel.Tick:
		s.N = c.below(6)
	case duel.Up:
		s.N = c.below(4) - 1
	default:
		s.N = c.below(len(p.m.to(s.Side))+2) - 1
	}
	switch c.below(60) {
	case 0:
		s.Side = edges()[c.below(len(edges()))]
	case 1:
		s.N = edges()[c.below(len(edges()))]
	case 2:
		s.Kind = edges()[c.below(len(edges()))]
	case 3:
		s.Bit = edges()[c.below(len(edges()))]
	}
	return s
}

// Long rows of any steps, and a round now and then.
func TestLongRows(t *testing.T) {
	for i := range 120 {
		c := chance(1000 + i)
		p := newPair(t, c.anyConfig())
		p.steps(t, "up 0 0; up 1 0")
		for k := range 400 {
			if c.below(30) == 0 {
				p.round(c.below(9))
			} else {
				p.do(t, c.any(p))
			}
			if k%25 == 0 {
				p.like(t)
			}
		}
		p.like(t)
	}
}

// What does nothing leaves nothing behind: of two Duels one does all steps, the other one those alone that do something.
func TestNothing(t *testing.T) {
	for i := range 60 {
		c := chance(2000 + i)
		conf := c.anyConfig()
		p, q := newPair(t, conf), newPair(t, conf)
		for range 250 {
			s := c.any(p)
			before := tell(p.d)
			if p.do(t, s) {
				q.do(t, s)
			} else if !before.same(tell(p.d)) {
				t.Fatalf("%d: %v is false, and changed something", i, s)
			}
		}
		if !tell(p.d).same(tell(q.d)) {
			t.Fatalf("%d: %s, want %s", i, under(p.d), under(q.d))
		}
		q.like(t)
	}
}

// Several at once: each goes its own way.
func TestSeveral(t *testing.T) {
	c := chance(5)
	var pairs []pair
	for i := range 5 {
		pairs = append(pairs, newPair(t, c.anyConfig()))
		pairs[i].steps(t, "up 0 0; up 1 0")
	}
	for range 2500 {
		p := pairs[c.below(len(pairs))]
		if c.below(40) == 0 {
			p.round(c.below(4))
		} else {
			p.do(t, c.any(p))
		}
	}
	for _, p := range pairs {
		p.like(t)
	}
}
