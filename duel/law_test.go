package duel_test

import (
	"bytes"
	"testing"

	"haulier/api"
	"haulier/duel"
)

// talk is a pair, and what is left to be written by each side.
type talk struct {
	pair
	c      api.Config
	left   [2][]byte
	chance *chance
}

func newTalk(t *testing.T, c api.Config, size int, by *chance) *talk {
	t.Helper()
	return &talk{newPair(t, c), c, [2][]byte{filled(0, size), filled(100, size)}, by}
}

// holds sees to it that what each side was handed is a beginning of what the other one wrote (T1).
func (k *talk) holds(t *testing.T) {
	t.Helper()
	for side := range 2 {
		if written := k.d.End(1 - side).Written(); !bytes.HasPrefix(written, k.d.Delivered(side)) {
			t.Fatalf("%v: side %d was handed %q, and %q was written", k.c, side, k.d.Delivered(side), written)
		}
	}
}

// offer writes some of what is left.
func (k *talk) offer(t *testing.T, side, n int) {
	t.Helper()
	before := len(k.d.End(side).Written())
	k.do(t, duel.Step{Kind: duel.Write, Side: side, Data: k.left[side][:min(n, len(k.left[side]))]})
	k.left[side] = k.left[side][len(k.d.End(side).Written())-before:]
}

// act is a step: something is written, or read, or delivered in any order, or lost, doubled, spoilt; time goes on; a path goes down or up.
func (k *talk) act(t *testing.T) {
	t.Helper()
	c, side := k.chance, k.chance.below(2)
	at := c.below(k.d.Net().Len(side) + 1)
	s := duel.Step{Side: side, N: at, Bit: c.below(70), Mask: uint32(1 + c.below(1000))}
	switch kind := c.below(24); {
	case kind < 3:
		k.offer(t, side, c.below(30))
		return
	case kind < 6:
		s.Kind, s.N = duel.Read, c.below(30)
	case kind < 8:
		s.Kind, s.N = duel.Tick, 1+c.below(4)
	case kind == 8:
		s.Kind, s.N = duel.Up, c.below(3)
	case kind == 9 && c.below(6) == 0:
		s.Kind, s.N = duel.Down, c.below(3)
	case kind < 14:
		s.Kind, s.N = duel.Deliver, 0
	case kind < 20:
		s.Kind = duel.Deliver
	default:
		s.Kind = []int{duel.Drop, duel.Again, duel.Spoil, duel.Deliver}[kind-20]
	}
	k.do(t, s)
}

// finish sees to it that, with one path up at both ends, and nothing lost any more, rounds come to where all is delivered, and both ends are done (T5).
func (k *talk) finish(t *testing.T, path, ticks int) {
	t.Helper()
	for side := range 2 {
		k.do(t, duel.Step{Kind: duel.Up, Side: side, N: path})
	}
	for range 5000 {
		for side := range 2 {
			if k.offer(t, side, api.MaxBytes); len(k.left[side]) == 0 {
				k.do(t, duel.Step{Kind: duel.Close, Side: side})
			}
		}
		if k.d.Done() {
			break
		}
		k.round(ticks)
		k.holds(t)
	}
	for side := range 2 {
		if written := k.d.End(1 - side).Written(); !k.d.Done() || len(k.left[1-side]) > 0 || !bytes.Equal(k.d.Delivered(side), written) {
			t.Fatalf("%v, side %d: %v, handed %d bytes, %d were written, %d are left", k.c, side, k.d.End(side).State(), len(k.d.Delivered(side)), len(written), len(k.left[1-side]))
		}
	}
	k.like(t)
}

// Whatever happens, and then rounds to the end.
func TestBadWay(t *testing.T) {
	for i := range 200 {
		c := chance(i)
		k := newTalk(t, c.anyConfig(), c.below(300), &c)
		for range c.below(500) {
			k.act(t)
			k.holds(t)
		}
		k.like(t)
		k.finish(t, c.below(k.c.Paths), 1+c.below(9))
	}
}

// From the beginning on by rounds alone; what is done between them is that a path goes down, or up, and that some are lost.
func TestRoundsAlone(t *testing.T) {
	for i := range 100 {
		c := chance(300 + i)
		k := newTalk(t, c.anyConfig(), 60, &c)
		for range 30 {
			side, path := c.below(2), c.below(k.c.Paths)
			k.do(t, duel.Step{Kind: []int{duel.Up, duel.Up, duel.Down, duel.Drop}[c.below(4)], Side: side, N: path})
			k.offer(t, side, 7)
			k.round(c.below(7))
			k.holds(t)
		}
		k.finish(t, 0, 1+i%5)
	}
}

// Beside the path that is up at both ends others may be up at one.
func TestHalf(t *testing.T) {
	for i := range 60 {
		c := chance(500 + i)
		conf := c.anyConfig()
		conf.Paths = 3
		k := newTalk(t, conf, 60, &c)
		for range 150 {
			k.act(t)
		}
		for path := range 3 {
			k.do(t, duel.Step{Kind: duel.Up, Side: path % 2, N: path})
			k.do(t, duel.Step{Kind: duel.Down, Side: 1 - path%2, N: path})
		}
		k.finish(t, i%3, 1+i%4)
	}
}

// The greatest and the least configurations, up to MaxBytes each way.
func TestMost(t *testing.T) {
	for kind := api.Quickest; kind <= api.Redundant; kind++ {
		c := chance(70 + kind)
		k := newTalk(t, api.Config{Paths: 3, Buffer: 400, Window: 400, Chunk: 64, Most: 16, First: 64, Sched: kind}, api.MaxBytes, &c)
		for range 600 {
			k.act(t)
			k.holds(t)
		}
		k.finish(t, kind-1, 2)
		if len(k.d.Delivered(0)) != api.MaxBytes || len(k.d.Delivered(1)) != api.MaxBytes {
			t.Error(len(k.d.Delivered(0)), len(k.d.Delivered(1)))
		}
		k = newTalk(t, api.Config{Paths: 1, Buffer: 1, Window: 1, Chunk: 1, Most: 1, First: 1, Sched: kind}, 40, &c)
		for range 300 {
			k.act(t)
			k.holds(t)
		}
		k.finish(t, 0, 1)
	}
}
