package duel_test

import (
	"strings"
	"testing"

	"haulier/api"
	"haulier/duel"
	"haulier/end"
)

// A round with nothing under way: time goes on, and that is all.
func TestRoundNone(t *testing.T) {
	p := newPair(t, config())
	p.row(t, "round 3 => yes [] []", "round 1 => yes [] []")
	for side := range 2 {
		if e := p.d.End(side); e.Now() != 4 || len(e.Events()) != 2 {
			t.Error(side, e.Events())
		}
	}
}

// handed sees to it what the sides 0 and 1 were handed.
func (p pair) handed(t *testing.T, zero, one string) {
	t.Helper()
	if a, b := string(p.d.Delivered(0)), string(p.d.Delivered(1)); a != zero || b != one {
		t.Errorf("handed: %q, %q, want %q, %q", a, b, zero, one)
	}
}

// Time goes on; then it is side 1's turn, then side 0's; then what came is read.
func TestRound(t *testing.T) {
	p := newPair(t, config())
	p.row(t, "up 0 0; up 1 0; write 0 abcdefghijkl; write 1 ABC => yes [] [join 0.0]",
		// What side 1 says to the Join comes in this round, and what side 0 says to that waits for the next one.
		"round 1 => yes [] [data 0.1 0 abcd, data 0.2 4 efgh]")
	p.handed(t, "", "")
	// What is said as time goes on comes in this round too. The Acks go ahead of the Read: side 0 knows of no more room.
	p.row(t, "round 1 => yes [] [ack 0.3 1 3 8]")
	p.handed(t, "ABC", "abcdefgh")
	p.row(t, "round 1 => yes [] [data 0.5 8 ijkl]")
	p.handed(t, "ABC", "abcdefgh")
	// Its answer is waited for for one tick: it is sent again, and comes twice.
	p.row(t, "round 1 => yes [] []")
	p.handed(t, "ABC", "abcdefghijkl")
	p.row(t, "close 0; close 1 => yes [data 0.7 3 .] [data 0.7 12 .]", "round 1 => yes [] [ack 0.9 7 4 11]")
	if p.d.Done() || !p.d.End(0).Done() || p.d.End(0).Now() != 5 {
		t.Error(p.d.End(0).State(), p.d.End(1).State())
	}
	p.row(t, "round 7 => yes [] [ack 0.10 10 4 11]")
	if !p.d.Done() || p.d.End(0).Now() != 12 || p.d.End(1).Now() != 12 {
		t.Error(p.d.End(0).State(), p.d.End(1).State())
	}
	p.handed(t, "ABC", "abcdefghijkl")
}

// N is as Tick's: of any other no time goes by, and all else is done all the same.
func TestRoundOf(t *testing.T) {
	for _, n := range edges() {
		p := behind(t, config(), busy)
		p.round(n)
		p.like(t)
		now := 0
		if n >= 1 && n <= 1000 {
			now = n
		}
		if p.d.End(0).Now() != now || p.d.End(1).Now() != now {
			t.Errorf("Round(%d): %d, %d", n, p.d.End(0).Now(), p.d.End(1).Now())
		}
		p.handed(t, "ABCDEFGH", "abcdefgh")
		if want := "[] [ack 0.3 1 4 8, ack 0.4 2 8 8]"; now < 3 && under(p.d) != want {
			t.Errorf("Round(%d): %s, want %s", n, under(p.d), want)
		}
	}
}

// At MaxTick, one ahead of it, and where one end alone is there.
func TestRoundMaxTick(t *testing.T) {
	for _, ahead := range []int{0, 1, 2} {
		p := late(t, api.MaxTick-ahead)
		p.steps(t, busy)
		p.round(2)
		p.like(t)
		p.handed(t, "ABCDEFGH", "abcdefgh")
		if now := p.d.End(0).Now(); now != api.MaxTick-ahead%2 || p.d.End(1).Now() != now {
			t.Errorf("%d ahead: %d, %d", ahead, now, p.d.End(1).Now())
		}
	}
	for side := range 2 {
		p := newPair(t, config())
		for _, e := range []*end.End{p.d.End(side), p.m.ends[side]} {
			e.Tick(api.MaxTick)
		}
		p.steps(t, busy)
		p.round(1)
		p.like(t)
		if p.d.End(1-side).Now() != 0 {
			t.Error(p.d.End(1 - side).Now())
		}
		p.handed(t, "ABCDEFGH", "abcdefgh")
	}
}

// A turn is as long as what is under way at its beginning: doubled, spoilt, and out of order, up to 200.
func TestRoundMany(t *testing.T) {
	for _, steps := range []string{
		busy + "; again 0 0; again 1 1; again 1 0; again 1 3", busy + "; spoil 1 0 9 5; again 0 1; spoil 0 0 3 1", busy + "; drop 1 0; drop 0 1",
		busy + "; up 0 1; up 1 1; again 1 2; close 0; write 1 IJKL",
	} {
		p := behind(t, config(), steps)
		for range 9 {
			p.round(2)
			p.like(t)
			if p.d.Net().Len(0) != 0 {
				t.Errorf("%q: %s", steps, under(p.d))
			}
		}
	}
	for side := range 2 {
		for _, other := range []int{2, 100, 199, 200} {
			p := behind(t, config(), busy)
			p.crowd(t, side, full)
			p.crowd(t, 1-side, other)
			// What side 1 says has room only where not all is taken; what is said to side 1 has room for sure, as its turn was first.
			taken := p.d.Net().Len(0)
			room, asked := full-taken, p.d.Net().Len(1)
			p.round(1)
			p.like(t)
			p.handed(t, "ABCDEFGH", "abcdefgh")
			if came := p.d.End(0).Meter()[3]; came != 1+taken+min(room, asked) {
				t.Errorf("%d to 0, %d to 1: %d came", taken, asked, came)
			}
			if p.d.Net().Len(0) != 0 || p.d.Net().Len(1) != taken || strings.Count(under(p.d), "ack") != taken {
				t.Errorf("%d to 0, %d to 1: %s", taken, asked, under(p.d))
			}
		}
	}
}

// A round is Do's Tick, then Delivers of the first, then Reads.
func TestRoundAsDo(t *testing.T) {
	for i := range 60 {
		c := chance(i)
		p, q := newPair(t, config()), newPair(t, config())
		for range 40 {
			s := c.any(p)
			p.do(t, s)
			q.do(t, s)
			if c.below(3) > 0 {
				continue
			}
			n := c.below(5)
			p.d.Round(n)
			p.m.round(n)
			q.do(t, duel.Step{Kind: duel.Tick, N: n})
			for _, side := range []int{1, 0} {
				for range q.d.Net().Len(side) {
					q.do(t, duel.Step{Kind: duel.Deliver, Side: side})
				}
			}
			q.do(t, duel.Step{Kind: duel.Read, Side: 1, N: api.MaxBytes})
			q.do(t, duel.Step{Kind: duel.Read, Side: 0, N: api.MaxBytes})
			if !tell(p.d).same(tell(q.d)) {
				t.Fatalf("%d: %s, want %s", i, under(p.d), under(q.d))
			}
		}
		p.like(t)
	}
}
