package duel_test

import (
	"bytes"
	"math"
	"slices"
	"strconv"
	"strings"
	"testing"

	"haulier/api"
	"haulier/duel"
	"haulier/event"
)

// onWay are steps that do something to what is under way to that side, at that place.
func onWay(side, at int) []duel.Step {
	return []duel.Step{
		{Kind: duel.Deliver, Side: side, N: at}, {Kind: duel.Drop, Side: side, N: at},
		{Kind: duel.Again, Side: side, N: at}, {Kind: duel.Spoil, Side: side, N: at, Bit: 9, Mask: 5},
	}
}

// A place below 0, or past the last one, has none, nor has any where nothing is under way; each of the others has one.
func TestPlaces(t *testing.T) {
	for _, steps := range []string{"", "up 0 0", "up 0 0; again 1 0", busy, busy + "; again 0 0; again 0 1; drop 1 0"} {
		count := behind(t, config(), steps).d.Net().Len
		for side := range 2 {
			for _, at := range append(edges(), count(side)-1, count(side), count(side)+1) {
				there := at >= 0 && at < count(side)
				for _, s := range onWay(side, at) {
					if p := behind(t, config(), steps); there {
						p.something(t, s)
					} else {
						p.nothing(t, s)
					}
				}
			}
		}
	}
}

// What was spoilt is gone once it is delivered, whatever was turned, and the end has heard nothing.
func TestDeliverSpoilt(t *testing.T) {
	for _, steps := range []string{"up 0 0; up 1 0", busy, busy + "; again 1 0; again 0 1"} {
		for side := range 2 {
			for at := range behind(t, config(), steps).d.Net().Len(side) {
				for _, bit := range []int{-31, -3, 0, 7, 13, 24, 55} {
					for _, mask := range []uint32{1, 0x8001, 1 << 31, math.MaxUint32} {
						p := behind(t, config(), steps)
						if !p.do(t, duel.Step{Kind: duel.Spoil, Side: side, N: at, Bit: bit, Mask: mask}) {
							continue
						}
						before := tell(p.d)
						p.something(t, duel.Step{Kind: duel.Deliver, Side: side, N: at})
						after := tell(p.d)
						before.under[side] = slices.Delete(before.under[side], at, at+1)
						if !before.same(after) {
							t.Errorf("behind %q, Spoil at %d by %x, Deliver(%d, %d): %v", steps, bit, mask, side, at, after)
						}
					}
				}
			}
		}
	}
	// What it is the same as once more comes as if nothing had been, if that was doubled ahead of it.
	row(t, config(), busy+"; again 1 0; spoil 1 0 9 5; deliver 1 0; deliver 1 1 => yes [data 0.1 0 ABCD, data 0.2 4 EFGH, ack 0.3 1 4 8] [data 0.2 4 efgh]")
	row(t, config(), busy+"; spoil 1 0 9 5; again 1 0; deliver 1 0; deliver 1 1 => yes [data 0.1 0 ABCD, data 0.2 4 EFGH] [data 0.2 4 efgh]")
}

// What is no packet at all, or one that no end of this Duel has said, may have been put under way as well.
func TestDeliverAny(t *testing.T) {
	p := behind(t, config(), busy)
	for _, x := range []api.Packet{
		{Kind: api.Join, Path: 2}, {Kind: api.Join, Path: 1}, {Kind: api.Joined}, {Kind: api.Data, Path: 1}, {Kind: api.Ack, Of: api.MaxNumber}, {Kind: api.Ack, Of: 1, Seen: 4097},
	} {
		if e := p.d.Net().Put(1, x); e != api.OK {
			t.Fatal(x, e)
		}
		before := tell(p.d)
		last := duel.Step{Kind: duel.Deliver, Side: 1, N: p.d.Net().Len(1) - 1}
		if !p.d.Do(last) || p.d.Net().Len(1) != last.N {
			t.Errorf("%v is not gone", x)
		}
		after := tell(p.d)
		if !event.All(before.events[1], after.events[1]) || !slices.Equal(before.state[1], after.state[1]) || after.meter[1][4] != before.meter[1][4]+1 {
			t.Errorf("%v: %v", x, after)
		}
	}
}

// What an end refuses is gone as well: it has counted it, and nothing else.
func TestDeliverRefused(t *testing.T) {
	for _, r := range []struct {
		steps, step string
		side        int
	}{
		{"up 0 0", "deliver 1 0", 1},                                                           // the path is down
		{joined + "; up 0 1; write 0 abcdefgh; down 1 0", "deliver 1 1", 1},                    // Data
		{busy + "; down 0 0", "deliver 0 0", 0},                                                // at the other side
		{"up 0 0; up 1 0; deliver 1 0; write 1 ab", "deliver 0 1", 0},                          // Data of a path that is not joined
		{busy + "; deliver 1 0; deliver 1 0; deliver 0 0; down 0 0; up 0 1", "deliver 0 1", 0}, // an Ack
	} {
		p := behind(t, config(), r.steps)
		before := tell(p.d)
		s := parsed(r.step)
		p.something(t, s)
		after := tell(p.d)
		before.under[r.side] = slices.Delete(before.under[r.side], s.N, s.N+1)
		before.meter[r.side][4]++
		if !before.same(after) {
			t.Errorf("behind %q, %q: %v, want %v", r.steps, r.step, after, before)
		}
	}
}

// Deliver is of the packet at that place, in whatever order; what is there twice comes twice.
func TestDeliverPlace(t *testing.T) {
	row(t, config(), busy+"; deliver 1 1 => yes [data 0.1 0 ABCD, data 0.2 4 EFGH, ack 0.3 2 0 8] [data 0.1 0 abcd]",
		"read 1 9 => no [data 0.1 0 ABCD, data 0.2 4 EFGH, ack 0.3 2 0 8] [data 0.1 0 abcd]",
		"again 1 0; deliver 1 0 => yes [data 0.1 0 ABCD, data 0.2 4 EFGH, ack 0.3 2 0 8, ack 0.4 1 8 8] [data 0.1 0 abcd]",
		"read 1 9; deliver 1 0 => yes [data 0.1 0 ABCD, data 0.2 4 EFGH, ack 0.3 2 0 8, ack 0.4 1 8 8, ack 0.5 1 8 16] []",
		"read 1 9 => no [data 0.1 0 ABCD, data 0.2 4 EFGH, ack 0.3 2 0 8, ack 0.4 1 8 8, ack 0.5 1 8 16] []")
}

// Drop makes one go, and nobody has heard of it.
func TestDrop(t *testing.T) {
	for side := range 2 {
		for at := range 2 {
			p := behind(t, config(), busy)
			before := tell(p.d)
			p.something(t, duel.Step{Kind: duel.Drop, Side: side, N: at})
			before.under[side] = slices.Delete(before.under[side], at, at+1)
			if !before.same(tell(p.d)) {
				t.Errorf("Drop(%d, %d): %v", side, at, tell(p.d))
			}
		}
	}
}

// Spoil is net's: with its Bit and its Mask, once.
func TestSpoil(t *testing.T) {
	for _, r := range []struct {
		bit  int
		mask uint32
		want bool
	}{{0, 0, false}, {3, 0, false}, {0, 1, true}, {-1, 1, false}, {-1, 2, true}, {55, 1, true}, {56, 1, false}, {55, 2, false}, {24, math.MaxUint32, true}, {math.MinInt, math.MaxUint32, false}, {math.MaxInt, math.MaxUint32, false}} {
		p := behind(t, config(), "up 0 0")
		s := duel.Step{Kind: duel.Spoil, Side: 1, Bit: r.bit, Mask: r.mask}
		if !r.want {
			p.nothing(t, s)
			continue
		}
		p.something(t, s)
		p.nothing(t, s)
		p.nothing(t, duel.Step{Kind: duel.Spoil, Side: 1, Bit: 5, Mask: 1})
	}
}

// crowd makes so many be under way to that side.
func (p pair) crowd(t *testing.T, side, count int) {
	t.Helper()
	for p.d.Net().Len(side) < count {
		if !p.do(t, duel.Step{Kind: duel.Again, Side: side}) {
			t.Fatal("no more")
		}
	}
}

// To each side 200 are under way: what is said then is gone, for good, and so is what was said; the ends know nothing of it.
func TestNoRoom(t *testing.T) {
	for side := range 2 {
		other := strconv.Itoa(1 - side)
		for left := range 4 {
			p := behind(t, config(), joined+"; write "+other+" a; again "+strconv.Itoa(side)+" 0; deliver "+strconv.Itoa(side)+" 0; deliver "+other+" 0")
			p.crowd(t, side, full-left)
			said := p.d.End(1 - side).Meter()[1]
			p.something(t, duel.Step{Kind: duel.Write, Side: 1 - side, Data: []byte("bcdefghi")})
			// Two pieces are said, of which there is room for some.
			if got := p.d.End(1 - side).Meter()[1] - said; got != 2 || p.d.Net().Len(side) != min(full-left+2, full) {
				t.Errorf("%d were said, %d are under way", got, p.d.Net().Len(side))
			}
			if got := strings.Count(under(p.d), "bcde"); got != min(left, 1) {
				t.Errorf("with room for %d: %s", left, under(p.d))
			}
			if got := strings.Count(under(p.d), "fgh"); got != max(min(left, 2)-1, 0) {
				t.Errorf("with room for %d: %s", left, under(p.d))
			}
			count := p.d.Net().Len(side)
			// Where one goes there is room again, but what is gone does not come back.
			p.something(t, duel.Step{Kind: duel.Drop, Side: side})
			if p.d.Net().Len(side) != count-1 || p.d.Net().Len(1-side) != 0 {
				t.Errorf("%d are under way, %d to the other", p.d.Net().Len(side), p.d.Net().Len(1-side))
			}
		}
	}
}

// At 200 Again does nothing, and Deliver makes room for what is said to it.
func TestFull(t *testing.T) {
	for side := range 2 {
		p := behind(t, config(), busy)
		for to := range 2 {
			p.crowd(t, to, full)
		}
		for _, at := range []int{-1, 0, 1, full - 1, full} {
			p.nothing(t, duel.Step{Kind: duel.Again, Side: side, N: at})
		}
		p.nothing(t, duel.Step{Kind: duel.Deliver, Side: side, N: full})
		// The Ack of it has no room.
		p.something(t, duel.Step{Kind: duel.Deliver, Side: side, N: full - 1})
		if p.d.Net().Len(side) != full-1 || p.d.Net().Len(1-side) != full || strings.Contains(under(p.d), "ack") {
			t.Error(under(p.d))
		}
		p.something(t, duel.Step{Kind: duel.Deliver, Side: 1 - side, N: full - 1})
		if p.d.Net().Len(side) != full || p.d.Net().Len(1-side) != full-1 || strings.Count(under(p.d), "ack") != 1 {
			t.Error(under(p.d))
		}
	}
}

// Delivered is what Do's Read and Round's have handed out: not what was there and was not read, nor what was read of the end itself.
func TestDelivered(t *testing.T) {
	p := behind(t, config(), busy+"; deliver 1 0; deliver 1 0; deliver 0 1; deliver 0 0")
	told := func(zero, one string) {
		t.Helper()
		for _, side := range edges() {
			want := ""
			switch side {
			case 0:
				want = zero
			case 1:
				want = one
			}
			if got := p.d.Delivered(side); string(got) != want {
				t.Errorf("Delivered(%d) = %q, want %q", side, got, want)
			}
		}
	}
	told("", "")
	p.steps(t, "read 1 3")
	told("", "abc")
	p.steps(t, "read 0 1")
	told("A", "abc")
	if b := p.d.End(1).Read(2); string(b) != "de" {
		t.Errorf("%q", b)
	}
	p.m.ends[1].Read(2)
	told("A", "abc")
	p.steps(t, "read 1 1")
	told("A", "abcf")
	p.steps(t, "round 0")
	told("ABCDEFGH", "abcfgh")
	p.steps(t, "write 0 ijkl; round 1; round 1; round 1")
	told("ABCDEFGH", "abcfghijkl")
	if !bytes.HasPrefix(p.d.End(0).Written(), []byte("abcdefgh")) {
		t.Errorf("%q", p.d.End(0).Written())
	}
}
