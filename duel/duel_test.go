package duel_test

import (
	"math"
	"slices"
	"strconv"
	"strings"
	"testing"

	"haulier/api"
	"haulier/duel"
	"haulier/end"
)

// fields are a configuration's numbers, and the greatest that each may be.
func fields(c *api.Config) ([]*int, []int) {
	return []*int{&c.Paths, &c.Buffer, &c.Window, &c.Chunk, &c.Most, &c.First, &c.Sched},
		[]int{api.MaxPaths, api.MaxBuffer, api.MaxWindow, api.MaxChunk, api.MaxMost, api.MaxWait, api.Redundant}
}

// New of each configuration that end.Check refuses is its error, and no Duel.
func TestNewRefused(t *testing.T) {
	for field := range 7 {
		_, most := fields(&api.Config{})
		for _, n := range append(edges(), most[field]-1, most[field], most[field]+1, 64, 63, 65) {
			c := config()
			all, _ := fields(&c)
			*all[field] = n
			want := end.Check(c)
			if fits := n >= 1 && n <= most[field]; fits != (want == api.OK) {
				t.Fatalf("Check(%v) = %d", c, want)
			}
			d, e := duel.New(c)
			if e != want || (d == nil) != (want != api.OK) {
				t.Errorf("New(%v) = %v, %d, want %d", c, d, e, want)
			}
			if want == api.OK {
				newPair(t, c).like(t)
			}
		}
	}
	if d, e := duel.New(api.Config{}); d != nil || e != api.ErrArg {
		t.Errorf("New of zero = %v, %d", d, e)
	}
}

// A new one: two ends to which nothing has happened, of the sides 0 and 1, and nothing under way.
func TestNew(t *testing.T) {
	for kind := api.Quickest; kind <= api.Redundant; kind++ {
		c := with(func(c *api.Config) { c.Sched, c.Paths = kind, kind })
		p := newPair(t, c)
		p.like(t)
		if p.d.Done() {
			t.Error("Done of a new one")
		}
		for _, side := range edges() {
			if got := p.d.Delivered(side); len(got) != 0 {
				t.Errorf("Delivered(%d) = %q", side, got)
			}
			if p.d.Net().Len(side) != 0 {
				t.Errorf("%d are under way to %d", p.d.Net().Len(side), side)
			}
			if got := p.d.End(side); (got == nil) != (side != 0 && side != 1) {
				t.Errorf("End(%d) = %v", side, got)
			}
		}
		for side := range 2 {
			e := p.d.End(side)
			fresh, _ := end.New(c, side)
			if len(e.Events()) != 0 || e.Now() != 0 || len(e.Take()) != 0 || !slices.Equal(e.State(), fresh.State()) {
				t.Errorf("End(%d): %v", side, e.State())
			}
		}
		p.like(t)
	}
}

// Side 0 asks, and side 1 does not; both have the configuration.
func TestNewSides(t *testing.T) {
	row(t, config(), "up 0 1 => yes [] [join 1.0]")
	row(t, config(), "up 1 1 => yes [] []", "up 1 2 => no [] []", "up 0 2 => no [] []")
	row(t, with(func(c *api.Config) { c.Chunk, c.Window = 3, 5 }), joined+"; write 1 abcdefg => yes [data 0.1 0 abc, data 0.2 3 de] []")
	row(t, with(func(c *api.Config) { c.Chunk, c.Window = 2, 3 }), joined+"; write 0 abcdefg => yes [] [data 0.1 0 ab, data 0.2 2 c]")
}

// What End and Net tell is the Duel's own, at each time: what is done to them is done to it.
func TestOwn(t *testing.T) {
	p := behind(t, config(), busy)
	first, net := p.d.End(0), p.d.Net()
	p.steps(t, "deliver 1 0; tick 3; read 1 2")
	if p.d.End(0) != first || p.d.Net() != net || first == p.d.End(1) || first.Now() != 3 {
		t.Error("another one")
	}
	if b, ok := net.Take(1, 0); !ok || word(b) != "data 0.2 4 efgh" {
		t.Errorf("%s, %t", word(b), ok)
	}
	if n := net.Len(1); p.d.Net().Len(1) != n || p.d.Do(parsed("drop 1 "+strconv.Itoa(n))) {
		t.Errorf("%d are under way", n)
	}
	// What is said to a call of its own goes under way behind the next step that does something.
	q := behind(t, config(), joined)
	q.d.End(0).Write([]byte("ab"))
	q.m.ends[0].Write([]byte("ab"))
	q.row(t, "up 0 0 => no [] []", "read 1 9 => no [] []", "tick 0 => no [] []", "write 1 x => yes [data 0.1 0 x] [data 0.1 0 ab]")
}

// A talk word by word: paths are asked for, bytes go both ways, one is lost and sent again, all is closed.
func TestTalk(t *testing.T) {
	row(t, config(),
		"write 0 abcdef => yes [] []",
		"up 0 0 => yes [] [join 0.0]",
		"deliver 1 0 => yes [] []", // the path is down there
		"up 1 0 => yes [] []",
		"tick 2 => yes [] []",
		"tick 1 => yes [] [join 0.1]",
		"deliver 1 0 => yes [joined 0.0 1] []",
		"write 1 xy => yes [joined 0.0 1, data 0.1 0 xy] []",
		"deliver 0 1 => yes [joined 0.0 1] []", // the path is not joined there
		"deliver 0 0 => yes [] [data 0.2 0 abcd, data 0.3 4 ef]",
		"drop 1 0 => yes [] [data 0.3 4 ef]",
		"deliver 1 0 => yes [ack 0.2 3 0 8] []",
		"read 1 9 => no [ack 0.2 3 0 8] []",
		"close 1 => yes [ack 0.2 3 0 8, data 0.3 2 .] []",
		"deliver 0 1 => yes [ack 0.2 3 0 8] [ack 0.4 3 0 8]",
		"deliver 0 0 => yes [] [ack 0.4 3 0 8]",
		"deliver 1 0 => yes [] []",
		"tick 3 => yes [data 0.4 0 xy] [data 0.5 0 abcd]",
		"deliver 0 0 => yes [] [data 0.5 0 abcd, ack 0.6 4 3 8]",
		"read 0 1 => yes [] [data 0.5 0 abcd, ack 0.6 4 3 8]",
		"deliver 1 1 => yes [] [data 0.5 0 abcd]",
		"close 0 => yes [] [data 0.5 0 abcd]", // no more may be out there
		"deliver 1 0 => yes [ack 0.5 5 6 8] []",
		"deliver 0 0 => yes [] [data 0.7 6 .]",
		"again 1 0 => yes [] [data 0.7 6 ., data 0.7 6 .]",
		"spoil 1 0 9 5 => yes [] [?, data 0.7 6 .]",
		"deliver 1 0 => yes [] [data 0.7 6 .]",
		"deliver 1 0 => yes [ack 0.6 7 7 8] []",
		"deliver 0 0 => yes [] []",
		"read 1 4; read 1 4; read 0 9 => yes [] []",
	)
}

// Each kind, of each side, does to its end, or to what is under way to it, what the end's or net's call does, and nothing to the other.
func TestEachKind(t *testing.T) {
	for _, r := range []struct {
		steps, step string
		want        string
	}{
		{busy, "write 0 i", "yes [data 0.1 0 ABCD, data 0.2 4 EFGH] [data 0.1 0 abcd, data 0.2 4 efgh]"},
		{joined, "write 1 i", "yes [data 0.1 0 i] []"},
		{joined, "write 0 i", "yes [] [data 0.1 0 i]"},
		{joined + "; write 0 ab; deliver 1 0", "read 1 1", "yes [ack 0.1 1 2 8] []"},
		{joined + "; write 0 ab; deliver 1 0", "read 0 1", "no [ack 0.1 1 2 8] []"},
		{joined, "close 0", "yes [] [data 0.1 0 .]"},
		{joined, "close 1", "yes [data 0.1 0 .] []"},
		{busy, "tick 2", "yes [data 0.1 0 ABCD, data 0.2 4 EFGH] [data 0.1 0 abcd, data 0.2 4 efgh]"},
		{busy, "tick 3", "yes [data 0.1 0 ABCD, data 0.2 4 EFGH, data 0.3 0 ABCD] [data 0.1 0 abcd, data 0.2 4 efgh, data 0.3 0 abcd]"},
		{joined, "up 0 1", "yes [] [join 1.0]"},
		{joined, "up 1 1", "yes [] []"},
		{joined, "down 0 0", "yes [] []"},
		{joined, "down 1 0", "yes [] []"},
		{busy, "deliver 0 0", "yes [data 0.2 4 EFGH] [data 0.1 0 abcd, data 0.2 4 efgh, ack 0.3 1 4 8]"},
		{busy, "deliver 1 1", "yes [data 0.1 0 ABCD, data 0.2 4 EFGH, ack 0.3 2 0 8] [data 0.1 0 abcd]"},
		{busy, "drop 0 1", "yes [data 0.1 0 ABCD] [data 0.1 0 abcd, data 0.2 4 efgh]"},
		{busy, "drop 1 0", "yes [data 0.1 0 ABCD, data 0.2 4 EFGH] [data 0.2 4 efgh]"},
		{busy, "again 0 0", "yes [data 0.1 0 ABCD, data 0.2 4 EFGH, data 0.1 0 ABCD] [data 0.1 0 abcd, data 0.2 4 efgh]"},
		{busy, "again 1 1", "yes [data 0.1 0 ABCD, data 0.2 4 EFGH] [data 0.1 0 abcd, data 0.2 4 efgh, data 0.2 4 efgh]"},
		{busy, "spoil 0 1 9 5", "yes [data 0.1 0 ABCD, ?] [data 0.1 0 abcd, data 0.2 4 efgh]"},
		{busy, "spoil 1 0 9 5", "yes [data 0.1 0 ABCD, data 0.2 4 EFGH] [?, data 0.2 4 efgh]"},
	} {
		behind(t, config(), r.steps).row(t, r.step+" => "+r.want)
	}
}

// Of each kind that there is not nothing is done, of whatever side, at whatever place.
func TestNoSuchKind(t *testing.T) {
	for _, steps := range []string{"", busy} {
		p := behind(t, config(), steps)
		for _, kind := range edges() {
			if kind >= duel.Write && kind <= duel.Spoil {
				continue
			}
			for _, side := range []int{-1, 0, 1, 2} {
				for _, n := range []int{0, 1} {
					p.nothing(t, duel.Step{Kind: kind, Side: side, N: n, Bit: 3, Mask: 5, Data: []byte("ab")})
				}
			}
		}
		p.nothing(t, duel.Step{})
	}
}

// able are steps that do something behind busy, one of each kind but Tick, at either side.
func able(side int) []duel.Step {
	return []duel.Step{
		{Kind: duel.Write, Side: side, Data: []byte("ij")}, {Kind: duel.Read, Side: side, N: 3}, {Kind: duel.Close, Side: side},
		{Kind: duel.Up, Side: side, N: 1}, {Kind: duel.Down, Side: side},
		{Kind: duel.Deliver, Side: side}, {Kind: duel.Drop, Side: side}, {Kind: duel.Again, Side: side}, {Kind: duel.Spoil, Side: side, Bit: 9, Mask: 5},
	}
}

// A side that is neither 0 nor 1: nothing is done, where of these both something is; but of Tick the side plays no part.
func TestNoSuchSide(t *testing.T) {
	const ready = busy + "; again 0 0; again 1 0; deliver 0 0; deliver 1 0"
	for side := range 2 {
		for _, s := range able(side) {
			behind(t, config(), ready).something(t, s)
		}
	}
	p := behind(t, config(), ready)
	for _, side := range edges() {
		if side == 0 || side == 1 {
			continue
		}
		for _, s := range able(side) {
			p.nothing(t, s)
		}
	}
	for i, side := range edges() {
		p.something(t, duel.Step{Kind: duel.Tick, Side: side, N: 2})
		if now := 2 * (i + 1); p.d.End(0).Now() != now || p.d.End(1).Now() != now {
			t.Errorf("Tick of side %d: %d, %d, want %d", side, p.d.End(0).Now(), p.d.End(1).Now(), now)
		}
	}
}

// What a step's kind has not plays no part.
func TestNoPart(t *testing.T) {
	for side := range 2 {
		for _, s := range append(able(side), duel.Step{Kind: duel.Tick, N: 4}) {
			other := s
			if s.Kind != duel.Spoil {
				other.Bit, other.Mask = 77, 9
			}
			if s.Kind != duel.Write {
				other.Data = []byte("no part")
			}
			if s.Kind == duel.Write || s.Kind == duel.Close {
				other.N = math.MinInt
			}
			p, q := behind(t, config(), busy+"; again 0 0; deliver 0 0"), behind(t, config(), busy+"; again 0 0; deliver 0 0")
			if p.do(t, s) != q.do(t, other) || !tell(p.d).same(tell(q.d)) {
				t.Errorf("%v is not as %v", other, s)
			}
		}
	}
}

// N is from 1 to 1000.
func TestTick(t *testing.T) {
	for _, n := range append(edges(), 998, 1002) {
		for _, steps := range []string{"", busy, busy + "; tick 7"} {
			p := behind(t, config(), steps)
			now := p.d.End(0).Now()
			s := duel.Step{Kind: duel.Tick, N: n}
			if n < 1 || n > 1000 {
				p.nothing(t, s)
				continue
			}
			p.something(t, s)
			if p.d.End(0).Now() != now+n || p.d.End(1).Now() != now+n {
				t.Errorf("Tick %d: %d, %d", n, p.d.End(0).Now(), p.d.End(1).Now())
			}
		}
	}
}

// late is a pair at that tick.
func late(t *testing.T, now int) pair {
	t.Helper()
	p := newPair(t, config())
	for left := now; left > 0; left -= 1000 {
		p.do(t, duel.Step{Kind: duel.Tick, N: min(left, 1000)})
	}
	if p.d.End(0).Now() != now || p.d.End(1).Now() != now {
		t.Fatalf("%d, %d, want %d", p.d.End(0).Now(), p.d.End(1).Now(), now)
	}
	return p
}

// Up to MaxTick, and not above it.
func TestMaxTick(t *testing.T) {
	for _, ahead := range []int{0, 1, 2, 999, 1000, 1001} {
		for _, n := range []int{1, 2, 998, 999, 1000} {
			p := late(t, api.MaxTick-ahead)
			if s := (duel.Step{Kind: duel.Tick, N: n}); n <= ahead {
				p.something(t, s)
			} else {
				p.nothing(t, s)
			}
		}
	}
	p := late(t, api.MaxTick)
	for _, n := range edges() {
		p.nothing(t, duel.Step{Kind: duel.Tick, N: n})
	}
	// All else goes on.
	p.row(t, joined+"; write 0 ab => yes [] [data 0.1 0 ab]", "deliver 1 0 => yes [ack 0.1 1 2 8] []", "read 1 9 => yes [ack 0.1 1 2 8] []")
}

// Both go on by N or neither, where one of them was set on by itself as well.
func TestTickApart(t *testing.T) {
	for side := range 2 {
		p := newPair(t, config())
		for _, e := range []*end.End{p.d.End(side), p.m.ends[side]} {
			e.Tick(api.MaxTick - 5)
		}
		p.something(t, duel.Step{Kind: duel.Tick, N: 3})
		if p.d.End(side).Now() != api.MaxTick-2 || p.d.End(1-side).Now() != 3 {
			t.Error(p.d.End(side).Now(), p.d.End(1-side).Now())
		}
		p.nothing(t, duel.Step{Kind: duel.Tick, N: 3})
		p.something(t, duel.Step{Kind: duel.Tick, N: 2})
		p.nothing(t, duel.Step{Kind: duel.Tick, N: 1})
		if p.d.End(1-side).Now() != 5 {
			t.Error(p.d.End(1 - side).Now())
		}
	}
}

// Write is true where some bytes were taken: a part, or all, but not none.
func TestWrite(t *testing.T) {
	for side := range 2 {
		p := behind(t, config(), joined)
		p.nothing(t, duel.Step{Kind: duel.Write, Side: side})
		p.nothing(t, duel.Step{Kind: duel.Write, Side: side, Data: []byte{}})
		for _, r := range []struct{ data, all string }{{"a", "a"}, {"bcdefghijklmno", "abcdefghijklmno"}, {"pqrstuvwxyz", "abcdefghijklmnopqrst"}} {
			p.something(t, duel.Step{Kind: duel.Write, Side: side, Data: []byte(r.data)})
			if got := p.d.End(side).Written(); string(got) != r.all || len(p.d.End(1-side).Written()) != 0 {
				t.Errorf("%q", got)
			}
		}
		p.nothing(t, duel.Step{Kind: duel.Write, Side: side, Data: []byte("u")})
		p.something(t, duel.Step{Kind: duel.Deliver, Side: 1 - side})
		p.something(t, duel.Step{Kind: duel.Deliver, Side: side})
		// One byte was acknowledged.
		p.something(t, duel.Step{Kind: duel.Write, Side: side, Data: []byte("uv")})
		p.nothing(t, duel.Step{Kind: duel.Write, Side: side, Data: []byte("v")})
	}
	p := behind(t, config(), "close 0; close 1")
	for side := range 2 {
		p.nothing(t, duel.Step{Kind: duel.Write, Side: side, Data: []byte("a")})
	}
}

// Read is true where some bytes were handed out: of none, and of below 1, it is false, and of more than there is all are.
func TestRead(t *testing.T) {
	for side := range 2 {
		s := strconv.Itoa(side)
		p := behind(t, config(), strings.Replace(busy, "; write "+s+" abcdefgh", "", 1)+"; deliver "+s+" 0; deliver "+s+" 0")
		want := string(p.d.End(1 - side).Written())
		for _, n := range edges() {
			if n < 1 {
				p.nothing(t, duel.Step{Kind: duel.Read, Side: side, N: n})
			}
		}
		p.nothing(t, duel.Step{Kind: duel.Read, Side: 1 - side, N: 9})
		for _, r := range []struct{ n, all int }{{1, 1}, {2, 3}, {4, 7}, {math.MaxInt, 8}} {
			p.something(t, duel.Step{Kind: duel.Read, Side: side, N: r.n})
			if got := string(p.d.Delivered(side)); got != want[:r.all] || len(p.d.Delivered(1-side)) != 0 {
				t.Errorf("Delivered(%d) = %q, want %q", side, got, want[:r.all])
			}
		}
		for _, n := range edges() {
			p.nothing(t, duel.Step{Kind: duel.Read, Side: side, N: n})
		}
	}
}

func TestClose(t *testing.T) {
	for _, steps := range []string{"", joined, busy} {
		p := behind(t, config(), steps)
		for side := range 2 {
			p.something(t, duel.Step{Kind: duel.Close, Side: side})
			p.nothing(t, duel.Step{Kind: duel.Close, Side: side})
		}
		p.nothing(t, duel.Step{Kind: duel.Close})
	}
}

// Up and Down: no such path; twice; each at one side alone.
func TestUpDown(t *testing.T) {
	p := newPair(t, config())
	for side := range 2 {
		for _, path := range edges() {
			up, down := duel.Step{Kind: duel.Up, Side: side, N: path}, duel.Step{Kind: duel.Down, Side: side, N: path}
			p.nothing(t, down)
			if path < 0 || path > 1 {
				p.nothing(t, up)
				continue
			}
			p.something(t, up)
			p.nothing(t, up)
			p.something(t, down)
			p.nothing(t, down)
			p.something(t, up)
		}
	}
	// What was out goes again, over the other path.
	row(t, config(), joined+"; up 0 1; up 1 1; deliver 1 0; deliver 0 0; write 1 ab => yes [data 0.1 0 ab] []",
		"down 1 0 => yes [data 0.1 0 ab, data 1.1 0 ab] []", "down 1 1 => yes [data 0.1 0 ab, data 1.1 0 ab] []", "up 1 1 => yes [data 0.1 0 ab, data 1.1 0 ab, data 1.2 0 ab] []")
}

// Done: both ends are.
func TestDone(t *testing.T) {
	for first := range 2 {
		a, b := strconv.Itoa(first), strconv.Itoa(1-first)
		p := newPair(t, config())
		for _, r := range []struct {
			steps string
			want  [3]bool // of both, of the first, of the other one
		}{
			{joined + "; write " + a + " xy; deliver " + b + " 0; deliver " + a + " 0; close " + a, [3]bool{}},
			{"close " + b, [3]bool{}},
			{"deliver " + b + " 0; deliver " + a + " 1; deliver " + a + " 0", [3]bool{false, true, false}},
			{"deliver " + b + " 0", [3]bool{false, true, false}},
			{"read " + b + " 1", [3]bool{false, true, false}},
			{"read " + b + " 1", [3]bool{true, true, true}},
			{"tick 9; down 0 0", [3]bool{true, true, true}},
		} {
			p.steps(t, r.steps)
			if got := [3]bool{p.d.Done(), p.d.End(first).Done(), p.d.End(1 - first).Done()}; got != r.want {
				t.Errorf("first %d, behind %q: %v, want %v", first, r.steps, got, r.want)
			}
		}
	}
}
