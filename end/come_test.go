package end_test

import (
	"bytes"
	"slices"
	"testing"

	"haulier/api"
)

// refuses sees to it that p's End refuses x, which changes nothing but the count of those that were refused.
func (p pair) refuses(t *testing.T, x api.Packet) {
	t.Helper()
	before, meter := p.e.State(), p.e.Meter()
	if p.come(t, x) || !slices.Equal(p.e.State(), before) || len(p.e.Take()) != 0 {
		t.Errorf("%v: %v, and then %v", x, before, p.e.State())
	}
	meter[4]++
	if !slices.Equal(p.e.Meter(), meter) {
		t.Errorf("%v: %v, want %v", x, p.e.Meter(), meter)
	}
	p.like(t)
}

// P19.4: packets that may not be are refused, each of which is right but for one number.
func TestComeCheck(t *testing.T) {
	steps := "up 0; up 1; up 2; join 0.0; write abcdef"
	c := with(func(c *api.Config) { c.Paths = 3 })
	var bad []api.Packet
	for _, n := range edges() {
		if n < api.Join || n > api.Ack {
			bad = append(bad, api.Packet{Kind: n})
		}
		if n < 0 || n > 2 {
			bad = append(bad, api.Packet{Kind: api.Join, Path: n}, api.Packet{Kind: api.Data, Path: n}, api.Packet{Kind: api.Ack, Path: n})
		}
		if n < 0 || n > api.MaxNumber {
			bad = append(bad, api.Packet{Kind: api.Join, Number: n}, api.Packet{Kind: api.Data, Number: n}, api.Packet{Kind: api.Ack, Number: n}, api.Packet{Kind: api.Ack, Of: n})
		}
		if n < 0 || n > api.MaxBytes {
			bad = append(bad, api.Packet{Kind: api.Data, From: n})
		}
		if n < 0 || n > api.MaxBytes+1 {
			bad = append(bad, api.Packet{Kind: api.Ack, Seen: n})
		}
		if n < 0 || n > api.MaxBytes+api.MaxWindow {
			bad = append(bad, api.Packet{Kind: api.Ack, Limit: n})
		}
		if n != 0 {
			bad = append(bad, api.Packet{Kind: api.Join, Of: n}, api.Packet{Kind: api.Join, From: n}, api.Packet{Kind: api.Join, Seen: n}, api.Packet{Kind: api.Join, Limit: n},
				api.Packet{Kind: api.Data, Of: n}, api.Packet{Kind: api.Data, Seen: n}, api.Packet{Kind: api.Data, Limit: n}, api.Packet{Kind: api.Ack, From: n})
		}
	}
	bad = append(bad, api.Packet{}, api.Packet{Kind: api.Join, Data: []byte("a")}, api.Packet{Kind: api.Ack, Data: []byte("a")}, api.Packet{Kind: api.Join, Fin: true}, api.Packet{Kind: api.Ack, Fin: true},
		api.Packet{Kind: api.Data, Data: make([]byte, 65)}, api.Packet{Kind: api.Data, From: 4096, Data: []byte("a")}, api.Packet{Kind: api.Data, From: 4033, Data: make([]byte, 64), Fin: true})
	p := made(t, c, 1, steps)
	for _, x := range bad {
		p.refuses(t, x)
	}
	p.row(t, "ack 0.65535 2 6 4496 => yes", "data 0.65535 4096 . => yes, ack 0.3 65535 0 100", "join 0.65535 => yes, joined 0.4 65535")
}

// each is a packet of each kind on that path, with numbers that may be.
func each(path int) []api.Packet {
	return []api.Packet{
		{Kind: api.Join, Path: path}, {Kind: api.Joined, Path: path}, {Kind: api.Data, Path: path, Data: []byte("a")}, {Kind: api.Data, Path: path, Fin: true}, {Kind: api.Ack, Path: path, Limit: 200},
	}
}

// P19.4: a path that is none of the configuration's, and one that is down, take nothing.
func TestComePath(t *testing.T) {
	for side, steps := range []string{asked + "; write abc", answered + "; write abc"} {
		for _, paths := range []int{2, 3} {
			p := made(t, with(func(c *api.Config) { c.Paths = paths }), side, steps)
			for _, x := range each(2) {
				p.refuses(t, x)
			}
			p.steps(t, "down 1")
			for _, x := range each(1) {
				p.refuses(t, x)
			}
			p.steps(t, "up 1; down 0")
			for _, x := range each(0) {
				p.refuses(t, x)
			}
			for _, x := range each(1)[2:] {
				if !p.come(t, x) {
					t.Error(x)
				}
			}
		}
		p := made(t, with(func(c *api.Config) { c.Paths = 1 }), side, "up 0")
		for _, x := range each(1) {
			p.refuses(t, x)
		}
	}
}

// P19.4: a Join is for side 1, a Joined for side 0, and its Of for one that was said.
func TestComeSide(t *testing.T) {
	row(t, config(), 0, "up 0 => yes, join 0.0", "join 0.0 => no", "joined 0.0 1 => no", "joined 0.0 65535 => no", "joined 1.0 0 => no", "join 0.1 => no", "events => 75", "meter => 2 1 0 0 5 0 0 0", "joined 0.0 0 => yes", "join 0.0 => no", "joined 0.1 1 => no",
		"data 0.1 0 a => yes, ack 0.1 1 1 100", "joined 0.1 1 => yes", "joined 0.1 2 => no", "events => 754454", "meter => 6 2 0 3 8 0 0 0")
	row(t, config(), 1, "up 0 => yes", "joined 0.0 0 => no", "join 0.7 => yes, joined 0.0 7", "joined 0.0 0 => no", "joined 0.7 0 => no", "ack 0.8 0 0 0 => yes", "meter => 4 1 0 2 3 0 0 0")
	// Of each path its own count.
	row(t, config(), 0, "up 0; up 1; tick 3; tick 6; joined 1.0 2", "joined 0.0 3 => no", "joined 0.0 2 => yes", "write ab => 2, data 0.3 0 ab", "joined 1.0 3 => no", "joined 0.0 3 => yes", "joined 0.0 4 => no")
}

// P19.4: Data is for a path that is joined.
func TestComeNotJoined(t *testing.T) {
	row(t, config(), 1, "up 0; up 1; join 0.0", "data 1.0 0 a => no", "data 1.0 0 . => no", "read 9 =>", "data 0.0 0 a => yes, ack 0.1 0 1 100", "join 1.0 => yes, joined 1.0 0", "data 1.0 1 b => yes, ack 1.1 0 2 100", "read 9 => ab")
	row(t, config(), 0, "up 0 => yes, join 0.0", "data 0.0 0 a => no", "down 0; up 0 => yes, join 0.1", "data 0.0 0 a => no", "joined 0.0 1 => yes", "data 0.1 0 a => yes, ack 0.2 1 1 100")
	// Down does not undo it, but nothing comes while it is down.
	row(t, config(), 1, "up 0; join 0.0; down 0", "data 0.0 0 a => no", "join 0.1 => no", "up 0 => yes", "data 0.0 0 a => yes, ack 0.1 0 1 100")
}

// P19.4: an Ack's Of is one that was said on that path, its Seen no more than was ever sent.
func TestComeAckBounds(t *testing.T) {
	row(t, config(), 1, answered, "write abcdef => 6, data 0.1 0 abcd, data 0.2 4 ef", "ack 0.5 3 0 100 => no", "ack 0.5 65535 0 100 => no", "ack 1.5 1 0 100 => no", "ack 1.5 2 0 100 => no", "ack 0.5 2 7 100 => no", "ack 0.5 1 4097 100 => no",
		"meter => 9 4 6 2 6 6 0 0", "ack 0.5 2 6 100 => yes", "ack 1.5 0 6 100 => yes", "close => yes, data 0.3 6 .", "ack 0.5 3 8 100 => no", "ack 0.5 4 7 100 => no", "ack 0.5 3 7 100 => yes", "ack 0.5 3 8 100 => no")
	// What was written, and never sent, is none of that.
	row(t, narrow(), 1, alone, "write abcdefghijkl => 12, data 0.1 0 abcd, data 0.2 4 efgh", "ack 0.1 1 9 100 => no", "ack 0.1 1 12 100 => no", "ack 0.1 1 8 9 => yes, data 0.3 8 i", "ack 0.1 1 10 9 => no", "ack 0.1 1 9 9 => yes")
	// Nothing was said: no Of is any.
	row(t, config(), 1, "up 0 => yes", "ack 0.0 0 0 0 => no", "join 0.0 => yes, joined 0.0 0", "ack 0.0 0 0 0 => yes", "ack 0.0 0 1 0 => no", "ack 0.0 1 0 0 => no")
	// A path that is not joined takes one, where something was said.
	row(t, config(), 0, "up 0 => yes, join 0.0", "ack 0.0 0 0 120 => yes", "state => 0 3 0 120 0 0 0 0 0 0 0 0 0 1 0 0 1 0 3 2 0 0 0 0 0 0 3 2 0")
}

// P19.4: each Join is answered, of its own Number; what is pending waits.
func TestComeJoin(t *testing.T) {
	row(t, config(), 1, "write ab; close; up 0; up 1", "join 0.5 => yes, joined 0.0 5", "state => 0 0 0 100 2 1 0 0 0 0 0 0 0 1 1 0 1 0 3 2 0 1 0 0 0 0 3 2 0", "join 0.5 => yes, joined 0.1 5", "join 0.0 => yes, joined 0.2 0", "join 1.65535 => yes, joined 1.0 65535",
		"join 0.65535 => yes, joined 0.3 65535", "state => 0 0 0 100 2 1 0 0 0 0 0 0 0 1 1 0 4 0 3 2 0 1 1 0 1 0 3 2 0", "events => 16774545454545", "tick 1 => yes, data 0.4 0 ab.")
}

// P19.4: a Joined makes the path joined, once and for all, and what waits is sent.
func TestComeJoined(t *testing.T) {
	row(t, config(), 0, "write abcdefghij; up 0; up 1; tick 3", "joined 1.9 1 => yes, data 1.2 0 abcd, data 1.3 4 efgh", "joined 1.9 1 => yes", "joined 1.9 0 => yes", "joined 0.9 0 => yes, data 0.2 8 ij", "joined 0.9 1 => yes",
		"state => 3 6 6 100 10 0 0 10 0 0 0 0 0 1 1 0 3 0 3 2 1 2 8 10 3 1 1 0 4 0 3 2 2 2 0 4 3 3 4 8 3", "meter => 16 7 10 5 0 10 0 0", "tick 6 => yes, data 0.3 0 abcd, data 1.4 0 abcd")
}

// P19.4: what came is there, and an Ack is said on its path, of its Number, with what is seen and the Limit then.
func TestComeData(t *testing.T) {
	row(t, config(), 1, answered, "data 1.9 0 ab => yes, ack 1.1 9 2 100", "data 0.9 2 cd => yes, ack 0.1 9 4 100", "data 0.9 2 cd => yes, ack 0.2 9 4 100", "data 0.3 6 gh => yes, ack 0.3 3 4 100", "data 1.0 4 ?? => yes, ack 1.2 0 8 100", "data 0.65535 4 ef => yes, ack 0.4 65535 8 100",
		"read 3 => abc", "data 0.10 0  => yes, ack 0.5 10 8 103", "data 1.11 99  => yes, ack 1.3 11 8 103", "read 99 => d??gh", "meter => 24 10 0 10 0 0 8 0", "state => 0 0 0 100 0 0 0 0 0 8 8 0 0 1 1 0 6 0 3 2 0 1 1 0 4 0 3 2 0")
	row(t, config(), 0, asked, "data 0.9 0 ab. => yes, ack 0.1 9 3 100", "data 1.9 0 abcd => yes, ack 1.1 9 3 100", "read 99 => ab")
	// Past the Limit nothing is taken; what was read makes room.
	row(t, narrow(), 1, alone, "data 0.1 6 abcd => yes, ack 0.1 1 0 8", "data 0.2 0 ghijkl => yes, ack 0.2 2 8 8", "data 0.3 8 x => yes, ack 0.3 3 8 8", "read 99 => ghijklab", "data 0.3 8 xyz => yes, ack 0.4 3 11 16", "data 0.4 4096  => yes, ack 0.5 4 11 16")
}

// P19.4: the end that came: with bytes and by itself, ahead of them, twice, and one that says something else.
func TestComeFin(t *testing.T) {
	row(t, config(), 1, alone, "data 0.1 2 cd. => yes, ack 0.1 1 0 100", "data 0.2 0 ab => yes, ack 0.2 2 5 100", "data 0.3 2 cd. => yes, ack 0.3 3 5 100", "data 0.4 4 ef. => yes, ack 0.4 4 5 100", "data 0.5 0 a. => yes, ack 0.5 5 5 100", "read 99 => abcd")
	row(t, config(), 1, alone, "data 0.1 0 abcd => yes, ack 0.1 1 4 100", "data 0.2 0 ab. => yes, ack 0.2 2 4 100", "data 0.3 4 . => yes, ack 0.3 3 5 100", "read 99 => abcd")
	row(t, config(), 1, alone, "data 0.1 0 . => yes, ack 0.1 1 1 100", "data 0.2 0 ab => yes, ack 0.2 2 1 100", "data 0.2 0 ab. => yes, ack 0.3 2 1 100", "read 9 =>")
	row(t, narrow(), 1, alone, "data 0.1 6 abcd. => yes, ack 0.1 1 0 8", "data 0.2 0 ghijklmn => yes, ack 0.2 2 8 8", "read 99 => ghijklab", "data 0.3 8 cd => yes, ack 0.3 3 11 16")
}

// P19.4: an Ack takes what it answers out, makes room for more to be written, and opens the Limit; one that is there already, or says less, closes nothing.
func TestComeAck(t *testing.T) {
	row(t, narrow(), 1, alone, "write abcdefghijklmnop => 16, data 0.1 0 abcd, data 0.2 4 efgh", "tick 2 => yes", "ack 0.9 2 0 11 => yes, data 0.3 8 ijk", "state => 2 0 0 11 16 0 0 11 0 0 0 0 0 1 1 0 4 2 6 3 2 1 0 4 0 3 8 11 2 0 0 0 0 0 3 2 0",
		"ack 0.9 2 0 11 => yes", "ack 0.9 2 0 8 => yes", "ack 0.9 2 8 0 => yes", "ack 0.9 2 4 0 => yes", "state => 2 0 0 11 16 0 8 11 0 0 0 0 0 1 1 0 4 2 6 3 2 1 0 4 0 3 8 11 2 0 0 0 0 0 3 2 0",
		"ack 0.9 1 4 4496 => yes, data 0.4 11 lmno, data 0.5 15 p", "ack 0.9 3 16 9 => yes", "write q => 1, data 0.6 16 q", "ack 0.9 6 16 9 => yes", "meter => 20 7 17 9 0 17 0 0", "tick 3 => yes, data 0.7 16 ", "meter => 22 8 17 9 0 17 0 2")
	// What it answers is taken out where it is out, and nowhere else.
	row(t, config(), 1, answered, "write abcdefghijkl => 12, data 0.1 0 abcd, data 0.2 4 efgh, data 1.1 8 ijkl", "ack 1.0 2 0 100 => no", "ack 1.0 0 4 100 => yes", "ack 0.0 0 8 100 => yes", "ack 1.0 1 8 100 => yes", "ack 0.0 1 8 100 => yes", "ack 0.0 1 8 100 => yes",
		"state => 0 0 0 100 12 0 8 12 0 0 0 0 0 1 1 0 3 0 1 3 1 2 4 8 0 1 1 0 2 0 1 3 0")
	// An answer ends that a path is behind.
	row(t, config(), 1, alone, "write abcd => 4, data 0.1 0 abcd", "tick 3 => yes, data 0.2 0 abcd", "up 1; join 1.0; write ef => 2, data 1.1 4 ef", "ack 0.9 1 0 100 => yes", "write g => 1, data 1.2 6 g", "ack 0.9 2 4 100 => yes", "write h => 1, data 0.3 7 h")
	// The tick of an answer is the one that it is, and each has its own.
	row(t, config(), 1, alone, "tick 7", "write ab => 2, data 0.1 0 ab", "tick 8", "write cd => 2, data 0.2 2 cd", "tick 9", "ack 0.0 2 0 100 => yes", "state => 9 0 0 100 4 0 0 4 0 0 0 0 0 1 1 0 3 1 2 3 1 1 0 2 7 0 0 0 0 0 3 2 0", "ack 0.0 1 4 100 => yes",
		"state => 9 0 0 100 4 0 4 4 0 0 0 0 0 1 1 0 3 1 2 4 0 0 0 0 0 0 3 2 0")
}

// worn is side 1's path 0, with room for that many more Numbers: each packet that came was answered. Of more paths path 1 is joined as well.
func worn(t *testing.T, c api.Config, left int) pair {
	t.Helper()
	p := made(t, c, 1, "up 0; join 0.7")
	for p.m.ways[0].sent < api.MaxNumber+1-left {
		x := api.Packet{Kind: api.Data, Number: p.m.ways[0].sent, Data: []byte("a")}
		if !p.e.Come(x) || !p.m.come(x) {
			t.Fatal("refused", x)
		}
	}
	p.take(t)
	if c.Paths > 1 {
		p.steps(t, "up 1; join 1.0")
	}
	return p
}

// P19.4: a packet that has no Number left is not said; all else is as it would be.
func TestNoNumber(t *testing.T) {
	one := with(func(c *api.Config) { c.Paths = 1 })
	p := worn(t, one, 2)
	p.row(t, "join 0.9 => yes, joined 0.65534 9", "data 0.8 1 b => yes, ack 0.65535 8 2 100", "data 0.9 2 c => yes", "join 0.9 => yes", "read 9 => abc", "data 0.1 3 d. => yes", "read 9 => d", "write abcd => 4", "tick 1 => yes", "close => yes", "tick 2 => yes", "down 0 => yes", "up 0 => yes",
		"ack 0.1 65535 0 300 => yes", "ack 0.1 65535 1 300 => no", "tick 99 => yes", "state => 99 0 300 4 1 0 0 0 4 5 0 1 1 1 0 65536 0 3 2 0", "done => no")
	// With one left one is sent; it is lost, and stays so.
	p = worn(t, one, 1)
	p.row(t, "write abcdefgh => 8, data 0.65535 0 abcd", "tick 2 => yes", "tick 3 => yes", "tick 99 => yes", "state => 99 0 100 8 0 0 4 1 0 4 0 1 1 0 1 1 1 65536 0 6 1 0")
	p = worn(t, one, 1)
	p.row(t, "write abcdefgh => 8, data 0.65535 0 abcd", "ack 0.0 65535 4 100 => yes", "tick 9 => yes", "state => 9 0 100 8 0 4 4 0 0 1 1 0 1 1 0 65536 0 1 3 0")
	// Another path goes on, in each of the ways.
	for kind := api.Quickest; kind <= api.Redundant; kind++ {
		two := with(func(c *api.Config) { c.Sched = kind })
		p = worn(t, two, 0)
		p.row(t, "write abcdefgh => 8, data 1.1 0 abcd, data 1.2 4 efgh", "data 0.9 1 b => yes", "data 1.9 2 c => yes, ack 1.3 9 3 100", "tick 3 => yes, data 1.4 0 abcd", "ack 1.0 4 8 100 => yes", "close => yes, data 1.5 8 .")
	}
	p = worn(t, with(func(c *api.Config) { c.Sched = api.Redundant }), 1)
	p.row(t, "write abcdefgh => 8, data 0.65535 0 abcd, data 1.1 0 abcd, data 1.2 4 efgh", "tick 3 => yes, data 1.3 0 abcd", "ack 1.1 3 4 100 => yes, data 1.4 4 efgh", "close => yes, data 1.5 8 .")
}

// A Join that has none is not said, and is due again First behind for all that.
func TestNoNumberJoin(t *testing.T) {
	p := newPair(t, config(), 0)
	for range api.MaxNumber {
		if !p.up(t, 0) || !p.down(t, 0) {
			t.Fatal(p.e.State())
		}
	}
	p.take(t)
	p.row(t, "tick 5 => yes", "up 0 => yes, join 0.65535", "state => 5 8 0 100 0 0 0 0 0 0 0 0 0 1 0 0 65536 0 3 2 0 0 0 0 0 0 3 2 0", "tick 7 => yes", "tick 9 => yes", "state => 9 12 0 100 0 0 0 0 0 0 0 0 0 1 0 0 65536 0 3 2 0 0 0 0 0 0 3 2 0",
		"down 0 => yes", "tick 11 => yes", "up 0 => yes", "state => 11 14 0 100 0 0 0 0 0 0 0 0 0 1 0 0 65536 0 3 2 0 0 0 0 0 0 3 2 0", "joined 0.1 65535 => yes", "write ab => 2", "up 1 => yes, join 1.0", "joined 1.0 0 => yes, data 1.1 0 ab")
}

// Any numbers at all, in all fields: what is refused changes nothing, and what is not is as the model has it.
func TestComeAny(t *testing.T) {
	c := chance(3)
	for i := range 60 {
		p := made(t, with(func(c *api.Config) { c.Paths = 1 + i%3 }), i%2, []string{asked, answered}[i%2])
		for range 60 {
			p.come(t, api.Packet{Kind: c.any(6), Path: c.any(3), Number: c.any(9), Of: c.any(3), From: c.any(4), Data: bytes.Repeat([]byte("x"), c.below(3)), Fin: c.below(9) == 0, Seen: c.any(3), Limit: c.any(9)})
			p.come(t, api.Packet{Kind: api.Ack, Path: c.any(3), Number: c.any(9), Of: c.any(9), Seen: c.any(30), Limit: c.any(300)})
			p.come(t, api.Packet{Kind: api.Data, Path: c.any(3), Number: c.any(9), From: c.any(50), Data: filled(c.below(99), c.below(66)), Fin: c.below(40) == 0})
			p.write(t, filled(c.below(99), c.below(9)))
		}
		p.like(t)
		p.take(t)
	}
}
