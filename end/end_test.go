package end_test

import (
	"slices"
	"strings"
	"testing"

	"haulier/api"
	"haulier/end"
)

// field is a number of a configuration, and the greatest that it may be.
type field struct {
	name     string
	at       func(c *api.Config) *int
	greatest int
}

func fields() []field {
	return []field{
		{"Paths", func(c *api.Config) *int { return &c.Paths }, 3},
		{"Buffer", func(c *api.Config) *int { return &c.Buffer }, 400},
		{"Window", func(c *api.Config) *int { return &c.Window }, 400},
		{"Chunk", func(c *api.Config) *int { return &c.Chunk }, 64},
		{"Most", func(c *api.Config) *int { return &c.Most }, 16},
		{"First", func(c *api.Config) *int { return &c.First }, 64},
		{"Sched", func(c *api.Config) *int { return &c.Sched }, 3},
	}
}

// refused sees to it that a configuration is refused, or not, by Check and by New of either side, and of none.
func refused(t *testing.T, c api.Config, want bool) {
	t.Helper()
	answer := map[bool]api.Errno{true: api.ErrArg, false: api.OK}[want]
	if got := end.Check(c); got != answer {
		t.Errorf("Check(%v) = %d", c, got)
	}
	for _, side := range []int{0, 1} {
		if e, got := end.New(c, side); got != answer || (e == nil) != want {
			t.Errorf("New(%v, %d) = %v, %d", c, side, e, got)
		}
	}
	for _, side := range []int{-1, 2} {
		if e, got := end.New(c, side); got != api.ErrArg || e != nil {
			t.Errorf("New(%v, %d) = %v, %d", c, side, e, got)
		}
	}
}

// P19.1: each number at its bounds, one past each, and at all edges.
func TestCheck(t *testing.T) {
	refused(t, config(), false)
	refused(t, api.Config{}, true)
	least, greatest := config(), config()
	for _, f := range fields() {
		*f.at(&least), *f.at(&greatest) = 1, f.greatest
		for _, n := range append(edges(), f.greatest-1, f.greatest, f.greatest+1) {
			refused(t, with(func(c *api.Config) { *f.at(c) = n }), n < 1 || n > f.greatest)
		}
	}
	refused(t, least, false)
	refused(t, greatest, false)
	for _, f := range fields() {
		for _, c := range []api.Config{least, greatest} {
			c := c
			*f.at(&c) = 0
			refused(t, c, true)
			*f.at(&c) = f.greatest + 1
			refused(t, c, true)
			// Two that may not be are no better than one.
			c.Paths, c.Sched = 0, 4
			refused(t, c, true)
		}
	}
}

// P19.1: sides that are neither.
func TestSides(t *testing.T) {
	for _, side := range edges() {
		e, got := end.New(config(), side)
		want := api.ErrArg
		if side == 0 || side == 1 {
			want = api.OK
		}
		if got != want || (e == nil) != (want != api.OK) {
			t.Errorf("New of side %d: %v, %d", side, e, got)
		}
	}
}

// P19.1, P19.5: each answer of a new one.
func TestNew(t *testing.T) {
	way := " 0 0 0 0 0 3 2 0"
	for paths := 1; paths <= 3; paths++ {
		for side := range 2 {
			c := with(func(c *api.Config) { c.Paths, c.Window = paths, 9 })
			state := "0" + strings.Repeat(" 0", paths) + " 9 0 0 0 0 0 0 0 0 0" + strings.Repeat(way, paths)
			row(t, c, side, "state => "+state, "meter => 0 0 0 0 0 0 0 0", "events =>", "done => no", "now => 0", "written =>",
				"read 5 =>", "tick 0 => no", "down 0 => no", "up 3 => no", "write  => 0", "join 0.0 => no", "joined 0.0 0 => no", "data 0.0 0 a => no", "ack 0.0 0 0 0 => no",
				"state => "+state, "meter => 0 0 0 0 4 0 0 0", "events =>")
			row(t, c, side, "close => yes", "events => 6")
			row(t, c, side, "tick 1 => yes", "events => 3")
			row(t, c, side, "write a => 1", "events => 1")
			p := newPair(t, c, side)
			if len(p.e.Take()) != 0 || len(p.e.Take()) != 0 || len(p.e.Events()) != 0 || len(p.e.Written()) != 0 {
				t.Error(p.e.Take(), p.e.Events())
			}
		}
	}
	row(t, config(), 0, "up 0 => yes, join 0.0", "events => 75")
	row(t, config(), 1, "up 0 => yes", "events => 7")
	// First and Most stand in each path's own numbers.
	row(t, with(func(c *api.Config) { c.Paths, c.First, c.Most = 1, 64, 1 }), 0, "state => 0 0 100 0 0 0 0 0 0 0 0 0 0 0 0 0 0 64 1 0")
}

// P19.2: Write of none, with less room than bytes, with no room.
func TestWrite(t *testing.T) {
	c := with(func(c *api.Config) { c.Buffer = 5 })
	row(t, c, 1, "write  => 0", "events =>", "write ab => 2", "events => 1", "write cdefg => 3", "events => 11", "write h => 0", "write  => 0", "events => 11",
		"written => abcde", "meter => 2 0 0 0 0 5 0 0", "state => 0 0 0 100 5 0 0 0 0 0 0 0 0 0 0 0 0 0 3 2 0 0 0 0 0 0 3 2 0")
	if p := newPair(t, c, 1); p.write(t, nil) != 0 || len(p.e.Events()) != 0 {
		t.Error(p.e.Events())
	}
	// What is acknowledged makes room, and that alone.
	row(t, c, 1, alone, "write abcdefg => 5, data 0.1 0 abcd, data 0.2 4 e", "write f => 0", "ack 0.1 1 4 100 => yes", "write fghijk => 4, data 0.3 5 fghi", "write j => 0",
		"ack 0.2 2 4 100 => yes", "write j => 0", "ack 0.3 3 9 100 => yes", "write jklmno => 5, data 0.4 9 jklm, data 0.5 13 n", "written => abcdefghijklmn")
	// Its bytes go at once where a path can be used, and later where none can.
	row(t, c, 0, "write ab => 2", "up 0 => yes, join 0.0", "write c => 1", "joined 0.0 0 => yes, data 0.1 0 abc", "write d => 1, data 0.2 3 d", "write e => 1", "ack 0.0 1 3 100 => yes, data 0.3 4 e")
}

// P19.2: behind Close there is no room, whatever is acknowledged.
func TestWriteBehindClose(t *testing.T) {
	row(t, config(), 1, "close => yes", "write a => 0", "write  => 0", "written =>", "events => 6")
	row(t, config(), 1, alone, "write abcde => 5, data 0.1 0 abcd, data 0.2 4 e", "close => yes", "write a => 0", "ack 0.1 2 5 100 => yes, data 0.3 5 .", "write a => 0",
		"ack 0.2 3 6 100 => yes", "write a => 0", "written => abcde", "meter => 10 4 5 3 0 5 0 0")
}

// P19.2, T1: MaxBytes in all, and the end behind them.
func TestWriteMost(t *testing.T) {
	c := api.Config{Paths: 1, Buffer: 400, Window: 400, Chunk: 64, Most: 16, First: 3, Sched: api.Round}
	p := made(t, c, 1, alone)
	all := filled(0, 5000)
	for len(p.m.data) < api.MaxBytes {
		if n := p.write(t, all[len(p.m.data):]); n != min(400, api.MaxBytes-len(p.m.data)+n) {
			t.Fatalf("Write = %d, %d are written", n, len(p.m.data))
		}
		for p.m.acked < len(p.m.data) {
			o := p.m.ways[0].out[0]
			p.come(t, api.Packet{Kind: api.Ack, Of: o.number, Seen: o.to, Limit: min(o.to+400, 4496)})
		}
	}
	p.like(t)
	p.take(t)
	number := p.m.ways[0].sent
	p.row(t, "write x => 0", "done => no", "close => yes"+words([]api.Packet{{Kind: api.Data, Number: number, From: 4096, Fin: true}}))
	if !p.come(t, api.Packet{Kind: api.Ack, Of: number, Seen: 4097, Limit: 4496}) || !slices.Equal(p.e.Written(), all[:4096]) {
		t.Error(p.e.State())
	}
	p.row(t, "write x => 0", "tick 1 => yes", "done => no", "data 0.0 0 . => yes, ack 0."+text([]int{number + 1, 0, 1, 400}), "done => yes")
	p.like(t)
}

// P19.2: Read of none, below 0, of more than there is; the Limit is said with the next Ack, not ahead of it.
func TestRead(t *testing.T) {
	row(t, config(), 1, "read 1 =>", "read max =>", "events =>", answered, "data 0.7 0 hello => yes, ack 0.1 7 5 100", "read 0 =>", "read -1 =>", "read min =>", "read 2 => he",
		"read 9 => llo", "read max =>", "read 1 =>", "events => 7745454522", "meter => 10 3 0 3 0 0 5 0", "data 0.8 5 x => yes, ack 0.2 8 6 105", "read max => x", "read max =>")
	// What is behind a gap can't be read yet.
	row(t, config(), 1, answered, "data 0.1 3 de => yes, ack 0.1 1 0 100", "read 9 =>", "data 1.1 0 a => yes, ack 1.1 1 1 100", "read 9 => a", "data 1.2 1 bc => yes, ack 1.2 2 5 101", "read 3 => bcd", "read 3 => e", "written =>")
	// Nor is what was read told once more.
	row(t, config(), 0, asked, "data 0.1 0 ab => yes, ack 0.1 1 2 100", "read 9 => ab", "data 0.1 0 ab => yes, ack 0.2 1 2 102", "read 9 =>", "data 0.2 0 abc. => yes, ack 0.3 2 4 102", "read 9 => c", "read 9 =>")
}

// P19.2: all at once, up to MaxBytes that were read.
func TestReadMost(t *testing.T) {
	c := api.Config{Paths: 1, Buffer: 400, Window: 400, Chunk: 64, Most: 16, First: 3, Sched: api.Quickest}
	p := made(t, c, 1, alone)
	all := filled(0, api.MaxBytes)
	for from := 0; from < len(all); from += 64 {
		if !p.come(t, api.Packet{Kind: api.Data, Number: from, From: from, Data: all[from : from+64], Fin: from+64 == len(all)}) {
			t.Fatal("refused", from)
		}
		if from%320 == 0 {
			p.read(t, api.MaxTick)
		}
	}
	p.read(t, 5000)
	if !slices.Equal(reads(p.e.Events()), all) || p.e.State()[8] != 4096 || p.e.State()[9] != 4097 {
		t.Error(p.e.State())
	}
	p.like(t)
	p.take(t)
	p.row(t, "data 0.9 4096 . => yes, ack 0.65 9 4097 4496", "data 0.9 4096  => yes, ack 0.66 9 4097 4496", "read 9 =>")
}

// reads are the bytes of all that was read.
func reads(l []api.Event) []byte {
	var b []byte
	for _, x := range l {
		if x.Kind == api.Read {
			b = append(b, x.Data...)
		}
	}
	return b
}

// P19.2: Close once, and twice; the end is sent, with the last bytes or by itself.
func TestClose(t *testing.T) {
	row(t, config(), 1, "close => yes", "close => no", "close => no", "events => 6", "meter => 1 0 0 0 0 0 0 0", "state => 0 0 0 100 0 1 0 0 0 0 0 0 0 0 0 0 0 0 3 2 0 0 0 0 0 0 3 2 0")
	row(t, config(), 1, answered, "close => yes, data 0.1 0 .", "close => no", "events => 77454565")
	row(t, config(), 0, asked, "write ab => 2, data 0.1 0 ab", "close => yes, data 0.2 2 .", "close => no")
	row(t, config(), 1, alone, "write abcdefghij => 10, data 0.1 0 abcd, data 0.2 4 efgh", "close => yes", "ack 0.1 1 4 100 => yes, data 0.3 8 ij.")
	// With as many bytes as may go.
	row(t, config(), 1, alone, "write abcdefghijkl => 12, data 0.1 0 abcd, data 0.2 4 efgh", "close => yes", "ack 0.1 1 4 100 => yes, data 0.3 8 ijkl.", "ack 0.2 2 8 100 => yes", "ack 0.3 3 13 100 => yes")
	// Ahead of the Limit the end waits with the bytes.
	c := with(func(c *api.Config) { c.Window = 2 })
	row(t, c, 1, alone, "write abc => 3, data 0.1 0 ab", "close => yes", "ack 0.1 1 2 2 => yes", "ack 0.2 1 2 3 => yes, data 0.2 2 c.")
	row(t, c, 1, alone, "write ab => 2, data 0.1 0 ab", "close => yes, data 0.2 2 .")
}

// P19.5: closed, all acknowledged, and all that came read, up to the end: Done, and with less of it not.
func TestDone(t *testing.T) {
	row(t, config(), 1, alone, "done => no", "close => yes, data 0.1 0 .", "done => no", "ack 0.1 1 1 100 => yes", "done => no", "data 0.2 0 . => yes, ack 0.2 2 1 100", "done => yes", "read 5 =>", "tick 5 => yes", "done => yes")
	row(t, config(), 1, alone, "write abcde => 5, data 0.1 0 abcd, data 0.2 4 e", "data 0.1 0 ab. => yes, ack 0.3 1 3 100", "done => no", "read 1 => a", "done => no", "ack 0.2 2 5 100 => yes", "done => no",
		"close => yes, data 0.4 5 .", "done => no", "ack 0.3 1 4 100 => yes", "done => no", "ack 0.4 4 5 100 => yes", "done => no", "read 1 => b", "done => no", "ack 0.5 4 6 100 => yes", "done => yes")
	// All acknowledged, not closed; read, and the end not known.
	row(t, config(), 0, asked, "write a => 1, data 0.1 0 a", "ack 0.1 1 1 100 => yes", "data 0.2 0 . => yes, ack 0.2 2 1 100", "done => no", "close => yes, data 0.3 1 .", "done => no", "ack 0.3 3 2 100 => yes", "done => yes")
	row(t, config(), 0, asked, "close => yes, data 0.1 0 .", "ack 0.1 1 1 100 => yes", "data 0.2 0 ab => yes, ack 0.2 2 2 100", "read 2 => ab", "done => no", "data 0.3 2 . => yes, ack 0.3 3 3 102", "done => yes")
	// The end is known, and what is ahead of it is not there.
	row(t, config(), 0, asked, "close => yes, data 0.1 0 .", "ack 0.1 1 1 100 => yes", "data 0.2 1 b. => yes, ack 0.2 2 0 100", "read 2 =>", "done => no", "data 0.3 0 a => yes, ack 0.3 3 3 100", "done => no", "read 1 => a", "done => no", "read 1 => b", "done => yes")
}

// P19.5: each of State's numbers, in their order.
func TestState(t *testing.T) {
	c := with(func(c *api.Config) { c.Paths, c.Window, c.First = 3, 30, 5 })
	row(t, c, 0, "tick 2", "up 2 => yes, join 2.0", "tick 3", "up 0 => yes, join 0.0", "write abcdefghijklmnopqrstuvwxyz => 20",
		"state => 3 8 0 7 30 20 0 0 0 0 0 0 0 0 1 0 0 1 0 5 2 0 0 0 0 0 0 5 2 0 1 0 0 1 0 5 2 0",
		"joined 2.0 0 => yes, data 2.1 0 abcd, data 2.2 4 efgh",
		"state => 3 8 0 7 30 20 0 0 8 0 0 0 0 0 1 0 0 1 0 5 2 0 0 0 0 0 0 5 2 0 1 1 0 3 0 5 2 2 1 0 4 3 2 4 8 3",
		"tick 7 => yes", "ack 2.1 1 0 31 => yes, data 2.3 8 ijkl, data 2.4 12 mnop",
		"state => 7 8 0 7 31 20 0 0 16 0 0 0 0 0 1 0 0 1 0 5 2 0 0 0 0 0 0 5 2 0 1 1 0 5 4 12 3 3 2 4 8 3 3 8 12 7 4 12 16 7",
		"tick 8 => yes, join 0.1", "close => yes", "tick 15 => yes, join 0.2",
		"state => 15 20 0 7 31 20 1 0 16 1 4 8 0 0 0 0 1 0 0 3 0 5 2 0 0 0 0 0 0 5 2 0 1 1 1 5 4 24 1 2 3 8 12 7 4 12 16 7",
		"ack 2.2 4 12 31 => yes, data 2.5 16 qrst.", "tick 16 => yes", "data 2.3 0 abc => yes, ack 2.6 3 3 30", "data 2.4 5 fg. => yes, ack 2.7 4 3 30", "read 2 => ab",
		"state => 16 20 0 7 31 20 1 12 21 0 2 3 1 0 1 0 0 3 0 5 2 0 0 0 0 0 0 5 2 0 1 1 0 8 4 12 2 2 3 8 12 7 5 16 21 15")
}
