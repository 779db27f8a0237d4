package end_test

import (
	"bytes"
	"slices"
	"testing"

	"haulier/api"
	"haulier/event"
	"haulier/packet"
)

// blot writes to all of b's memory, behind its length as well.
func blot(b []byte) {
	b = b[:cap(b)]
	for i := range b {
		b[i] = 77
	}
	_ = append(b, 55)
}

// blotNumbers does that to numbers.
func blotNumbers(l []int) {
	l = l[:cap(l)]
	for i := range l {
		l[i] = -77
	}
	_ = append(l, 55)
}

// blotPacket writes to all of a packet's memory.
func blotPacket(p *api.Packet) {
	blot(p.Data)
	*p = api.Packet{Kind: 77, Path: 77, Number: 77, Of: 77, From: 77, Data: p.Data, Fin: true, Seen: 77, Limit: 77}
}

func blotPackets(l []api.Packet) {
	l = l[:cap(l)]
	for i := range l {
		blotPacket(&l[i])
	}
	_ = append(l, api.Packet{Kind: 55})
}

func blotEvents(l []api.Event) {
	l = l[:cap(l)]
	for i := range l {
		blot(l[i].Data)
		blotPacket(&l[i].Packet)
		l[i].Kind, l[i].N = 77, 77
	}
	_ = append(l, api.Event{Kind: 55})
}

// blotAll writes to all that p's End hands out of itself.
func (p pair) blotAll() {
	blotEvents(p.e.Events())
	blotNumbers(p.e.State())
	blotNumbers(p.e.Meter())
	blot(p.e.Written())
}

// whole is l with lists of its own.
func whole(l []api.Event) []api.Event {
	l = slices.Clone(l)
	for i := range l {
		l[i].Data = bytes.Clone(l[i].Data)
		l[i].Packet.Data = bytes.Clone(l[i].Packet.Data)
	}
	return l
}

// packed is the packets as events.
func packed(l []api.Packet) []api.Event {
	var events []api.Event
	for _, p := range l {
		events = append(events, api.Event{Kind: api.Came, Packet: p})
	}
	return events
}

// full is room for more behind n bytes, which are filled; behind stays 9s.
func full(n int) []byte {
	b := bytes.Repeat([]byte{9}, n+40)
	copy(b, filled(n, n))
	return b[:n]
}

// kept sees to it that b is as full made it, behind its length too.
func kept(t *testing.T, b []byte) {
	t.Helper()
	if want := full(len(b)); !bytes.Equal(b[:len(want)+40], want[:len(want)+40]) {
		t.Errorf("%v is %v", want, b[:len(want)+40])
	}
}

// What is handed in is neither changed nor kept.
func TestHandedIn(t *testing.T) {
	for kind := api.Quickest; kind <= api.Redundant; kind++ {
		c := with(func(c *api.Config) { c.Sched, c.Window = kind, 30 })
		p := made(t, c, 1, answered)
		for n := range 14 {
			b := full(n)
			p.write(t, b)
			kept(t, b)
			blot(b)
			p.like(t)
			data := full(n % 9)
			x := api.Packet{Kind: api.Data, Path: n % 2, Number: n, From: 3 * n, Data: data}
			p.come(t, x)
			kept(t, data)
			blot(data)
			p.like(t)
			x = api.Packet{Kind: api.Data, Path: 1, Number: -n - 1, Data: full(5)}
			p.come(t, x)
			kept(t, x.Data)
			p.read(t, 2)
			p.tick(t, 2*n)
			p.like(t)
			p.take(t)
		}
	}
}

// What lies behind the length of what is handed in is not read.
func TestHandedInBehind(t *testing.T) {
	p := made(t, config(), 1, answered)
	b := []byte("abcdef")
	p.write(t, b[:2])
	p.come(t, api.Packet{Kind: api.Data, Data: b[1:3]})
	p.come(t, api.Packet{Kind: api.Data, From: 2, Data: b[:0]})
	if string(p.e.Written()) != "ab" || string(p.read(t, 9)) != "bc" || string(b) != "abcdef" {
		t.Error(p.e.Events())
	}
	p.like(t)
}

// rowsOfAll are rows in which each call hands out something.
func rowsOfAll() []string {
	return []string{
		"write abcdefghij; data 0.3 0 xyz; read 2; on 3; ack 0.1 3 4 60; down 1; close; data 1.4 3 q.; read 9; up 1; on 9; on 70",
		"data 0.3 2 xyz; data 1.3 0 ab; read 1; write abcdefgh; ack 1.1 1 4 60; write ijk; read 4; on 3; write lm; data 0.9 5 cd.; on 6; ack 0.1 2 9 70; read 9; close",
	}
}

// What is handed out is new memory: who has it may change it, behind its length too, and it stays as it is, whatever comes behind.
func TestHandedOut(t *testing.T) {
	for kind := api.Quickest; kind <= api.Redundant; kind++ {
		for _, steps := range rowsOfAll() {
			c := with(func(c *api.Config) { c.Sched = kind })
			p, other := made(t, c, 1, answered), made(t, c, 1, answered)
			type account struct {
				events, was   []api.Event
				state, before []int
				took, told    []api.Event
				written, then []byte
			}
			var accounts []account
			for _, s := range split(steps) {
				p.blotAll()
				p.do(t, s)
				p.blotAll()
				blotPackets(p.take(t))
				p.like(t)
				other.do(t, s)
				a := account{events: other.e.Events(), state: other.e.State(), took: packed(other.take(t)), written: other.e.Written()}
				a.was, a.before, a.told, a.then = whole(a.events), slices.Clone(a.state), whole(a.took), bytes.Clone(a.written)
				accounts = append(accounts, a)
			}
			for i, a := range accounts {
				if !event.All(a.events, a.was) || !slices.Equal(a.state, a.before) || !event.All(a.took, a.told) || !bytes.Equal(a.written, a.then) {
					t.Errorf("%q, step %d: %v", steps, i, a)
				}
			}
		}
	}
}

// Read's bytes too.
func TestReadHandedOut(t *testing.T) {
	p := made(t, config(), 1, alone+"; data 0.1 0 abcdefgh; data 0.2 8 ijkl.")
	first, second := p.read(t, 3), p.read(t, 2)
	blot(first)
	p.like(t)
	third := p.read(t, 4)
	if string(second) != "de" || string(third) != "fghi" {
		t.Errorf("%q, %q", second, third)
	}
	blot(third)
	p.like(t)
	if string(p.read(t, 9)) != "jkl" || string(second) != "de" || string(reads(p.e.Events())) != "abcdefghijkl" {
		t.Error(p.e.Events())
	}
}

// No two lists of one answer share memory, those of one piece that goes over three paths neither.
func TestHandedOutApart(t *testing.T) {
	p := made(t, three(api.Redundant), 1, begun)
	p.do(t, "write abcdefgh")
	p.do(t, "data 0.9 0 abcdefgh")
	p.do(t, "data 0.9 0 abcdefgh")
	p.do(t, "read 4")
	for i := range p.e.Events() {
		l := p.e.Events()
		was := whole(l)
		blot(l[i].Data)
		blot(l[i].Packet.Data)
		was[i].Data, was[i].Packet.Data = l[i].Data, l[i].Packet.Data
		if !event.All(l, was) {
			t.Error(i, l)
		}
	}
	list := p.take(t)
	if len(list) != 8 || word(list[5]) != "data 2.2 4 efgh" {
		t.Fatal(words(list))
	}
	was := whole(packed(list))
	for i := range list {
		blot(list[i].Data)
		for k := i + 1; k < len(list); k++ {
			if !packet.Same(list[k], was[k].Packet) {
				t.Errorf("%d, %d: %v", i, k, list[k])
			}
		}
	}
	p.like(t)
}

// A Take, and Events, have nothing of each other.
func TestTakeAndEvents(t *testing.T) {
	p := made(t, config(), 1, answered)
	p.do(t, "write abcdef")
	before := p.e.Events()
	list := p.take(t)
	was := whole(before)
	blotPackets(list)
	if !event.All(before, was) {
		t.Error(before)
	}
	blotEvents(before)
	p.like(t)
	p.row(t, "tick 3 => yes, data 1.1 0 abcd, data 1.2 4 ef")
}
