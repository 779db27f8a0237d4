package end_test

import (
	"slices"
	"testing"

	"haulier/api"
	"haulier/event"
	"haulier/packet"
)

// P19.5: what was said since the last Take, in order, once.
func TestTake(t *testing.T) {
	p := newPair(t, config(), 0)
	for _, s := range []string{"up 0", "up 1", "tick 3", "joined 1.0 0", "write abcdef", "data 1.9 0 xy", "down 1"} {
		p.do(t, s)
	}
	got := p.take(t)
	if words(got) != ", join 0.0, join 1.0, join 0.1, join 1.1, data 1.2 0 abcd, data 1.3 4 ef, ack 1.4 9 2 100" {
		t.Error(words(got))
	}
	if again := p.take(t); len(again) != 0 || len(p.e.Take()) != 0 {
		t.Error(again)
	}
	p.like(t)
	for _, s := range []string{"read 1", "close", "on 1", "up 1"} {
		p.do(t, s)
	}
	if got := p.take(t); words(got) != ", data 1.5 0 abcd, data 1.6 4 ef" {
		t.Error(words(got))
	}
	if again := p.take(t); len(again) != 0 {
		t.Error(again)
	}
	p.like(t)
}

// P19.2 to P19.5: each event whole, at first what happened, and behind it what was said.
func TestEvents(t *testing.T) {
	p := newPair(t, narrow(), 0)
	p.steps(t, "write abcdefghij; write ; up 1; up 1; tick 3; tick 3; joined 1.9 1; joined 1.9 4; ack 1.8 2 4 10; data 1.7 0 xyz.; read 2; read 0; close; close; down 0; down 1; down 1; data 1.7 0 x")
	data := func(number, from int, b string, fin bool) api.Event {
		return api.Event{Kind: api.Sent, Packet: api.Packet{Kind: api.Data, Path: 1, Number: number, From: from, Data: []byte(b), Fin: fin}}
	}
	want := []api.Event{
		{Kind: api.Wrote, Data: []byte("abcdefghij")},
		{Kind: api.Up, N: 1},
		{Kind: api.Sent, Packet: api.Packet{Kind: api.Join, Path: 1}},
		{Kind: api.Ticked, N: 3},
		{Kind: api.Sent, Packet: api.Packet{Kind: api.Join, Path: 1, Number: 1}},
		{Kind: api.Came, Packet: api.Packet{Kind: api.Joined, Path: 1, Number: 9, Of: 1}},
		data(2, 0, "abcd", false),
		data(3, 4, "efgh", false),
		{Kind: api.Came, Packet: api.Packet{Kind: api.Ack, Path: 1, Number: 8, Of: 2, Seen: 4, Limit: 10}},
		data(4, 8, "ij", false),
		{Kind: api.Came, Packet: api.Packet{Kind: api.Data, Path: 1, Number: 7, Data: []byte("xyz"), Fin: true}},
		{Kind: api.Sent, Packet: api.Packet{Kind: api.Ack, Path: 1, Number: 5, Of: 7, Seen: 4, Limit: 8}},
		{Kind: api.Read, Data: []byte("xy")},
		{Kind: api.Closed},
		data(6, 10, "", true),
		{Kind: api.Down, N: 1},
	}
	if got := p.e.Events(); !event.All(got, want) || !event.All(p.e.Events(), want) {
		t.Error(got)
	}
	// All that was said stands in it, and was told.
	p = newPair(t, config(), 1)
	var all []api.Packet
	for _, s := range []string{"up 0", "up 1", "join 0.0", "join 1.4", "write abcdef", "data 1.9 0 xy", "tick 3", "down 1", "tick 9"} {
		p.do(t, s)
		all = append(all, p.take(t)...)
	}
	if sent := sentOf(p.e.Events()); !slices.EqualFunc(all, sent, packet.Same) || len(all) < 6 {
		t.Error(words(all), sent)
	}
}

// sentOf are the packets that were said.
func sentOf(l []api.Event) []api.Packet {
	var sent []api.Packet
	for _, x := range l {
		if x.Kind == api.Sent {
			sent = append(sent, x.Packet)
		}
	}
	return sent
}

// P19.5: each of the eight counters, and what counts in none of them.
func TestMeter(t *testing.T) {
	row(t, narrow(), 1, "meter => 0 0 0 0 0 0 0 0", "up 0 => yes", "meter => 1 0 0 0 0 0 0 0", "up 0 => no", "tick 0 => no", "read 1 =>", "write  => 0", "down 1 => no", "meter => 1 0 0 0 0 0 0 0", "data 0.0 0 a => no", "meter => 1 0 0 0 1 0 0 0",
		"join 0.0 => yes, joined 0.0 0", "meter => 3 1 0 1 1 0 0 0", "write abcdefghijklmnopqrstuvw => 20, data 0.1 0 abcd, data 0.2 4 efgh", "meter => 6 3 8 1 1 20 0 0", "data 0.1 0 xyz => yes, ack 0.3 1 3 8", "meter => 8 4 8 2 1 20 0 0",
		"read 2 => xy", "meter => 9 4 8 2 1 20 2 0", "read 2 => z", "meter => 10 4 8 2 1 20 3 0", "tick 2 => yes", "meter => 11 4 8 2 1 20 3 0", "tick 3 => yes, data 0.4 0 abcd", "meter => 13 5 12 2 1 20 3 2", "down 0 => yes", "meter => 14 5 12 2 1 20 3 3",
		"ack 0.1 1 8 9 => no", "meter => 14 5 12 2 2 20 3 3", "up 0 => yes, data 0.5 0 abcd", "meter => 16 6 16 2 2 20 3 3", "ack 0.1 5 8 8 => yes", "meter => 17 6 16 3 2 20 3 3", "close => yes", "close => no", "meter => 18 6 16 3 2 20 3 3",
		// A probe has no bytes; it is given up as others are.
		"tick 4 => yes, data 0.6 8 ", "meter => 20 7 16 3 2 20 3 3", "tick 5 => yes, data 0.7 8 ", "meter => 22 8 16 3 2 20 3 4", "down 0 => yes", "meter => 23 8 16 3 2 20 3 5", "down 0 => no", "meter => 23 8 16 3 2 20 3 5")
	// A piece that goes over two paths counts twice.
	row(t, with(func(c *api.Config) { c.Sched = api.Redundant }), 0, asked, "write abc => 3, data 0.1 0 abc, data 1.1 0 abc", "meter => 9 4 6 2 0 3 0 0", "tick 3 => yes, data 0.2 0 abc, data 1.2 0 abc", "meter => 12 6 12 2 0 3 0 2")
}

// P19.5: all that was written, acknowledged or not, sent or not.
func TestWritten(t *testing.T) {
	row(t, narrow(), 1, alone, "written =>", "write abcde => 5, data 0.1 0 abcd, data 0.2 4 e", "written => abcde", "write fghijklmnopqrstuvwxyz => 15", "written => abcdefghijklmnopqrst", "ack 0.1 1 4 8 => yes, data 0.3 5 fgh", "write xyz => 3", "close => yes",
		"written => abcdefghijklmnopqrstxyz", "data 0.9 0 zz => yes, ack 0.4 9 2 8", "read 9 => zz", "tick 99; down 0 => yes", "written => abcdefghijklmnopqrstxyz")
}

// P19.5: Now is the last tick that there was.
func TestNow(t *testing.T) {
	row(t, config(), 1, "now => 0", "tick 7 => yes", "up 0; write a; close; now => 7", "tick 3 => no", "now => 7", "tick 1048576 => yes", "now => 1048576", "tick 1048577 => no", "now => 1048576")
}
