package script_test

import (
	"bytes"
	"slices"
	"testing"

	"haulier/api"
	"haulier/duel"
	"haulier/event"
	"haulier/script"
)

func newDuel(t *testing.T) *duel.Duel {
	t.Helper()
	d, e := duel.New(api.Config{Paths: 2, Buffer: 20, Window: 8, Chunk: 4, Most: 4, First: 3, Sched: api.Round})
	if e != api.OK {
		t.Fatal(e)
	}
	return d
}

// talk is a row of steps of which some do nothing: paths come up, bytes go over, are lost, spoilt, doubled, sent again.
const talk = `
up 0 0
up 1 0
up 1 0
deliver 1 0
deliver 0 0
deliver 0 0
write 0 68656c6c6f
again 1 0
spoil 1 0 9 5
spoil 1 0 9 5
deliver 1 0
drop 1 1
read 1 9
deliver 1 0
write 1 7879
tick 0
tick 3
deliver 1 0
deliver 1 0
read 1 9
read 0 9
deliver 0 0
deliver 0 0
close 0
close 0
close 1
down 0 1
down 0 0
up 0 0
tick 4
`

// alike sees to it that two Duels tell the same.
func alike(t *testing.T, a, b *duel.Duel) {
	t.Helper()
	for side := range 2 {
		x, y := a.End(side), b.End(side)
		if !event.All(x.Events(), y.Events()) || !slices.Equal(x.State(), y.State()) || !slices.Equal(x.Meter(), y.Meter()) || x.Now() != y.Now() {
			t.Fatalf("side %d: %v, %v, want %v, %v", side, x.State(), x.Meter(), y.State(), y.Meter())
		}
		if !bytes.Equal(a.Delivered(side), b.Delivered(side)) {
			t.Fatalf("Delivered(%d) = %q, want %q", side, a.Delivered(side), b.Delivered(side))
		}
		if a.Net().Len(side) != b.Net().Len(side) {
			t.Fatalf("%d are under way to %d, want %d", a.Net().Len(side), side, b.Net().Len(side))
		}
		for at := range a.Net().Len(side) {
			p, _ := a.Net().Get(side, at)
			q, _ := b.Net().Get(side, at)
			if !bytes.Equal(p, q) {
				t.Fatalf("under way to %d, at %d: %x, want %x", side, at, p, q)
			}
		}
	}
	if a.Done() != b.Done() {
		t.Fatalf("Done() = %t", a.Done())
	}
}

// did is how many of the steps do something, one by one.
func did(d *duel.Duel, l []duel.Step) int {
	n := 0
	for _, s := range l {
		if d.Do(s) {
			n++
		}
	}
	return n
}

func read(t *testing.T, text string) []duel.Step {
	t.Helper()
	l, e := script.Parse(text)
	if e != api.OK {
		t.Fatalf("Parse(%q) = %d", text, e)
	}
	return l
}

// Of some steps, how many did something.
func TestRun(t *testing.T) {
	for _, r := range []struct {
		text string
		want int
	}{
		{"", 0},
		{"tick 0", 0},
		{"tick 1", 1},
		{"tick 1\ntick 1000\ntick 1001\ntick 1", 3},
		{"read 0 9\nup 0 0\nup 0 0\nup 0 2\nup 0 1\ndrop 0 0\ndrop 1 2\ndrop 1 1\ndrop 1 0\ndrop 1 0", 4},
		{"write 0 61\nwrite 1 62\nclose 0\nwrite 0 63\nclose 0\nclose 1", 4},
	} {
		d := newDuel(t)
		if n := script.Run(d, read(t, r.text)...); n != r.want {
			t.Errorf("Run of %q = %d, want %d", r.text, n, r.want)
		}
	}
	d := newDuel(t)
	if n := script.Run(d, read(t, "up 1 0\nup 0 0\ndeliver 1 0\ndeliver 0 0\nwrite 0 6869\ndeliver 1 0\nread 1 9\nread 1 9")...); n != 7 || string(d.Delivered(1)) != "hi" {
		t.Errorf("%d, %q", n, d.Delivered(1))
	}
}

// Of none, 0, and nothing has happened.
func TestRunNone(t *testing.T) {
	d, other := newDuel(t), newDuel(t)
	if n := script.Run(d); n != 0 {
		t.Errorf("Run of none = %d", n)
	}
	alike(t, d, other)
	script.Run(d, read(t, talk)...)
	script.Run(other, read(t, talk)...)
	if n := script.Run(d, []duel.Step{}...); n != 0 {
		t.Errorf("Run of none = %d", n)
	}
	alike(t, d, other)
}

// Steps that do nothing, those that have no line among them, are not counted, and those behind them are done.
func TestRunNothing(t *testing.T) {
	d, other := newDuel(t), newDuel(t)
	nothing := []duel.Step{{}, {Kind: 11}, {Kind: -1}, {Kind: duel.Write, Side: 2, Data: []byte("a")}, {Kind: duel.Write}, {Kind: duel.Tick, N: -1}, {Kind: duel.Tick, N: 1001}, {Kind: duel.Deliver, N: 300}, {Kind: duel.Up, N: -1}}
	if n := script.Run(d, nothing...); n != 0 {
		t.Errorf("%d of these did something", n)
	}
	alike(t, d, other)
	var l []duel.Step
	for _, s := range read(t, talk) {
		l = append(append(l, nothing...), s)
	}
	if n, want := script.Run(d, l...), did(other, read(t, talk)); n != want || want == 0 {
		t.Errorf("Run = %d, want %d", n, want)
	}
	alike(t, d, other)
	// What has no line is done all the same.
	if n := script.Run(d, duel.Step{Kind: duel.Tick, Side: -7, N: 2, Mask: 3}); n != 1 {
		t.Errorf("Run = %d", n)
	}
}

// The row at once, in two parts, and step by step is the same.
func TestRunParts(t *testing.T) {
	l := read(t, talk)
	whole := newDuel(t)
	want := did(whole, l)
	if want == len(l) {
		t.Fatal("each does something")
	}
	for at := range len(l) + 1 {
		d := newDuel(t)
		one, two := script.Run(d, l[:at]...), script.Run(d, l[at:]...)
		if one+two != want || one > at {
			t.Errorf("in two at %d: %d and %d, want %d", at, one, two, want)
		}
		alike(t, d, whole)
	}
}

// Any rows against Do step by step.
func TestRunAny(t *testing.T) {
	for i := range 300 {
		c := chance(i)
		l := read(t, "up 0 0\nup 1 0\nup 0 1\nup 1 1")
		for range 100 {
			s := c.any()
			switch c.below(3) {
			case 0:
				if s.N > 0 {
					s.N = c.below(3)
				}
			case 1:
				s = duel.Step{Kind: duel.Deliver, Side: c.below(2)}
			}
			l = append(l, s)
		}
		d, other := newDuel(t), newDuel(t)
		if n, want := script.Run(d, l...), did(other, l); n != want {
			t.Fatalf("%d: %d, want %d", i, n, want)
		}
		alike(t, d, other)
		text, e := script.Print(l...)
		if e != api.OK {
			t.Fatal(i, e)
		}
		third := newDuel(t)
		script.Run(third, read(t, text)...)
		alike(t, third, other)
	}
}
