package duel_test

import (
	"bytes"
	"math"
	"slices"
	"strconv"
	"strings"
	"testing"

	"haulier/api"
	"haulier/duel"
	"haulier/end"
	"haulier/event"
	"haulier/packet"
)

// config is an ordinary one: two paths, twenty bytes that wait, eight that are not read, pieces of four bytes.
func config() api.Config {
	return api.Config{Paths: 2, Buffer: 20, Window: 8, Chunk: 4, Most: 4, First: 3, Sched: api.Quickest}
}

// with is that one, but for what change does.
func with(change func(c *api.Config)) api.Config {
	c := config()
	change(&c)
	return c
}

// edges are numbers about those that anything turns on.
func edges() []int {
	return []int{
		math.MinInt, math.MinInt + 1, -1 << 62, -1 << 32, -1 << 31, -1000, -201, -200, -65, -3, -2, -1, 0, 1, 2, 3, 4, 5, 10, 11, 12, 65,
		199, 200, 201, 255, 256, 257, 400, 401, 999, 1000, 1001, 4095, 4096, 4097, api.MaxTick - 1, api.MaxTick, api.MaxTick + 1,
		1 << 31, 1 << 32, 1<<32 + 1, 1<<32 + 4, 1 << 62, math.MaxInt - 1, math.MaxInt,
	}
}

// pair is a Duel, and the model of it.
type pair struct {
	d *duel.Duel
	m *model
}

func newPair(t *testing.T, c api.Config) pair {
	t.Helper()
	d, e := duel.New(c)
	if d == nil || e != api.OK {
		t.Fatalf("New(%v) = %v, %d", c, d, e)
	}
	return pair{d, newModel(c)}
}

// sameEnd sees to it that an end is as another one.
func sameEnd(t *testing.T, got, want *end.End) {
	t.Helper()
	if l, w := got.Events(), want.Events(); !event.All(l, w) {
		t.Fatalf("Events() = %v, want %v", l, w)
	}
	if !slices.Equal(got.State(), want.State()) || !slices.Equal(got.Meter(), want.Meter()) || got.Now() != want.Now() || got.Done() != want.Done() {
		t.Fatalf("State() = %v, Meter() = %v, want %v, %v", got.State(), got.Meter(), want.State(), want.Meter())
	}
}

// like sees to it that all that p's Duel tells is the model's, each time that it is asked.
func (p pair) like(t *testing.T) {
	t.Helper()
	for side := range 2 {
		sameEnd(t, p.d.End(side), p.m.ends[side])
		for range 2 {
			if got := p.d.Delivered(side); string(got) != p.m.got[side] {
				t.Fatalf("Delivered(%d) = %q, want %q", side, got, p.m.got[side])
			}
		}
		under := p.m.to(side)
		if got := p.d.Net().Len(side); got != len(under) {
			t.Fatalf("%d are under way to %d, want %d", got, side, len(under))
		}
		for at, x := range under {
			if b, ok := p.d.Net().Get(side, at); !ok || !bytes.Equal(b, x.b) {
				t.Fatalf("under way to %d, at %d: %x, %t, want %x", side, at, b, ok, x.b)
			}
		}
	}
	if p.d.Done() != p.m.done() {
		t.Fatalf("Done() = %t", p.d.Done())
	}
}

// do sees to it that Do answers what the model answers.
func (p pair) do(t *testing.T, s duel.Step) bool {
	t.Helper()
	got := p.d.Do(s)
	if want := p.m.do(s); got != want {
		t.Fatalf("Do(%v) = %t", s, got)
	}
	return got
}

func (p pair) round(n int) {
	p.d.Round(n)
	p.m.round(n)
}

// kinds are the words of the kinds of steps, each at its number.
func kinds() []string {
	return []string{"?", "write", "read", "close", "tick", "up", "down", "deliver", "drop", "again", "spoil"}
}

// parsed is the step of these words: its kind, then its numbers, or its bytes.
func parsed(s string) duel.Step {
	w := append(strings.Split(s, " "), "0", "0", "0", "0")
	step := duel.Step{Kind: slices.Index(kinds(), w[0])}
	if step.Kind < 0 {
		panic("no step: " + s)
	}
	if step.Kind == duel.Tick {
		step.N = number(w[1])
		return step
	}
	step.Side = number(w[1])
	if step.Kind == duel.Write {
		_, rest, _ := strings.Cut(s, " ")
		_, data, _ := strings.Cut(rest, " ")
		step.Data = []byte(data)
		return step
	}
	step.N, step.Bit, step.Mask = number(w[2]), number(w[3]), uint32(number(w[4]))
	return step
}

func number(s string) int {
	n, wrong := strconv.Atoi(s)
	if wrong != nil {
		panic("no number: " + s)
	}
	return n
}

// step does what the words say, and tells whether something was done (a round: yes).
func (p pair) step(t *testing.T, s string) bool {
	t.Helper()
	if n, ok := strings.CutPrefix(s, "round "); ok {
		p.round(number(n))
		return true
	}
	return p.do(t, parsed(s))
}

// steps does all of them, which stand with a semicolon between.
func (p pair) steps(t *testing.T, all string) {
	t.Helper()
	for _, s := range split(all) {
		p.step(t, s)
		p.like(t)
	}
}

func split(steps string) []string {
	return slices.DeleteFunc(strings.Split(steps, "; "), func(s string) bool { return s == "" })
}

// behind is a pair behind the steps.
func behind(t *testing.T, c api.Config, steps string) pair {
	t.Helper()
	p := newPair(t, c)
	p.steps(t, steps)
	return p
}

// word of bytes that are under way: the packet's kind, path and number, then what that kind has, a dot behind the bytes for Fin; "?": they are none.
func word(b []byte) string {
	p, e := packet.Unpack(b)
	if e != api.OK {
		return "?"
	}
	at := " " + strconv.Itoa(p.Path) + "." + strconv.Itoa(p.Number)
	switch p.Kind {
	case api.Join:
		return "join" + at
	case api.Joined:
		return "joined" + at + " " + strconv.Itoa(p.Of)
	case api.Ack:
		return "ack" + at + " " + strconv.Itoa(p.Of) + " " + strconv.Itoa(p.Seen) + " " + strconv.Itoa(p.Limit)
	}
	s := "data" + at + " " + strconv.Itoa(p.From) + " " + string(p.Data)
	if p.Fin {
		s += "."
	}
	return s
}

// under is what is under way to each side: [to side 0] [to side 1].
func under(d *duel.Duel) string {
	var all []string
	for side := range 2 {
		var l []string
		for at := range d.Net().Len(side) {
			b, _ := d.Net().Get(side, at)
			l = append(l, word(b))
		}
		all = append(all, "["+strings.Join(l, ", ")+"]")
	}
	return strings.Join(all, " ")
}

func told(yes bool) string {
	if yes {
		return "yes"
	}
	return "no"
}

// row sees to it that each of the steps, "step => yes or no, what is under way then", is so; of those without an answer, and of those ahead of a semicolon, any is right.
func (p pair) row(t *testing.T, steps ...string) {
	t.Helper()
	for i, s := range steps {
		s, want, asked := strings.Cut(s, " => ")
		all := split(s)
		if !asked {
			p.steps(t, s)
			continue
		}
		last := len(all) - 1
		p.steps(t, strings.Join(all[:last], "; "))
		got := told(p.step(t, all[last])) + " " + under(p.d)
		p.like(t)
		if got != want {
			t.Fatalf("%q, step %d: %s, want %s", s, i, got, want)
		}
	}
}

func row(t *testing.T, c api.Config, steps ...string) {
	t.Helper()
	p := newPair(t, c)
	p.like(t)
	p.row(t, steps...)
}

// account is all that a Duel tells, in memory of its own.
type account struct {
	events    [2][]api.Event
	state     [2][]int
	meter     [2][]int
	written   [2]string
	under     [2][]string
	delivered [2]string
	done      bool
}

func tell(d *duel.Duel) account {
	a := account{done: d.Done()}
	for side := range 2 {
		e := d.End(side)
		a.events[side], a.state[side], a.meter[side], a.written[side] = e.Events(), e.State(), e.Meter(), string(e.Written())
		for at := range d.Net().Len(side) {
			b, _ := d.Net().Get(side, at)
			a.under[side] = append(a.under[side], string(b))
		}
		a.delivered[side] = string(d.Delivered(side))
	}
	return a
}

func (a account) same(b account) bool {
	for side := range 2 {
		if !event.All(a.events[side], b.events[side]) || !slices.Equal(a.state[side], b.state[side]) || !slices.Equal(a.meter[side], b.meter[side]) || !slices.Equal(a.under[side], b.under[side]) {
			return false
		}
	}
	return a.written == b.written && a.delivered == b.delivered && a.done == b.done
}

// nothing sees to it that s does nothing: it is false, and leaves all as it was.
func (p pair) nothing(t *testing.T, s duel.Step) {
	t.Helper()
	before := tell(p.d)
	if p.do(t, s) {
		t.Errorf("Do(%v) = true", s)
	}
	if !before.same(tell(p.d)) {
		t.Errorf("Do(%v) is false, and changed something", s)
	}
	p.like(t)
}

// something sees to it that s does something: it is true, and all is not as it was.
func (p pair) something(t *testing.T, s duel.Step) {
	t.Helper()
	before := tell(p.d)
	if !p.do(t, s) {
		t.Errorf("Do(%v) = false", s)
	}
	if before.same(tell(p.d)) {
		t.Errorf("Do(%v) is true, and changed nothing", s)
	}
	p.like(t)
}

// joined makes the path 0 up and joined at both sides: the next Number of each is 1, and nothing is under way.
const joined = "up 0 0; up 1 0; deliver 1 0; deliver 0 0"

// busy is joined, with two pieces of abcdefgh under way to side 1, and two of ABCDEFGH to side 0.
const busy = joined + "; write 0 abcdefgh; write 1 ABCDEFGH"

// chance is a row of numbers that looks like any, and is the same each time.
type chance uint64

func (c *chance) below(n int) int {
	*c = *c*6364136223846793005 + 1442695040888963407
	return int(uint64(*c) >> 33 % uint64(n))
}

// filled is so many bytes, none like those about it.
func filled(from, size int) []byte {
	b := make([]byte, size)
	for i := range b {
		b[i] = byte((from + i) * 7 % 251)
	}
	return b
}
