package end_test

import (
	"bytes"
	"math"
	"slices"
	"strconv"
	"strings"
	"testing"

	"haulier/api"
	"haulier/end"
	"haulier/packet"
)

// config is an ordinary one: two paths, twenty bytes that wait, a window that is not met, pieces of four bytes.
func config() api.Config {
	return api.Config{Paths: 2, Buffer: 20, Window: 100, Chunk: 4, Most: 4, First: 3, Sched: api.Quickest}
}

// with is that one, but for what change does.
func with(change func(c *api.Config)) api.Config {
	c := config()
	change(&c)
	return c
}

// pair is an End and its model.
type pair struct {
	e *end.End
	m *model
}

func newPair(t *testing.T, c api.Config, side int) pair {
	t.Helper()
	e, wrong := end.New(c, side)
	if e == nil || wrong != api.OK {
		t.Fatalf("New(%v, %d) = %v, %d", c, side, e, wrong)
	}
	return pair{e, newModel(c, side)}
}

// like sees to it that what p's End tells of itself is the model's, each time that it is asked.
func (p pair) like(t *testing.T) {
	t.Helper()
	want := p.m.state()
	if got := p.e.Events(); !p.m.sameLog(got) {
		t.Fatalf("Events() = %v, want %v", got, p.m.log)
	}
	for range 2 {
		if got := p.e.State(); !slices.Equal(got, want) {
			t.Fatalf("State() = %v, want %v", got, want)
		}
		if got := p.e.Meter(); !slices.Equal(got, p.m.meter[:]) {
			t.Fatalf("Meter() = %v, want %v", got, p.m.meter)
		}
		if p.e.Now() != p.m.now || p.e.Done() != p.m.done() || !bytes.Equal(p.e.Written(), p.m.data) {
			t.Fatalf("State() = %v, Now() = %d, Done() = %t, Written() = %q", want, p.e.Now(), p.e.Done(), p.e.Written())
		}
	}
}

// The calls of a pair see to it that the answer is the model's.

func (p pair) write(t *testing.T, b []byte) int {
	t.Helper()
	got := p.e.Write(b)
	if want := p.m.write(b); got != want {
		t.Fatalf("Write(%q) = %d, want %d", b, got, want)
	}
	return got
}

func (p pair) read(t *testing.T, n int) []byte {
	t.Helper()
	got := p.e.Read(n)
	if want := p.m.read(n); !bytes.Equal(got, want) {
		t.Fatalf("Read(%d) = %q, want %q", n, got, want)
	}
	return got
}

func (p pair) take(t *testing.T) []api.Packet {
	t.Helper()
	got := p.e.Take()
	if want := p.m.take(); !slices.EqualFunc(got, want, packet.Same) {
		t.Fatalf("Take() = %v, want %v", got, want)
	}
	return got
}

// same sees to it that a call told what its model told.
func same(t *testing.T, what string, got, want bool) bool {
	t.Helper()
	if got != want {
		t.Fatalf("%s: %t", what, got)
	}
	return got
}

func (p pair) close(t *testing.T) bool {
	t.Helper()
	return same(t, "Close", p.e.Close(), p.m.close())
}

func (p pair) tick(t *testing.T, now int) bool {
	t.Helper()
	return same(t, "Tick "+strconv.Itoa(now), p.e.Tick(now), p.m.tick(now))
}

func (p pair) up(t *testing.T, path int) bool {
	t.Helper()
	return same(t, "Up "+strconv.Itoa(path), p.e.Up(path), p.m.up(path))
}

func (p pair) down(t *testing.T, path int) bool {
	t.Helper()
	return same(t, "Down "+strconv.Itoa(path), p.e.Down(path), p.m.down(path))
}

func (p pair) come(t *testing.T, x api.Packet) bool {
	t.Helper()
	return same(t, "Come "+word(x), p.e.Come(x), p.m.come(x))
}

// kinds are the words of the kinds of packets.
func kinds() []string {
	return []string{"?", "join", "joined", "data", "ack"}
}

// word of a packet: its kind, path and number, then what that kind has; a dot behind the bytes is the Fin.
func word(p api.Packet) string {
	if p.Kind < api.Join || p.Kind > api.Ack {
		return "packet of kind " + strconv.Itoa(p.Kind)
	}
	s := kinds()[p.Kind] + " " + strconv.Itoa(p.Path) + "." + strconv.Itoa(p.Number)
	switch p.Kind {
	case api.Joined:
		s += " " + strconv.Itoa(p.Of)
	case api.Data:
		s += " " + strconv.Itoa(p.From) + " " + string(p.Data)
		if p.Fin {
			s += "."
		}
	case api.Ack:
		s += " " + text([]int{p.Of, p.Seen, p.Limit})
	}
	return s
}

// words are those of the packets, each behind a comma.
func words(list []api.Packet) string {
	s := ""
	for _, p := range list {
		s += ", " + word(p)
	}
	return s
}

// parsed is the packet of that word.
func parsed(s string) api.Packet {
	f := append(strings.Split(s, " "), "", "", "")
	path, num, _ := strings.Cut(f[1], ".")
	p := api.Packet{Kind: slices.Index(kinds(), f[0]), Path: number(path), Number: number(num)}
	switch p.Kind {
	case api.Joined:
		p.Of = number(f[2])
	case api.Data:
		data, fin := strings.CutSuffix(f[3], ".")
		p.From, p.Data, p.Fin = number(f[2]), []byte(data), fin
	case api.Ack:
		p.Of, p.Seen, p.Limit = number(f[2]), number(f[3]), number(f[4])
	}
	return p
}

// number is the one that s is; "min" and "max" are the least and the greatest int.
func number(s string) int {
	switch s {
	case "min":
		return math.MinInt
	case "max":
		return math.MaxInt
	}
	n, wrong := strconv.Atoi(s)
	if wrong != nil {
		panic("no number: " + s)
	}
	return n
}

// text is the numbers, with a blank between.
func text(list []int) string {
	var s []string
	for _, n := range list {
		s = append(s, strconv.Itoa(n))
	}
	return strings.Join(s, " ")
}

func told(yes bool) string {
	if yes {
		return "yes"
	}
	return "no"
}

// do does a step, and tells what was answered: "write" and bytes, "read" and a number, "close", "tick", "up", "down" and a number, "on" and how many ticks,
// a packet's word, which comes; "state", "meter", "done", "now", "written", and "events", each of them a digit, its kind.
func (p pair) do(t *testing.T, s string) string {
	t.Helper()
	kind, rest, _ := strings.Cut(s, " ")
	switch kind {
	case "write":
		return strconv.Itoa(p.write(t, []byte(rest)))
	case "read":
		return string(p.read(t, number(rest)))
	case "close":
		return told(p.close(t))
	case "tick":
		return told(p.tick(t, number(rest)))
	case "on":
		return told(p.tick(t, p.m.now+number(rest)))
	case "up":
		return told(p.up(t, number(rest)))
	case "down":
		return told(p.down(t, number(rest)))
	case "join", "joined", "data", "ack":
		return told(p.come(t, parsed(s)))
	case "state":
		return text(p.e.State())
	case "meter":
		return text(p.e.Meter())
	case "done":
		return told(p.e.Done())
	case "now":
		return strconv.Itoa(p.e.Now())
	case "written":
		return string(p.e.Written())
	case "events":
		return digits(p.e.Events())
	}
	t.Fatalf("no step: %q", s)
	return ""
}

// step does a step, sees to it that the End is like its model then, and tells what was answered, and behind it what was said.
func (p pair) step(t *testing.T, s string) string {
	t.Helper()
	answer := p.do(t, s)
	p.like(t)
	return answer + words(p.take(t))
}

// digits are the kinds of the events.
func digits(l []api.Event) string {
	s := ""
	for _, x := range l {
		s += strconv.Itoa(x.Kind)
	}
	return s
}

// made is a pair behind the steps, which stand with a semicolon between.
func made(t *testing.T, c api.Config, side int, steps string) pair {
	t.Helper()
	p := newPair(t, c, side)
	p.steps(t, steps)
	return p
}

func (p pair) steps(t *testing.T, steps string) {
	t.Helper()
	for _, s := range split(steps) {
		p.step(t, s)
	}
}

// split is the steps one by one.
func split(steps string) []string {
	return slices.DeleteFunc(strings.Split(steps, "; "), func(s string) bool { return s == "" })
}

// row sees to it that an End, and the model as well, answer each of the steps, "step => answer, what is said", so; of those without an answer, and of those ahead of a semicolon, any is right.
func row(t *testing.T, c api.Config, side int, steps ...string) {
	t.Helper()
	p := newPair(t, c, side)
	p.like(t)
	p.row(t, steps...)
}

func (p pair) row(t *testing.T, steps ...string) {
	t.Helper()
	for i, s := range steps {
		s, want, asked := strings.Cut(s, " =>")
		if !asked {
			p.steps(t, s)
			continue
		}
		last := strings.LastIndex("; "+s, "; ")
		p.steps(t, s[:last])
		if got := p.step(t, s[last:]); got != strings.TrimPrefix(want, " ") {
			t.Fatalf("%q, step %d: %q", steps, i, got)
		}
	}
}

// asked makes side 0's paths 0 and 1 up and joined: the next Number of each is 1.
const asked = "up 0; up 1; joined 0.0 0; joined 1.0 0"

// answered makes side 1's paths 0 and 1 up and joined: the next Number of each is 1.
const answered = "up 0; up 1; join 0.0; join 1.0"

// alone makes side 1's path 0 so.
const alone = "up 0; join 0.0"

// edges are numbers about those that anything turns on.
func edges() []int {
	return []int{
		math.MinInt, math.MinInt + 1, -1 << 62, -1 << 32, -1 << 31, -api.MaxTick, -65, -2, -1, 0, 1, 2, 3, 4, 5, 15, 16, 17, 63, 64, 65,
		399, 400, 401, 4095, 4096, 4097, 4098, 4496, 4497, api.MaxNumber - 1, api.MaxNumber, api.MaxNumber + 1, api.MaxTick - 1, api.MaxTick, api.MaxTick + 1,
		1 << 31, 1 << 32, 1<<32 + 1, 1 << 62, math.MaxInt - 1, math.MaxInt,
	}
}

// chance is a row of numbers that looks like any, and is the same each time.
type chance uint64

func (c *chance) below(n int) int {
	*c = *c*6364136223846793005 + 1442695040888963407
	return int(uint64(*c) >> 33 % uint64(n))
}

// any is a number from -1 to below n, and seldom one of the edges.
func (c *chance) any(n int) int {
	if c.below(25) == 0 {
		return edges()[c.below(len(edges()))]
	}
	return c.below(n+1) - 1
}

// filled is so many bytes, none like those about it, as those of a row that begins at the place from.
func filled(from, size int) []byte {
	b := make([]byte, size)
	for i := range b {
		b[i] = byte((from + i) * 7 % 251)
	}
	return b
}
