package path_test

import (
	"math"
	"math/big"
	"slices"
	"strconv"
	"strings"
	"testing"

	"haulier/api"
	"haulier/flight"
	"haulier/path"
)

// model is a Path made by other means: it keeps all that was answered and lost, goes through that for each answer, and reckons without bounds.
type model struct {
	first, most        int
	up, joined, behind bool
	sent               int
	out                []flight.Out
	took               []int  // what each answer took
	lates              int    // how often some were late since the last answer
	acts               []byte // 'a': an answer; 'l': a loss
}

// within is a less b, or the one of least and most that it is past.
func within(a, b, least, most int) int {
	n := new(big.Int).Sub(big.NewInt(int64(a)), big.NewInt(int64(b)))
	if n.Cmp(big.NewInt(int64(least))) < 0 {
		return least
	}
	if n.Cmp(big.NewInt(int64(most))) > 0 {
		return most
	}
	return int(n.Int64())
}

func (m *model) mean() int {
	mean, _ := m.guess()
	return mean
}

func (m *model) guess() (mean, spread int) {
	for i, n := range m.took {
		if i == 0 {
			mean, spread = n, n/2
			continue
		}
		far := mean - n
		if far < 0 {
			far = -far
		}
		spread = (spread*3 + far) / 4
		mean = (mean*7 + n) / 8
	}
	return mean, spread
}

func (m *model) wait() int {
	wait := within(m.first, 0, 1, 64)
	if mean, spread := m.guess(); len(m.took) > 0 {
		wait = mean + 1
		if spread > 0 {
			wait = mean + 4*spread
		}
	}
	for i := 0; i < m.lates && i < 6; i++ {
		wait *= 2
	}
	return within(wait, 0, 1, 64)
}

func (m *model) size() int {
	most := within(m.most, 0, 1, 16)
	size, turn, count := min(2, most), most, 0
	for _, act := range m.acts {
		switch {
		case act == 'l':
			turn = max(size/2, 1)
			size, count = turn, 0
		case size < turn:
			size++
		case count+1 < size:
			count++
		default:
			size, count = min(size+1, most), 0
		}
	}
	return size
}

func (m *model) usable() bool {
	return m.up && m.joined && len(m.out) < m.size() && m.sent < 1<<16
}

func (m *model) find(number int) int {
	return slices.IndexFunc(m.out, func(o flight.Out) bool { return o.Number == number })
}

func (m *model) add(o flight.Out) bool {
	if m.find(o.Number) >= 0 {
		return false
	}
	m.out = append(m.out, o)
	return true
}

func (m *model) acked(number, now int) bool {
	i := m.find(number)
	if i < 0 {
		return false
	}
	m.took = append(m.took, within(now, m.out[i].At, 0, 1<<20))
	m.out = slices.Concat(m.out[:i], m.out[i+1:])
	m.acts = append(m.acts, 'a')
	m.lates, m.behind = 0, false
	return true
}

func (m *model) late(now int) []flight.Out {
	last := new(big.Int).Sub(big.NewInt(int64(now)), big.NewInt(int64(m.wait())))
	var gone, left []flight.Out
	for _, o := range m.out {
		if big.NewInt(int64(o.At)).Cmp(last) <= 0 {
			gone = append(gone, o)
		} else {
			left = append(left, o)
		}
	}
	m.out = left
	if len(gone) > 0 {
		m.acts = append(m.acts, 'l')
		m.lates++
		m.behind = true
	}
	return gone
}

func (m *model) down() []flight.Out {
	if !m.up {
		return nil
	}
	gone := m.out
	m.up, m.out = false, nil
	return gone
}

func (m *model) state() []int {
	digit := map[bool]int{true: 1}
	s := []int{digit[m.up], digit[m.joined], digit[m.behind], m.sent, m.mean(), m.wait(), m.size(), len(m.out)}
	for _, o := range m.out {
		s = append(s, o.Number, o.From, o.To, o.At)
	}
	return s
}

// pair is a Path and its model.
type pair struct {
	p *path.Path
	m *model
}

func newPair(c api.Config) pair {
	return pair{path.New(c), &model{first: c.First, most: c.Most}}
}

// config is an ordinary one, but for these.
func config(first, most int) api.Config {
	return api.Config{Paths: 2, Buffer: 90, Window: 80, Chunk: 9, Most: most, First: first, Sched: api.Round}
}

// like sees to it that what p's Path tells of itself is the model's, each time that it is asked.
func (p pair) like(t *testing.T) {
	t.Helper()
	want := p.m.state()
	for range 2 {
		if got := p.p.State(); !slices.Equal(got, want) {
			t.Fatalf("State() = %v, want %v", got, want)
		}
		if got := p.p.Usable(); got != p.m.usable() {
			t.Fatalf("State() = %v, Usable() = %t", want, got)
		}
		if p.p.IsUp() != p.m.up || p.p.Joined() != p.m.joined || p.p.Behind() != p.m.behind {
			t.Fatalf("State() = %v, IsUp() = %t, Joined() = %t, Behind() = %t", want, p.p.IsUp(), p.p.Joined(), p.p.Behind())
		}
		if p.p.Sent() != p.m.sent || p.p.Mean() != want[4] || p.p.Len() != len(p.m.out) {
			t.Fatalf("State() = %v, Sent() = %d, Mean() = %d, Len() = %d", want, p.p.Sent(), p.p.Mean(), p.p.Len())
		}
	}
}

// The calls of a pair see to it that the answer is the model's, and so is what the Path tells of itself behind it.

func (p pair) up(t *testing.T) bool {
	t.Helper()
	got := p.p.Up()
	if got == p.m.up {
		t.Fatalf("Up() = %t", got)
	}
	p.m.up = true
	p.like(t)
	return got
}

func (p pair) join(t *testing.T) bool {
	t.Helper()
	got := p.p.Join()
	if got == p.m.joined {
		t.Fatalf("Join() = %t", got)
	}
	p.m.joined = true
	p.like(t)
	return got
}

func (p pair) down(t *testing.T) []flight.Out {
	t.Helper()
	got := p.p.Down()
	if want := p.m.down(); !slices.Equal(got, want) {
		t.Fatalf("Down() = %v, want %v", got, want)
	}
	p.like(t)
	return got
}

func (p pair) number(t *testing.T) (int, bool) {
	t.Helper()
	got, ok := p.p.Number()
	if p.m.sent < 1<<16 {
		if got != p.m.sent || !ok {
			t.Fatalf("Number() = %d, %t, want %d", got, ok, p.m.sent)
		}
		p.m.sent++
	} else if got != 0 || ok {
		t.Fatalf("Number() = %d, %t, and none is left", got, ok)
	}
	p.like(t)
	return got, ok
}

func (p pair) out(t *testing.T, o flight.Out) bool {
	t.Helper()
	got := p.p.Out(o)
	if want := p.m.add(o); got != want {
		t.Fatalf("Out(%v) = %t, want %t", o, got, want)
	}
	p.like(t)
	return got
}

func (p pair) acked(t *testing.T, number, now int) bool {
	t.Helper()
	got := p.p.Acked(number, now)
	if want := p.m.acked(number, now); got != want {
		t.Fatalf("Acked(%d, %d) = %t, want %t", number, now, got, want)
	}
	p.like(t)
	return got
}

func (p pair) late(t *testing.T, now int) []flight.Out {
	t.Helper()
	got := p.p.Late(now)
	if want := p.m.late(now); !slices.Equal(got, want) {
		t.Fatalf("Late(%d) = %v, want %v", now, got, want)
	}
	p.like(t)
	return got
}

// number is the one that s is; "min" and "max" are the least and the greatest int.
func number(s string) int {
	switch s {
	case "min":
		return math.MinInt
	case "max":
		return math.MaxInt
	}
	n, _ := strconv.Atoi(s)
	return n
}

// text is the numbers, with a blank between.
func text(list []int) string {
	var s []string
	for _, n := range list {
		s = append(s, strconv.Itoa(n))
	}
	return strings.Join(s, " ")
}

// names are the Numbers of the list, with a blank between.
func names(list []flight.Out) string {
	var s []int
	for _, o := range list {
		s = append(s, o.Number)
	}
	return text(s)
}

func said(yes bool) string {
	if yes {
		return "yes"
	}
	return "no"
}

// step does a step, and tells what was answered: "up", "down", "join", "number", "usable", "state";
// "out" and a Number and an At is Out, its places of these; "sent" and an At is Number, and Out of that;
// "ack" and a Number and a tick is Acked; "late" and a tick is Late.
func (p pair) step(t *testing.T, s string) string {
	t.Helper()
	word, numbers, _ := strings.Cut(s, " ")
	left, right, _ := strings.Cut(numbers, ",")
	a, b := number(left), number(right)
	switch word {
	case "up":
		return said(p.up(t))
	case "down":
		return names(p.down(t))
	case "join":
		return said(p.join(t))
	case "number":
		if n, ok := p.number(t); ok {
			return strconv.Itoa(n)
		}
		return "none"
	case "out":
		return said(p.out(t, flight.Out{Number: a, From: 100 + a, To: 200 - b, At: b}))
	case "sent":
		n, ok := p.number(t)
		return said(ok && p.out(t, flight.Out{Number: n, From: 100 + n, To: 200 - a, At: a}))
	case "ack":
		return said(p.acked(t, a, b))
	case "late":
		return names(p.late(t, a))
	case "usable":
		return said(p.p.Usable())
	case "state":
		return text(p.p.State())
	}
	t.Fatalf("no step: %q", s)
	return ""
}

// made is a pair behind the steps, which stand with a semicolon between.
func made(t *testing.T, c api.Config, steps string) pair {
	t.Helper()
	p := newPair(c)
	for _, s := range strings.Split(steps, "; ") {
		if s != "" {
			p.step(t, s)
		}
	}
	return p
}

// row sees to it that a new Path, and the model as well, answer each of the steps, "step: answer", so; of a step with no answer any is right.
func row(t *testing.T, c api.Config, steps ...string) {
	t.Helper()
	p := newPair(c)
	p.like(t)
	for i, s := range steps {
		s, want, asked := strings.Cut(s, ":")
		if got := p.step(t, s); asked && got != strings.TrimSpace(want) {
			t.Fatalf("%q, step %d: %q", steps, i, got)
		}
	}
}

// edges are numbers about those that anything turns on.
func edges() []int {
	return []int{
		math.MinInt, math.MinInt + 1, -1 << 62, -1 << 32, -1 << 31, -api.MaxTick, -65, -2, -1, 0, 1, 2, 15, 16, 17, 63, 64, 65,
		api.MaxNumber - 1, api.MaxNumber, api.MaxNumber + 1, api.MaxTick - 1, api.MaxTick, api.MaxTick + 1, 1 << 31, 1 << 32, 1<<32 + 3, 1 << 62, math.MaxInt - 1, math.MaxInt,
	}
}

// Each answer of a new one.
func TestNew(t *testing.T) {
	row(t, config(6, 4), "state: 0 0 0 0 0 6 2 0", "usable: no", "down:", "late max:", "ack 0,5: no", "state: 0 0 0 0 0 6 2 0")
	row(t, config(6, 4), "down:", "up: yes")
	row(t, config(6, 4), "up: yes")
	row(t, config(6, 4), "join: yes")
	row(t, config(6, 4), "number: 0")
	row(t, config(6, 4), "out 0,0: yes")
	p := newPair(config(6, 4))
	for _, n := range edges() {
		if p.late(t, n) != nil || p.acked(t, n, 0) || p.acked(t, 0, n) {
			t.Errorf("%d: a new one has some out", n)
		}
	}
	if p.p.IsUp() || p.p.Joined() || p.p.Usable() || p.p.Behind() || p.p.Mean() != 0 || p.p.Len() != 0 || p.p.Sent() != 0 || len(p.p.Down()) != 0 {
		t.Error(p.p.State())
	}
}

// Up and Join, once and twice, in each order; neither has anything of the other.
func TestUpJoin(t *testing.T) {
	row(t, config(6, 4), "up: yes", "state: 1 0 0 0 0 6 2 0", "up: no", "state: 1 0 0 0 0 6 2 0", "up: no", "usable: no")
	row(t, config(6, 4), "join: yes", "state: 0 1 0 0 0 6 2 0", "join: no", "state: 0 1 0 0 0 6 2 0", "join: no", "usable: no")
	row(t, config(6, 4), "up: yes", "join: yes", "up: no", "join: no", "usable: yes", "state: 1 1 0 0 0 6 2 0")
	row(t, config(6, 4), "join: yes", "up: yes", "join: no", "up: no", "usable: yes", "state: 1 1 0 0 0 6 2 0")
	row(t, config(6, 4), "up: yes", "down:", "join: yes", "up: yes", "usable: yes", "down:", "join: no", "up: yes", "up: no", "usable: yes")
	// What is out plays no part.
	row(t, config(6, 4), "sent 1: yes", "sent 2: yes", "up: yes", "join: yes", "up: no", "join: no", "state: 1 1 0 2 0 6 2 2 0 100 199 1 1 101 198 2")
}

// Down of one that is down, of one with none, one, many out, and Down behind Down.
func TestDown(t *testing.T) {
	row(t, config(6, 4), "down:", "down:", "state: 0 0 0 0 0 6 2 0")
	row(t, config(6, 4), "join", "down:", "state: 0 1 0 0 0 6 2 0", "down:")
	row(t, config(6, 4), "up", "down:", "state: 0 0 0 0 0 6 2 0", "down:", "up: yes", "down:", "up: yes")
	row(t, config(6, 4), "up", "join", "sent 3", "down: 0", "state: 0 1 0 1 0 6 2 0", "down:", "state: 0 1 0 1 0 6 2 0", "ack 0,4: no", "late 99:")
	row(t, config(6, 4), "up", "join", "sent 3", "sent 3", "sent 4", "sent 4", "sent 9", "down: 0 1 2 3 4", "state: 0 1 0 5 0 6 2 0", "down:")
	// Not joined; and of one with some that went otherwise.
	row(t, config(6, 4), "up", "sent 3", "sent 3", "down: 0 1", "down:", "state: 0 0 0 2 0 6 2 0")
	row(t, config(6, 4), "up", "join", "sent 3", "sent 3", "sent 4", "ack 1,5", "down: 0 2", "state: 0 1 0 3 2 6 3 0", "down:")
	row(t, config(6, 4), "up", "join", "sent 3", "sent 4", "sent 4", "late 9: 0", "down: 1 2", "state: 0 1 1 3 0 12 1 0", "down:")
	row(t, config(6, 4), "up", "sent 3", "ack 0,3", "down:")
	// In the order in which they went out.
	row(t, config(6, 4), "up", "out 5,3", "out 1,9", "out 3,6", "out 1,2: no", "down: 5 1 3", "down:")
}

// What goes by Down goes whole: its places, and the tick when it was sent.
func TestDownWhole(t *testing.T) {
	p := newPair(config(6, 4))
	p.up(t)
	list := []flight.Out{{Number: 3, From: 1, To: 9, At: 2}, {Number: 2, From: 9, To: 9, At: 5}, {Number: -4, From: math.MinInt, To: math.MaxInt, At: -1}}
	for _, o := range list {
		p.out(t, o)
	}
	if got := p.down(t); !slices.Equal(got, list) {
		t.Error(got)
	}
}

// Up again, all but what was out is as it was: joined or not, its numbers, its mean, its wait, its size, whether it is behind.
func TestUpAgain(t *testing.T) {
	row(t, config(6, 9), "up", "join", "sent 3", "sent 4", "ack 0,11", "sent 12", "state: 1 1 0 3 8 24 3 2 1 101 196 4 2 102 188 12",
		"down: 1 2", "state: 0 1 0 3 8 24 3 0", "usable: no", "up: yes", "state: 1 1 0 3 8 24 3 0", "usable: yes", "number: 3", "join: no")
	// Behind; the wait has grown, and the size is less.
	row(t, config(6, 9), "up", "join", "sent 3", "sent 4", "late 9: 0", "down: 1", "state: 0 1 1 2 0 12 1 0", "up: yes", "state: 1 1 1 2 0 12 1 0",
		"sent 9", "usable: no", "late 20:", "late 21: 2", "state: 1 1 1 3 0 24 1 0")
	// Not joined.
	row(t, config(6, 9), "up", "sent 3", "down: 0", "up: yes", "state: 1 0 0 1 0 6 2 0", "usable: no", "join: yes", "usable: yes")
	// What went by Down may go out again; its old answer is none.
	row(t, config(6, 9), "up", "sent 3", "down: 0", "up", "ack 0,5: no", "out 0,7: yes", "ack 0,8: yes", "state: 1 0 0 1 1 2 3 0")
	// The slow growth behind a loss goes on where it was.
	row(t, config(6, 9), "up", "sent 0", "sent 0", "ack 0,1", "ack 1,1", "state: 1 0 0 2 1 2 4 0", "sent 5", "late 9: 2", "state: 1 0 1 3 1 4 2 0",
		"sent 9", "ack 3,10", "state: 1 0 0 4 1 2 2 0", "down:", "up", "sent 12", "ack 4,13", "state: 1 0 0 5 1 2 3 0")
}

// One that is down has what Out tells it then, and Down, of one that is down, is none: nothing is changed.
func TestOutWhileDown(t *testing.T) {
	row(t, config(6, 4), "sent 3: yes", "state: 0 0 0 1 0 6 2 1 0 100 197 3", "down:", "state: 0 0 0 1 0 6 2 1 0 100 197 3", "ack 0,7: yes", "state: 0 0 0 1 4 12 3 0")
	row(t, config(6, 4), "sent 3", "sent 5", "down:", "late 9: 0", "state: 0 0 1 2 0 12 1 1 1 101 195 5", "down:", "up", "down: 1", "down:", "state: 0 0 1 2 0 12 1 0")
	row(t, config(6, 4), "up", "down:", "sent 3", "down:", "out 0,9: no", "up: yes", "down: 0")
}

// Number: from 0 on, whether it is up or down, joined or not, with room or without; Sent is how many.
func TestNumber(t *testing.T) {
	row(t, config(6, 4), "number: 0", "number: 1", "up", "number: 2", "join", "number: 3", "down", "number: 4", "number: 5", "state: 0 1 0 6 0 6 2 0")
	row(t, config(6, 4), "join", "number: 0", "number: 1", "up", "number: 2")
	row(t, config(6, 4), "up", "join", "sent 1", "sent 1", "usable: no", "number: 2", "sent 1", "number: 4", "ack 3,2", "number: 5", "late 9: 0 1", "number: 6")
	// Neither Out nor Acked has anything of it.
	row(t, config(6, 4), "out 7,1", "number: 0", "ack 7,2", "number: 1", "out 1,1", "out 0,1", "number: 2", "state: 0 0 0 3 1 2 3 2 1 101 199 1 0 100 199 1")
}

// To MaxNumber, and past it: none is left, and one that has none can't be used; all else goes on.
func TestLastNumber(t *testing.T) {
	for _, steps := range []string{"", "up; join", "join", "up; down", "up; join; out -1,1; out -2,1", "up; join; down"} {
		p := made(t, config(6, 4), steps)
		for i := range api.MaxNumber {
			if n, ok := p.p.Number(); n != i || !ok {
				t.Fatalf("Number() = %d, %t, want %d", n, ok, i)
			}
		}
		p.m.sent = api.MaxNumber
		p.like(t)
		if n, ok := p.number(t); n != api.MaxNumber || !ok || p.p.Sent() != 1<<16 {
			t.Errorf("%q: the last one: %d, %t", steps, n, ok)
		}
		for range 3 {
			if n, ok := p.number(t); n != 0 || ok || p.p.Sent() != 1<<16 || p.p.Usable() {
				t.Errorf("%q: past the last one: %d, %t", steps, n, ok)
			}
		}
		for _, s := range []string{"up", "join", "number", "out 65535,5", "out 65536,5", "ack 65535,7", "number", "late 12", "down", "number", "up", "out 3,1", "number", "ack 3,2", "number"} {
			p.step(t, s)
			if p.p.Usable() {
				t.Errorf("%q: usable behind %q", steps, s)
			}
		}
	}
}

// With one Number left it can be used, with none it can't.
func TestUsableToTheLastNumber(t *testing.T) {
	p := made(t, config(6, 4), "up; join")
	for i := range 1 << 16 {
		if !p.p.Usable() {
			t.Fatalf("not usable ahead of the Number %d", i)
		}
		p.p.Number()
	}
	if p.p.Usable() {
		t.Error("usable, and no Number is left")
	}
}

// Usable: up, joined, and with room; room again behind an answer and behind a loss.
func TestUsable(t *testing.T) {
	row(t, config(6, 4), "usable: no", "up", "usable: no", "join", "usable: yes", "down", "usable: no", "up", "usable: yes")
	row(t, config(6, 4), "join", "usable: no", "up", "usable: yes")
	row(t, config(6, 4), "up", "join", "sent 1", "usable: yes", "sent 1", "usable: no", "ack 0,2", "usable: yes", "sent 2", "usable: yes", "sent 2", "usable: no")
	// More out than there is room for.
	row(t, config(6, 4), "up", "join", "sent 1", "sent 1", "sent 1", "sent 1", "usable: no", "ack 0,2", "usable: no", "ack 1,2", "usable: yes", "sent 2", "sent 2", "usable: no")
	// A loss halves the room, and what was late takes none of it.
	row(t, config(6, 4), "up", "join", "sent 1", "sent 1", "usable: no", "late 7: 0 1", "usable: yes", "sent 7", "usable: no")
	row(t, config(6, 4), "up", "join", "sent 1", "sent 2", "usable: no", "late 7: 0", "usable: no", "ack 1,7", "usable: yes")
	row(t, config(6, 4), "up", "join", "sent 1", "sent 2", "late 7: 0", "usable: no", "late 13:", "usable: no", "late 14: 1", "usable: yes")
	// Down gives all room back.
	row(t, config(6, 4), "up", "join", "sent 1", "sent 1", "usable: no", "down: 0 1", "usable: no", "up", "usable: yes")
	// With room, it may be behind.
	row(t, config(6, 4), "up", "join", "sent 1", "late 7: 0", "state: 1 1 1 1 0 12 1 0", "usable: yes")
	// With room for one alone.
	row(t, config(6, 1), "up", "join", "usable: yes", "sent 1", "usable: no", "ack 0,2", "usable: yes", "sent 3", "usable: no", "late 9: 1", "usable: yes")
	// Out of one that is out already takes no room.
	row(t, config(6, 4), "up", "join", "out 3,1", "out 3,1: no", "out 3,2: no", "usable: yes", "out 4,1: yes", "usable: no")
}

// Out: of a number that is out already, of one that was, of one that Number never told.
func TestOut(t *testing.T) {
	row(t, config(6, 4), "up", "join", "sent 1", "out 0,1: no", "out 0,7: no", "state: 1 1 0 1 0 6 2 1 0 100 199 1", "sent 2", "out 1,2: no", "out 0,2: no", "state: 1 1 0 2 0 6 2 2 0 100 199 1 1 101 198 2")
	row(t, config(6, 4), "up", "sent 1", "ack 0,2", "out 0,3: yes", "out 0,3: no", "ack 0,4: yes")
	row(t, config(6, 4), "up", "sent 1", "late 7: 0", "out 0,8: yes", "out 0,8: no", "late 20: 0")
	row(t, config(6, 4), "up", "sent 1", "down: 0", "out 0,8: yes", "out 0,9: no")
	for _, n := range edges() {
		p := made(t, config(6, 4), "up; join; number")
		o := flight.Out{Number: n, From: -n, To: n ^ 5, At: 3}
		if !p.out(t, o) || p.out(t, o) || p.out(t, flight.Out{Number: n}) || p.p.Sent() != 1 {
			t.Errorf("Out of the Number %d", n)
		}
		if !p.acked(t, n, 5) || p.acked(t, n, 5) || p.p.Mean() != 2 {
			t.Errorf("Acked of the Number %d", n)
		}
		if !p.out(t, o) || !slices.Equal(p.late(t, math.MaxInt), []flight.Out{o}) {
			t.Errorf("Late of the Number %d", n)
		}
	}
}

// Acked: of one that is out, twice, of one that was late or dropped, of one that there is not, below 0.
func TestAcked(t *testing.T) {
	row(t, config(6, 4), "up", "join", "sent 1", "sent 1", "sent 1", "ack 1,5: yes", "state: 1 1 0 3 4 12 3 2 0 100 199 1 2 102 199 1",
		"ack 1,5: no", "ack 1,9: no", "ack 3,9: no", "ack -1,9: no", "ack min,9: no", "ack max,9: no", "ack 65536,9: no", "ack 4294967296,9: no",
		"state: 1 1 0 3 4 12 3 2 0 100 199 1 2 102 199 1", "ack 2,5: yes", "ack 0,5: yes", "ack 0,5: no", "ack 2,5: no", "state: 1 1 0 3 4 5 4 0")
	row(t, config(6, 4), "up", "join", "sent 1", "sent 2", "late 7: 0", "ack 0,8: no", "state: 1 1 1 2 0 12 1 1 1 101 198 2", "ack 1,8: yes", "state: 1 1 0 2 6 18 2 0", "ack 0,8: no")
	row(t, config(6, 4), "up", "join", "sent 1", "sent 2", "down: 0 1", "ack 0,8: no", "ack 1,8: no", "state: 0 1 0 2 0 6 2 0", "up", "ack 0,8: no", "ack 1,8: no", "state: 1 1 0 2 0 6 2 0")
	// A number that was given, and did not go out.
	row(t, config(6, 4), "up", "join", "number: 0", "ack 0,8: no", "state: 1 1 0 1 0 6 2 0")
	// Below 0, and it is out.
	row(t, config(6, 4), "out -1,4", "ack 0,8: no", "ack 1,8: no", "ack -1,8: yes", "ack -1,8: no")
}

// What an answer took: now less At, of the one that was answered; ahead of it counts as 0, and what is past MaxTick as that.
func TestAckedTook(t *testing.T) {
	for _, r := range []struct{ at, now, mean, wait int }{
		{10, 10, 0, 1}, {0, 0, 0, 1}, {10, 11, 1, 2}, {10, 12, 2, 6}, {10, 13, 3, 7}, {10, 18, 8, 24}, {10, 31, 21, 61}, {10, 32, 22, 64}, {10, 74, 64, 64}, {10, 75, 65, 64}, {10, 10000, 9990, 64},
		{10, 9, 0, 1}, {10, 0, 0, 1}, {10, -1, 0, 1}, {-10, -11, 0, 1}, {-10, -9, 1, 2}, {-10, 0, 10, 30}, {-1, 0, 1, 2},
		{0, api.MaxTick - 1, api.MaxTick - 1, 64}, {0, api.MaxTick, api.MaxTick, 64}, {0, api.MaxTick + 1, api.MaxTick, 64}, {1, api.MaxTick, api.MaxTick - 1, 64}, {-1, api.MaxTick, api.MaxTick, 64},
		{0, math.MaxInt, api.MaxTick, 64}, {-1, math.MaxInt, api.MaxTick, 64}, {-2, math.MaxInt - 1, api.MaxTick, 64}, {math.MinInt, math.MaxInt, api.MaxTick, 64}, {math.MinInt, 0, api.MaxTick, 64}, {math.MinInt, -1, api.MaxTick, 64},
		{1, math.MinInt, 0, 1}, {0, math.MinInt, 0, 1}, {2, math.MinInt + 1, 0, 1}, {math.MaxInt, math.MinInt, 0, 1}, {math.MaxInt, -2, 0, 1}, {math.MaxInt, 0, 0, 1}, {math.MaxInt, math.MaxInt, 0, 1}, {math.MinInt, math.MinInt, 0, 1},
		{math.MaxInt - 3, math.MaxInt, 3, 7}, {math.MinInt, math.MinInt + 3, 3, 7}, {1 << 32, 1<<32 + 3, 3, 7}, {0, 1 << 32, api.MaxTick, 64}, {0, 1<<32 + 3, api.MaxTick, 64},
	} {
		p := made(t, config(6, 4), "up; join")
		p.out(t, flight.Out{Number: 5, At: 77})
		p.out(t, flight.Out{Number: 0, At: r.at})
		p.out(t, flight.Out{Number: 7, At: -77})
		if !p.acked(t, 0, r.now) || p.p.Mean() != r.mean || p.p.State()[5] != r.wait {
			t.Errorf("%v: %v", r, p.p.State())
		}
	}
}

// Each of the edges as the tick of a further answer, and as the At.
func TestAckedEdges(t *testing.T) {
	for _, at := range edges() {
		for _, now := range edges() {
			p := newPair(config(6, 4))
			for i, first := range []int{0, 8, 500} {
				p.out(t, flight.Out{Number: i, At: 0})
				p.acked(t, i, first)
				p.out(t, flight.Out{Number: 9, At: at})
				p.acked(t, 9, now)
			}
		}
	}
}

// Each Acked is one Sample, and one Ack: the mean goes by all of them, and the size grows by one each.
func TestAckedOften(t *testing.T) {
	row(t, config(6, 16), "up", "join", "sent 0", "ack 0,8: yes", "state: 1 1 0 1 8 24 3 0", "sent 8", "ack 1,8: yes", "state: 1 1 0 2 7 27 4 0", "sent 8", "ack 2,24: yes", "state: 1 1 0 3 8 32 5 0")
	p := made(t, config(6, 5), "up; join")
	for i, size := range []int{3, 4, 5, 5, 5, 5, 5, 5, 5, 5} {
		p.step(t, "sent 3")
		p.acked(t, i, 7)
		if got := p.p.State()[6]; got != size {
			t.Errorf("behind %d answers: %d", i+1, got)
		}
	}
	if p.p.Mean() != 4 {
		t.Error(p.p.State())
	}
}

// Late of none, one, some, all: right at the wait, one ahead of it, one behind it.
func TestLate(t *testing.T) {
	row(t, config(6, 4), "up", "join", "late 0:", "late 99:", "late max:", "late min:", "state: 1 1 0 0 0 6 2 0")
	row(t, config(6, 4), "up", "join", "sent 10", "late 10:", "late 15:", "late 0:", "late min:", "state: 1 1 0 1 0 6 2 1 0 100 190 10", "late 16: 0", "state: 1 1 1 1 0 12 1 0")
	row(t, config(6, 4), "up", "join", "sent 10", "late 17: 0", "state: 1 1 1 1 0 12 1 0")
	row(t, config(6, 4), "up", "join", "sent 10", "late max: 0", "state: 1 1 1 1 0 12 1 0")
	row(t, config(6, 4), "up", "sent 9", "sent 10", "sent 11", "late 16: 0 1", "state: 1 0 1 3 0 12 1 1 2 102 189 11")
	row(t, config(6, 4), "up", "out 7,11", "out 3,9", "out 5,12", "out 1,10", "late 16: 3 1", "state: 1 0 1 0 0 12 1 2 7 107 189 11 5 105 188 12")
	row(t, config(6, 4), "up", "sent 9", "sent 10", "sent 11", "late 14:", "late 15: 0")
	row(t, config(6, 4), "up", "sent 9", "sent 10", "sent 11", "late 17: 0 1 2", "state: 1 0 1 3 0 12 1 0")
	row(t, config(6, 4), "up", "out 7,11", "out 3,9", "out 5,10", "late 17: 7 3 5", "state: 1 0 1 0 0 12 1 0")
	// By the wait that answers make.
	row(t, config(6, 4), "up", "sent 0", "ack 0,8", "sent 10", "late 33:", "late 34: 1", "state: 1 0 1 2 8 48 1 0")
	row(t, config(6, 4), "up", "sent 4", "ack 0,4", "sent 10", "late 10:", "late 11: 1", "state: 1 0 1 2 0 2 1 0")
	// Down, and not joined.
	row(t, config(6, 4), "sent 10", "late 15:", "late 16: 0", "state: 0 0 1 1 0 12 1 0")
}

// However many are late, the wait is twice what it was, the size half, and it is behind.
func TestLateOnce(t *testing.T) {
	for n := 1; n <= 40; n++ {
		p := made(t, config(5, 16), "up; join")
		for i := range 12 {
			p.step(t, "sent 3")
			p.acked(t, i, 5)
		}
		for range n {
			p.step(t, "sent 20")
		}
		p.step(t, "sent 21")
		was := p.p.State()
		if got := p.late(t, 20+was[5]); len(got) != n || p.p.Len() != 1 {
			t.Errorf("%d: %v", n, got)
		}
		if got := p.p.State(); was[5] != 3 || got[5] != 6 || was[6] != 14 || got[6] != 7 || was[2] != 0 || got[2] != 1 {
			t.Errorf("%d: %v, and then %v", n, was, got)
		}
	}
}

// What is late goes whole, in order.
func TestLateWhole(t *testing.T) {
	p := newPair(config(6, 4))
	list := []flight.Out{{Number: 3, From: 1, To: 9, At: 2}, {Number: 2, From: 9, To: 9, At: 1}, {Number: -4, From: math.MinInt, To: math.MaxInt, At: -1}}
	for _, o := range list {
		p.out(t, o)
	}
	if got := p.late(t, 8); !slices.Equal(got, list) {
		t.Error(got)
	}
}

// Twice: none is late again, till there is more; each time that some are, the wait is twice as much again, up to MaxWait.
func TestLateTwice(t *testing.T) {
	row(t, config(6, 4), "up", "sent 10", "sent 11", "late 16: 0", "late 16:", "late 17:", "late 22:", "state: 1 0 1 2 0 12 1 1 1 101 189 11", "late 23: 1", "late 23:", "late max:", "state: 1 0 1 2 0 24 1 0")
	row(t, config(1, 4), "sent 0", "late 1: 0", "sent 0", "late 1:", "late 2: 1", "sent 0", "late 3:", "late 4: 2", "sent 0", "late 7:", "late 8: 3", "sent 0", "late 15:", "late 16: 4",
		"sent 0", "late 31:", "late 32: 5", "sent 0", "late 63:", "late 64: 6", "state: 0 0 1 7 0 64 1 0", "sent 0", "late 63:", "late 64: 7", "sent 0", "late 63:", "late 64: 8")
	// Six times at most; an answer ends it.
	row(t, config(9, 4), "sent 0", "ack 0,0", "sent 0", "late 1: 1", "sent 0", "late 2: 2", "sent 0", "late 4: 3", "sent 0", "late 8: 4", "sent 0", "late 16: 5", "sent 0", "late 32: 6",
		"sent 0", "late 63:", "late 64: 7", "state: 0 0 1 8 0 64 1 0", "sent 0", "ack 8,0", "state: 0 0 0 9 0 1 2 0", "sent 0", "late 1: 9", "state: 0 0 1 10 0 2 1 0")
	row(t, config(64, 16), "sent 0", "sent 1", "late 63:", "late 64: 0", "late 64:", "state: 0 0 1 2 0 64 1 1 1 101 199 1", "late 65: 1")
}

// Where now less the wait is past what an int holds, it is less than each At; and each of the edges as now, and as the At.
func TestLateEdges(t *testing.T) {
	row(t, config(6, 4), "out 1,min", "out 2,max", "late min:", "late -9223372036854775803:", "late -9223372036854775802: 1", "late max:", "state: 0 0 1 0 0 12 1 1 2 102 -9223372036854775607 9223372036854775807")
	for _, first := range []int{1, 6, 64} {
		for _, now := range edges() {
			p := newPair(config(first, 4))
			for i, at := range edges() {
				p.out(t, flight.Out{Number: i, From: at, To: -at, At: at})
			}
			p.late(t, now)
			p.late(t, now)
			p.late(t, math.MinInt)
			p.late(t, math.MaxInt)
		}
	}
}

// Behind, till the next Acked that is true; nothing else ends it, and nothing but a Late of some begins it.
func TestBehind(t *testing.T) {
	behind := made(t, config(6, 4), "up; join; sent 1; sent 2; sent 3; late 7")
	if !behind.p.Behind() {
		t.Error(behind.p.State())
	}
	for _, s := range []string{"ack 0,8", "ack 5,8", "ack -1,8", "ack max,8", "late 3", "late 13", "number", "up", "join", "out 2,9", "out 7,13", "late 14", "sent 14", "ack 1,14", "down", "ack 7,15", "up", "down", "up", "sent 20"} {
		behind.step(t, s)
		if !behind.p.Behind() {
			t.Errorf("not behind any more behind %q", s)
		}
	}
	if n := behind.p.Sent() - 1; !behind.acked(t, n, 21) || behind.p.Behind() || behind.acked(t, n, 21) || behind.p.Behind() {
		t.Error(behind.p.State())
	}
	if got := behind.late(t, math.MaxInt); len(got) != 0 || behind.p.Behind() {
		t.Error(behind.p.State())
	}
	behind.step(t, "sent 30")
	if got := behind.late(t, 1000); len(got) != 1 || !behind.p.Behind() {
		t.Error(behind.p.State())
	}
	never := newPair(config(6, 4))
	for _, s := range []string{"late 9", "up", "late max", "join", "sent 1", "late 6", "ack 4,9", "ack 0,9", "late max", "sent 9", "down", "late max", "up", "sent 9", "ack 2,99"} {
		never.step(t, s)
		if never.p.Behind() {
			t.Errorf("behind, behind %q", s)
		}
	}
}

// One that is late while others are out is one Late; the others' answers end it.
func TestBehindWithOthersOut(t *testing.T) {
	row(t, config(6, 8), "up", "join", "sent 1", "sent 2", "late 7: 0", "state: 1 1 1 2 0 12 1 1 1 101 198 2", "ack 0,8: no", "state: 1 1 1 2 0 12 1 1 1 101 198 2", "ack 1,10: yes", "state: 1 1 0 2 8 24 2 0")
	row(t, config(6, 8), "up", "join", "sent 1", "sent 2", "ack 1,4", "late 6:", "late 7: 0", "state: 1 1 1 2 2 12 1 0", "sent 8", "ack 2,8", "state: 1 1 0 3 1 5 2 0")
}

// State behind each call, with none, one, many out, in the order in which they went out.
func TestState(t *testing.T) {
	row(t, config(6, 4), "state: 0 0 0 0 0 6 2 0", "up", "state: 1 0 0 0 0 6 2 0", "join", "state: 1 1 0 0 0 6 2 0", "number", "state: 1 1 0 1 0 6 2 0",
		"out 0,10", "state: 1 1 0 1 0 6 2 1 0 100 190 10", "sent 10", "state: 1 1 0 2 0 6 2 2 0 100 190 10 1 101 190 10", "ack 0,12", "state: 1 1 0 2 2 6 3 1 1 101 190 10",
		"sent 12", "late 15:", "state: 1 1 0 3 2 6 3 2 1 101 190 10 2 102 188 12", "late 16: 1", "state: 1 1 1 3 2 12 1 1 2 102 188 12", "late 24: 2", "state: 1 1 1 3 2 24 1 0",
		"sent 30", "ack 3,32", "state: 1 1 0 4 2 3 2 0", "sent 40", "down: 4", "state: 0 1 0 5 2 3 2 0", "up", "state: 1 1 0 5 2 3 2 0")
	// Not in the order of the numbers, nor of the ticks.
	row(t, config(9, 4), "out 5,7", "out 2,9", "out 9,1", "out -1,4", "state: 0 0 0 0 0 9 2 4 5 105 193 7 2 102 191 9 9 109 199 1 -1 99 196 4",
		"ack 2,9", "state: 0 0 0 0 0 1 3 3 5 105 193 7 9 109 199 1 -1 99 196 4", "out 2,6", "state: 0 0 0 0 0 1 3 4 5 105 193 7 9 109 199 1 -1 99 196 4 2 102 194 6",
		"late 5: 9 -1", "state: 0 0 1 0 0 2 1 2 5 105 193 7 2 102 194 6", "out 9,9", "state: 0 0 1 0 0 2 1 3 5 105 193 7 2 102 194 6 9 109 191 9")
}

// Any numbers as what is out: they stand in State as they are.
func TestStateFields(t *testing.T) {
	p := newPair(config(6, 4))
	var want []int
	for i, n := range edges() {
		o := flight.Out{Number: n, From: n ^ 7, To: -n, At: edges()[len(edges())-1-i]}
		p.out(t, o)
		want = append(want, o.Number, o.From, o.To, o.At)
	}
	if got := p.p.State(); got[7] != len(edges()) || !slices.Equal(got[8:], want) {
		t.Error(got)
	}
}

// First and Most, past their least and their greatest, count as these.
func TestConfig(t *testing.T) {
	for _, r := range []struct{ first, wait int }{
		{math.MinInt, 1}, {-1 << 32, 1}, {-1<<32 + 5, 1}, {-64, 1}, {-1, 1}, {0, 1}, {1, 1}, {2, 2}, {63, 63}, {64, 64}, {65, 64}, {128, 64}, {1 << 32, 64}, {1<<32 + 5, 64}, {math.MaxInt, 64},
	} {
		p := made(t, config(r.first, 4), "up; join; sent 100")
		if got := p.p.State()[5]; got != r.wait {
			t.Errorf("First %d: wait %d", r.first, got)
		}
		if len(p.late(t, 99+r.wait)) != 0 || len(p.late(t, 100+r.wait)) != 1 || p.p.State()[5] != min(2*r.wait, 64) {
			t.Errorf("First %d: %v", r.first, p.p.State())
		}
	}
	for _, r := range []struct{ most, first, size int }{
		{math.MinInt, 1, 1}, {-1 << 32, 1, 1}, {-1<<32 + 5, 1, 1}, {-1, 1, 1}, {0, 1, 1}, {1, 1, 1}, {2, 2, 2}, {3, 2, 3}, {15, 2, 15}, {16, 2, 16}, {17, 2, 16}, {32, 2, 16}, {1 << 32, 2, 16}, {1<<32 + 5, 2, 16}, {math.MaxInt, 2, 16},
	} {
		p := made(t, config(6, r.most), "up; join")
		if got := p.p.State()[6]; got != r.first {
			t.Errorf("Most %d: size %d", r.most, got)
		}
		for i := range 40 {
			p.step(t, "sent 3")
			p.acked(t, i, 4)
		}
		for range r.size {
			if !p.p.Usable() {
				t.Errorf("Most %d: no room for %d more", r.most, p.p.Len())
			}
			p.step(t, "sent 50")
		}
		if p.p.Usable() || p.p.State()[6] != r.size {
			t.Errorf("Most %d: %v", r.most, p.p.State())
		}
	}
}

// Nothing else of the configuration plays a part.
func TestConfigBeside(t *testing.T) {
	like := path.New(config(6, 4))
	for _, n := range edges() {
		for _, c := range []api.Config{{First: 6, Most: 4}, {Paths: n, First: 6, Most: 4}, {Buffer: n, First: 6, Most: 4}, {Window: n, First: 6, Most: 4}, {Chunk: n, First: 6, Most: 4}, {Sched: n, First: 6, Most: 4}, {Paths: n, Buffer: n, Window: n, Chunk: n, Most: 4, First: 6, Sched: n}} {
			p := path.New(c)
			if !slices.Equal(p.State(), like.State()) {
				t.Errorf("%v: %v", c, p.State())
			}
			row(t, c, "up: yes", "join: yes", "sent 1", "sent 1", "usable: no", "late 7: 0 1", "sent 7", "ack 2,8", "state: 1 1 0 3 1 2 2 0")
		}
	}
}

// states are steps to Paths of many kinds.
func states() []string {
	return []string{
		"", "up", "join", "up; join", "up; join; down", "up; join; number; number", "up; join; sent 1", "up; join; sent 1; sent 2; sent 3", "up; join; sent 3; sent 2; sent 1; ack 1,5",
		"up; join; sent 1; sent 2; late 7", "up; join; sent 1; sent 2; late 9", "up; join; sent 1; late 7; sent 8; ack 1,9", "up; join; sent 1; sent 2; down", "up; join; sent 1; sent 2; down; up; sent 3",
		"sent 1; sent 2", "sent 1; sent 2; ack 0,2; late 5", "up; sent 1; sent 1; sent 1; sent 1; sent 1; sent 1; ack 2,2; ack 5,3",
	}
}

// Calls that are false, or tell none, change nothing: neither what it is nor what comes behind.
func TestNothingChanges(t *testing.T) {
	for _, steps := range states() {
		for _, on := range []string{"up; join; sent 9; sent 9; ack 0,9; late 60; down", "late 60; sent 61; late 62; ack 1,70", "down; up; sent 9; late 9; late 90; number", "ack 1,9; ack 0,9; sent 9; late 30; sent 30; late 99"} {
			p := made(t, config(6, 4), steps)
			for _, s := range strings.Split(on, "; ") {
				nothing(t, p)
				p.step(t, s)
			}
			nothing(t, p)
		}
	}
}

// nothing makes calls that are false, or tell none.
func nothing(t *testing.T, p pair) {
	t.Helper()
	want := p.p.State()
	for i := 8; i < len(want); i += 4 {
		if p.p.Out(flight.Out{Number: want[i], From: 77, To: 78, At: -5}) {
			t.Fatalf("Out of the Number %d, which is out", want[i])
		}
	}
	for _, number := range []int{math.MinInt, -1, 50, 1 + 1<<32, math.MaxInt} {
		if p.p.Acked(number, 60) {
			t.Fatalf("Acked of the Number %d, which is not out", number)
		}
	}
	if got := p.p.Late(math.MinInt); len(got) != 0 {
		t.Fatalf("Late = %v", got)
	}
	if got := p.p.Late(0); len(got) != 0 {
		t.Fatalf("Late(0) = %v", got)
	}
	if p.m.up && p.p.Up() || p.m.joined && p.p.Join() {
		t.Fatal("Up or Join, twice")
	}
	if !p.m.up && len(p.p.Down()) != 0 {
		t.Fatal("Down of one that is down")
	}
	if got := p.p.State(); !slices.Equal(got, want) {
		t.Fatalf("%v, and then %v", want, got)
	}
	p.like(t)
}

// Each row of up to four steps over fourteen, behind some beginnings.
func TestRows(t *testing.T) {
	steps := []string{"up", "down", "join", "number", "sent 1", "sent 4", "out 1,3", "out 0,2", "ack 0,4", "ack 1,9", "ack 2,2", "late 3", "late 5", "late 9"}
	for _, begin := range []string{"", "up; join; sent 0; sent 1; sent 3", "up; sent 0; ack 0,2; sent 1; late 8; sent 4", "up; join; sent 3; sent 2; sent 1; ack 1,3; down"} {
		var walk func(row string, more int)
		walk = func(row string, more int) {
			made(t, config(2, 3), row)
			for i := 0; i < len(steps) && more > 0; i++ {
				walk(row+"; "+steps[i], more-1)
			}
		}
		walk(begin, 4)
	}
}

// chance is a row of numbers that looks like any, and is the same each time.
type chance uint64

func (c *chance) below(n int) int {
	*c = *c*6364136223846793005 + 1442695040888963407
	return int(uint64(*c) >> 33 % uint64(n))
}

// any is a number from -2 to below n, and seldom one of the edges.
func (c *chance) any(n int) int {
	if c.below(12) == 0 {
		return edges()[c.below(len(edges()))]
	}
	return c.below(n+2) - 2
}

// act makes a call, with numbers and ticks about n, seldom a Down.
func (c *chance) act(t *testing.T, p pair, n int) {
	t.Helper()
	switch c.below(14) {
	case 0, 1, 2:
		p.out(t, flight.Out{Number: c.any(n), From: c.any(n), To: c.any(n), At: c.any(n)})
	case 3, 4:
		if number, ok := p.number(t); ok {
			p.out(t, flight.Out{Number: number, From: c.any(n), To: c.any(n), At: c.any(n)})
		}
	case 5, 6, 7, 8:
		p.acked(t, c.any(n), c.any(2*n))
	case 9, 10:
		p.late(t, c.any(2*n))
	case 11:
		p.number(t)
	case 12:
		p.up(t)
	case 13:
		switch c.below(5) {
		case 0:
			p.down(t)
		case 1:
			p.join(t)
		}
	}
}

// anyConfig is one of few numbers, and seldom of the edges.
func (c *chance) anyConfig() api.Config {
	return api.Config{Paths: c.any(4), Buffer: c.any(400), Window: c.any(400), Chunk: c.any(64), Most: c.any(18), First: c.any(66), Sched: c.any(4)}
}

func TestLongRows(t *testing.T) {
	c := chance(1)
	for i := range 300 {
		p := newPair(c.anyConfig())
		for range 120 {
			c.act(t, p, 3+i%40)
		}
	}
}

// As an end has it: while it can be used one more is sent, ticks rise, some are answered, the rest is late, and now and then it goes down.
func TestRising(t *testing.T) {
	c := chance(2)
	for i := range 60 {
		p := newPair(config(1+i%9, 1+i%17))
		p.join(t)
		for now := range 150 {
			if c.below(20) == 0 {
				p.down(t)
			}
			if c.below(4) == 0 {
				p.up(t)
			}
			for p.p.Usable() {
				p.step(t, "sent "+strconv.Itoa(now))
			}
			for range c.below(4) {
				p.acked(t, p.p.Sent()-1-c.below(6), now)
			}
			p.late(t, now)
		}
	}
}

// Several at once: none has anything of another.
func TestSeveral(t *testing.T) {
	c := chance(5)
	for range 25 {
		list := []pair{newPair(config(6, 4)), newPair(config(6, 4)), newPair(c.anyConfig()), newPair(c.anyConfig())}
		for range 200 {
			c.act(t, list[c.below(4)], 9)
			for _, p := range list {
				p.like(t)
			}
		}
	}
}

// overwrite writes to all of l's memory, behind its length as well.
func overwrite(l []flight.Out) {
	l = l[:cap(l)]
	for i := range l {
		l[i] = flight.Out{Number: -77, From: 77, To: -78, At: math.MinInt}
	}
	_ = append(l, flight.Out{Number: 55})
}

// handOuts are the calls that hand out a list of what is out.
func handOuts() map[string]func(t *testing.T, p pair) []flight.Out {
	return map[string]func(t *testing.T, p pair) []flight.Out{
		"none late": func(t *testing.T, p pair) []flight.Out { return p.late(t, -9) },
		"some late": func(t *testing.T, p pair) []flight.Out { return p.late(t, 1+p.m.wait()) },
		"all late":  func(t *testing.T, p pair) []flight.Out { return p.late(t, 500) },
		"down":      func(t *testing.T, p pair) []flight.Out { return p.down(t) },
	}
}

// ons are steps behind what was handed out.
func ons() []string {
	return []string{"sent 8; sent 9; ack 1,9", "ack 0,4; ack 1,4; sent 8; late 99", "late 99; sent 100; up; join; sent 100; down", "down; up; sent 8; sent 8; sent 8; late 40", "number; out 0,1; out 1,1; out 2,1"}
}

// What is handed out is new memory: who has it may change it, behind its length too, and it stays as it is, whatever comes behind.
func TestHandedOut(t *testing.T) {
	for _, steps := range states() {
		for name, hand := range handOuts() {
			for _, on := range ons() {
				t.Log(steps, "and", name, "and", on)
				p, kept := made(t, config(6, 4), steps), made(t, config(6, 4), steps)
				list, stays := hand(t, p), hand(t, kept)
				was := slices.Clone(stays)
				overwrite(list)
				p.like(t)
				for _, s := range strings.Split(on, "; ") {
					p.step(t, s)
					kept.step(t, s)
					overwrite(list)
					p.like(t)
				}
				if !slices.Equal(stays, was) {
					t.Fatalf("%v, and then %v", was, stays)
				}
			}
		}
	}
}

// State too is new memory.
func TestStateHandedOut(t *testing.T) {
	for _, steps := range states() {
		for _, on := range ons() {
			p := made(t, config(6, 4), steps)
			a, b := p.p.State(), p.p.State()
			was := slices.Clone(b)
			change := func() {
				for i := range a[:cap(a)] {
					a[:cap(a)][i] = 77
				}
				_ = append(a, 55)
				p.like(t)
			}
			change()
			for _, s := range strings.Split(on, "; ") {
				p.step(t, s)
				change()
			}
			if !slices.Equal(b, was) {
				t.Fatalf("%q and %q: %v, and then %v", steps, on, was, b)
			}
		}
	}
}
