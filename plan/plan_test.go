package plan_test

import (
	"bytes"
	"math"
	"slices"
	"strconv"
	"strings"
	"testing"

	"haulier/api"
	"haulier/outbox"
	"haulier/plan"
	"haulier/ranges"
)

// place is a place of the model: a byte, or the end.
type place struct {
	end, seen, told, lost bool
}

// model is an Outbox and its Plan made by other means: a list of places, gone through one by one.
type model struct {
	list []place
}

// count is how many places there are of which is tells true.
func (m *model) count(is func(p place) bool) int {
	n := 0
	for _, p := range m.list {
		if is(p) {
			n++
		}
	}
	return n
}

func (m *model) bytes() int {
	return m.count(func(p place) bool { return !p.end })
}

func (m *model) acked() int {
	return m.count(func(p place) bool { return p.seen })
}

func (m *model) sent() int {
	return m.count(func(p place) bool { return p.told })
}

func (m *model) write(n int) {
	m.list = append(m.list, make([]place, n)...)
}

func (m *model) close() {
	if m.bytes() == len(m.list) {
		m.list = append(m.list, place{end: true})
	}
}

func (m *model) ack(seen int) {
	for i := 0; i < seen && seen <= len(m.list); i++ {
		m.list[i].seen = true
	}
}

func (m *model) lose(from, to int) {
	for i := range m.list {
		if from <= i && i < to && m.list[i].told {
			m.list[i].lost = true
		}
	}
}

// open tells whether the place i may be sent: a byte below limit, or the end, if all bytes are.
func (m *model) open(i, limit int) bool {
	return i < limit || m.list[i].end && i == limit
}

func (m *model) next(limit, chunk int) (from, to int, ok bool) {
	switch {
	case chunk < 1:
		chunk = 1
	case chunk > 64:
		chunk = 64
	}
	for i := range m.list {
		m.list[i].lost = m.list[i].lost && !m.list[i].seen
	}
	if from := slices.IndexFunc(m.list, func(p place) bool { return p.lost }); from >= 0 {
		return m.take(from, chunk, func(i int) bool { return m.list[i].lost })
	}
	return m.take(m.sent(), chunk, func(i int) bool { return m.open(i, limit) })
}

// take tells places from from on, as long as they may be, and chunk bytes at most.
func (m *model) take(from, chunk int, may func(i int) bool) (int, int, bool) {
	to := from
	for ; to < len(m.list) && may(to) && (chunk > 0 || m.list[to].end); to++ {
		if !m.list[to].end {
			chunk--
		}
		m.list[to].told, m.list[to].lost = true, false
	}
	if from == to {
		return 0, 0, false
	}
	return from, to, true
}

func (m *model) missing() []ranges.Range {
	var list []ranges.Range
	for i, p := range m.list {
		if p.lost && (i == 0 || !m.list[i-1].lost) {
			list = append(list, ranges.Range{From: i, To: i})
		}
		if p.lost {
			list[len(list)-1].To++
		}
	}
	return list
}

// told is what a Next told.
type told struct {
	from, to int
	ok       bool
}

func next(p *plan.Plan, o *outbox.Outbox, limit, chunk int) told {
	from, to, ok := p.Next(o, limit, chunk)
	return told{from, to, ok}
}

// pair is an Outbox with a Plan of it, and their model.
type pair struct {
	o *outbox.Outbox
	p *plan.Plan
	m *model
}

func newPair(buffer int) pair {
	return pair{outbox.New(buffer), plan.New(), &model{}}
}

// like sees to it that what p's Plan tells of itself is the model's, each time that it is asked, and that the Outbox is as it was.
func (p pair) like(t *testing.T) {
	t.Helper()
	for range 2 {
		if got, want := p.p.Sent(), p.m.sent(); got != want {
			t.Fatalf("Sent() = %d, want %d", got, want)
		}
		if got, want := p.p.Missing(), p.m.missing(); !slices.Equal(got, want) {
			t.Fatalf("Missing() = %v, want %v", got, want)
		}
	}
	if p.o.Len() != p.m.bytes() || p.o.Places() != len(p.m.list) || p.o.Acked() != p.m.acked() {
		t.Fatalf("the Outbox has %d, %d, %d, the model %d, %d, %d", p.o.Len(), p.o.Places(), p.o.Acked(), p.m.bytes(), len(p.m.list), p.m.acked())
	}
}

func (p pair) write(b []byte) {
	p.m.write(p.o.Write(b))
}

func (p pair) close() {
	p.o.Close()
	p.m.close()
}

func (p pair) ack(seen int) {
	p.o.Ack(seen)
	p.m.ack(seen)
}

func (p pair) lose(from, to int) {
	p.p.Lost(from, to)
	p.m.lose(from, to)
}

// next sees to it that Next is the model's, and tells it.
func (p pair) next(t *testing.T, limit, chunk int) told {
	t.Helper()
	from, to, ok := p.m.next(limit, chunk)
	got := next(p.p, p.o, limit, chunk)
	if want := (told{from, to, ok}); got != want {
		t.Fatalf("Next(%d, %d) = %v, want %v", limit, chunk, got, want)
	}
	p.like(t)
	return got
}

// numbers are those of s, which stand with a comma between.
func numbers(s string) (a, b int) {
	left, right, _ := strings.Cut(s, ",")
	a, _ = strconv.Atoi(left)
	b, _ = strconv.Atoi(right)
	return a, b
}

// step does a step: "w" and a number is Write of so many bytes, "c" Close, "a" and a number Ack, "l" and two Lost, "n" and two Next.
func (p pair) step(t *testing.T, s string) {
	t.Helper()
	a, b := numbers(s[1:])
	switch s[0] {
	case 'w':
		p.write(bytes.Repeat([]byte("x"), a))
	case 'c':
		p.close()
	case 'a':
		p.ack(a)
	case 'l':
		p.lose(a, b)
	case 'n':
		p.next(t, a, b)
	}
	p.like(t)
}

// made is a pair behind the steps, which stand with a blank between.
func made(t *testing.T, steps string) pair {
	t.Helper()
	p := newPair(api.MaxBuffer)
	for _, s := range strings.Fields(steps) {
		p.step(t, s)
	}
	return p
}

// list is the Ranges of the places 2 by 2.
func list(places ...int) []ranges.Range {
	var l []ranges.Range
	for i := 0; i < len(places); i += 2 {
		l = append(l, ranges.Range{From: places[i], To: places[i+1]})
	}
	return l
}

// tells sees to it that a Plan behind the steps tells with limit and chunk what want says, and is then as sent and the missing places say.
func tells(t *testing.T, steps string, limit, chunk int, want told, sent int, missing ...int) {
	t.Helper()
	p := made(t, steps)
	if got := p.next(t, limit, chunk); got != want {
		t.Errorf("%q: Next(%d, %d) = %v, want %v", steps, limit, chunk, got, want)
	}
	if got := p.p.Sent(); got != sent {
		t.Errorf("%q: behind Next(%d, %d) Sent() = %d, want %d", steps, limit, chunk, got, sent)
	}
	if got := p.p.Missing(); !slices.Equal(got, list(missing...)) {
		t.Errorf("%q: behind Next(%d, %d) Missing() = %v, want %v", steps, limit, chunk, got, list(missing...))
	}
}

func TestNothing(t *testing.T) {
	o, p := outbox.New(5), plan.New()
	if p.Sent() != 0 || len(p.Missing()) != 0 {
		t.Errorf("a new one: %d, %v", p.Sent(), p.Missing())
	}
	for _, limit := range []int{math.MinInt, -1, 0, 1, 50, math.MaxInt} {
		for _, chunk := range []int{math.MinInt, -1, 0, 1, 64, math.MaxInt} {
			if got := next(p, o, limit, chunk); got != (told{}) {
				t.Errorf("Next(%d, %d) of nothing = %v", limit, chunk, got)
			}
		}
	}
	p.Lost(0, 1)
	p.Lost(0, 50)
	p.Lost(math.MinInt, math.MaxInt)
	if got := next(p, o, 50, 64); got != (told{}) || p.Sent() != 0 || len(p.Missing()) != 0 {
		t.Errorf("behind Lost: %v, %d, %v", got, p.Sent(), p.Missing())
	}
	// A piece told once is not told again.
	tells(t, "w4 n9,9", 9, 9, told{}, 4)
	tells(t, "w4 n9,9 l0,4 n9,9", 9, 9, told{}, 4)
	tells(t, "w4 c n9,9", 9, 9, told{}, 5)
}

func TestLimit(t *testing.T) {
	for _, r := range []struct {
		steps string
		limit int
		want  told
		sent  int
	}{
		// Of ten bytes, of which none was told: at Sent, one above it, below Len, at Len, above it.
		{"w10", math.MinInt, told{}, 0}, {"w10", -1, told{}, 0}, {"w10", 0, told{}, 0}, {"w10", 1, told{0, 1, true}, 1}, {"w10", 9, told{0, 9, true}, 9},
		{"w10", 10, told{0, 10, true}, 10}, {"w10", 11, told{0, 10, true}, 10}, {"w10", math.MaxInt, told{0, 10, true}, 10},
		// Four were told.
		{"w10 n4,64", math.MinInt, told{}, 4}, {"w10 n4,64", -1, told{}, 4}, {"w10 n4,64", 0, told{}, 4}, {"w10 n4,64", 1, told{}, 4}, {"w10 n4,64", 3, told{}, 4},
		{"w10 n4,64", 4, told{}, 4}, {"w10 n4,64", 5, told{4, 5, true}, 5}, {"w10 n4,64", 9, told{4, 9, true}, 9}, {"w10 n4,64", 10, told{4, 10, true}, 10},
		{"w10 n4,64", 11, told{4, 10, true}, 10}, {"w10 n4,64", math.MaxInt, told{4, 10, true}, 10},
		// All were told; then more were written.
		{"w10 n10,64", 9, told{}, 10}, {"w10 n10,64", 10, told{}, 10}, {"w10 n10,64", 11, told{}, 10}, {"w10 n10,64", math.MaxInt, told{}, 10},
		{"w10 n10,64 w2", 10, told{}, 10}, {"w10 n10,64 w2", 11, told{10, 11, true}, 11}, {"w10 n10,64 w2", 12, told{10, 12, true}, 12}, {"w10 n10,64 w2", 13, told{10, 12, true}, 12},
		// Bytes that were acknowledged, but never told, are new ones as well.
		{"w10 a4", 50, told{0, 10, true}, 10}, {"w10 n2,64 a4", 50, told{2, 10, true}, 10}, {"w10 a10", 50, told{0, 10, true}, 10}, {"w10 n4,64 a4", 50, told{4, 10, true}, 10},
	} {
		tells(t, r.steps, r.limit, 64, r.want, r.sent)
	}
}

// chunks are numbers for chunk, and what each counts as.
func chunks() [][2]int {
	return [][2]int{
		{math.MinInt, 1}, {math.MinInt + 1, 1}, {-1 << 62, 1}, {-1<<32 + 7, 1}, {-64, 1}, {-2, 1}, {-1, 1}, {0, 1}, {1, 1}, {2, 2}, {3, 3}, {31, 31}, {32, 32}, {33, 33},
		{62, 62}, {63, 63}, {64, 64}, {65, 64}, {66, 64}, {128, 64}, {256, 64}, {257, 64}, {1 << 31, 64}, {1<<32 + 7, 64}, {1 << 62, 64}, {math.MaxInt - 1, 64}, {math.MaxInt, 64},
	}
}

// Pieces of just chunk bytes, of one less, of one more, and of many more; new ones, and lost ones.
func TestChunk(t *testing.T) {
	for _, c := range chunks() {
		for _, n := range []int{c[1] - 1, c[1], c[1] + 1, c[1] + 2, 2*c[1] + 1, 400} {
			for _, ahead := range []int{0, 3} {
				p := newPair(api.MaxBuffer)
				p.write(make([]byte, ahead))
				p.next(t, 400, 64)
				p.write(make([]byte, n))
				chunked(t, p, c, ahead)
				p.lose(ahead, ahead+n)
				chunked(t, p, c, ahead)
			}
		}
	}
}

// chunked sees to it that all from the place from on is told in pieces of c[1] bytes, the last one of the rest.
func chunked(t *testing.T, p pair, c [2]int, from int) {
	t.Helper()
	for n := p.o.Len(); from < n; from += c[1] {
		want := told{from, min(from+c[1], n), true}
		if got := p.next(t, 1000, c[0]); got != want {
			t.Fatalf("of %d bytes Next(1000, %d) = %v, want %v", n, c[0], got, want)
		}
	}
	if got := p.next(t, 1000, c[0]); got != (told{}) || len(p.p.Missing()) != 0 {
		t.Fatalf("behind all: %v, %v", got, p.p.Missing())
	}
}

func TestNewEnd(t *testing.T) {
	for _, r := range []struct {
		steps        string
		limit, chunk int
		want         told
		sent         int
	}{
		// With the last bytes: these are one more than chunk, just so many, one less, less.
		{"w4 c", 4, 3, told{0, 3, true}, 3}, {"w4 c", 4, 4, told{0, 5, true}, 5}, {"w4 c", 4, 5, told{0, 5, true}, 5}, {"w4 c", 4, 64, told{0, 5, true}, 5},
		{"w9 n5,64 c", 9, 3, told{5, 8, true}, 8}, {"w9 n5,64 c", 9, 4, told{5, 10, true}, 10}, {"w9 n5,64 c", 9, 5, told{5, 10, true}, 10},
		{"w4 c n4,3", 4, 3, told{3, 5, true}, 5}, {"w4 c n4,3", 4, 1, told{3, 5, true}, 5}, {"w4 c n4,2", 4, 1, told{2, 3, true}, 3},
		{"w1 c", 1, 1, told{0, 2, true}, 2}, {"w1 c", 1, math.MinInt, told{0, 2, true}, 2}, {"w2 c", 2, 1, told{0, 1, true}, 1},
		{"w63 c", 64, 64, told{0, 64, true}, 64}, {"w64 c", 64, 64, told{0, 65, true}, 65}, {"w64 c", 64, math.MaxInt, told{0, 65, true}, 65}, {"w65 c", 65, 64, told{0, 64, true}, 64},
		// By itself: all bytes were told ahead of Close, or there are none.
		{"w4 n4,64 c", 4, 1, told{4, 5, true}, 5}, {"w4 n4,64 c", 50, 64, told{4, 5, true}, 5}, {"w4 c n3,64 a4", 4, 64, told{3, 5, true}, 5},
		{"c", 0, 1, told{0, 1, true}, 1}, {"c", 0, 64, told{0, 1, true}, 1}, {"c", 50, 64, told{0, 1, true}, 1}, {"c", 0, math.MinInt, told{0, 1, true}, 1},
		// Behind the limit, or not.
		{"c", -1, 64, told{}, 0}, {"c", math.MinInt, 64, told{}, 0}, {"w4 c", 3, 64, told{0, 3, true}, 3}, {"w4 c n3,64", 3, 64, told{}, 3}, {"w4 c n3,64", 4, 64, told{3, 5, true}, 5},
		{"w4 n4,64 c", 3, 64, told{}, 4}, {"w4 n4,64 c", 0, 64, told{}, 4}, {"w4 n4,64 c", -1, 64, told{}, 4}, {"w4 c", 5, 64, told{0, 5, true}, 5}, {"w4 c", math.MaxInt, 64, told{0, 5, true}, 5},
		// It is told once, and there is none of one that is not closed.
		{"c n0,1", 50, 64, told{}, 1}, {"w4 c n4,4", 50, 64, told{}, 5}, {"w4 n4,4", 50, 64, told{}, 4}, {"w4", 50, 4, told{0, 4, true}, 4}, {"w4", 50, 5, told{0, 4, true}, 4},
		// It was acknowledged, but never told.
		{"c a1", 50, 64, told{0, 1, true}, 1}, {"w4 c a5", 50, 64, told{0, 5, true}, 5},
	} {
		tells(t, r.steps, r.limit, r.chunk, r.want, r.sent)
	}
}

func TestLostEnd(t *testing.T) {
	for _, r := range []struct {
		steps   string
		chunk   int
		want    told
		missing []int
	}{
		// By itself.
		{"w4 c n9,9 l4,5", 1, told{4, 5, true}, nil}, {"w4 c n9,9 l4,5", 64, told{4, 5, true}, nil}, {"w4 c n9,9 l4,5", math.MinInt, told{4, 5, true}, nil},
		{"c n9,9 l0,1", 1, told{0, 1, true}, nil}, {"c n9,9 l0,1", 64, told{0, 1, true}, nil}, {"w4 c n9,9 l0,2 l4,5", 64, told{0, 2, true}, []int{4, 5}}, {"w4 c n9,9 l0,2 l4,5 n0,64", 64, told{4, 5, true}, nil},
		// With the last bytes: these are one more than chunk, just so many, one less.
		{"w4 c n9,9 l0,5", 3, told{0, 3, true}, []int{3, 5}}, {"w4 c n9,9 l0,5", 4, told{0, 5, true}, nil}, {"w4 c n9,9 l0,5", 5, told{0, 5, true}, nil},
		{"w4 c n9,9 l2,5", 1, told{2, 3, true}, []int{3, 5}}, {"w4 c n9,9 l2,5", 2, told{2, 5, true}, nil}, {"w4 c n9,9 l2,5", 3, told{2, 5, true}, nil}, {"w4 c n9,9 l0,5 n0,3", 1, told{3, 5, true}, nil},
		{"w64 c n99,64 l0,65", 64, told{0, 65, true}, nil}, {"w64 c n99,64 l0,65", 63, told{0, 63, true}, []int{63, 65}},
		{"w65 c n99,64 n99,64 l0,66", 64, told{0, 64, true}, []int{64, 66}}, {"w65 c n99,64 n99,64 l0,66", 65, told{0, 64, true}, []int{64, 66}}, {"w65 c n99,64 n99,64 l1,66", 64, told{1, 66, true}, nil},
		// The last bytes are lost, and it is not, or was never told.
		{"w4 c n9,9 l0,4", 4, told{0, 4, true}, nil}, {"w4 c n9,9 l0,4", 64, told{0, 4, true}, nil}, {"w4 n9,9 c l0,5", 64, told{0, 4, true}, nil}, {"w4 n9,9 c l3,4", 64, told{3, 4, true}, nil},
		// It was lost, and then acknowledged, by itself or with others; or all but it.
		{"w4 c n9,9 l4,5 a5", 64, told{}, nil}, {"w4 c n9,9 l0,5 a5", 64, told{}, nil}, {"c n9,9 l0,1 a1", 64, told{}, nil},
		{"w4 c n9,9 l4,5 a4", 64, told{4, 5, true}, nil}, {"w4 c n9,9 l0,5 a4", 64, told{4, 5, true}, nil}, {"w4 c n9,9 l0,5 a3", 1, told{3, 5, true}, nil},
		// It was acknowledged, and then lost.
		{"w4 c n9,9 a5 l4,5", 64, told{}, nil}, {"w4 c n9,9 a5 l0,5", 64, told{}, nil}, {"w4 c n9,9 a4 l0,5", 64, told{4, 5, true}, nil},
	} {
		for _, limit := range []int{math.MinInt, 0, 3, 4, 50} {
			p := made(t, r.steps)
			tells(t, r.steps, min(limit, p.p.Sent()-1), r.chunk, r.want, p.p.Sent(), r.missing...)
		}
	}
}

// The end goes as a new place behind the last bytes, though these were lost.
func TestLastBytesLostAheadOfTheEnd(t *testing.T) {
	tells(t, "w4 n9,9 c l2,4", 9, 64, told{2, 4, true}, 4)
	tells(t, "w4 n9,9 c l2,4 n9,64", 9, 64, told{4, 5, true}, 5)
	tells(t, "w4 n9,9 c l2,4 n9,64", 3, 64, told{}, 4)
	tells(t, "w4 n9,9 l2,4 c n9,1", 9, 1, told{3, 4, true}, 4)
}

func TestLost(t *testing.T) {
	for _, r := range []struct {
		lost    string
		missing []int
	}{
		{"", nil}, {"l3,7", []int{3, 7}}, {"l0,1", []int{0, 1}}, {"l9,10", []int{9, 10}}, {"l0,10", []int{0, 10}},
		// Two that touch, two with a gap, two with places in common; the later one first, too.
		{"l3,5 l5,7", []int{3, 7}}, {"l5,7 l3,5", []int{3, 7}}, {"l3,5 l6,7", []int{3, 5, 6, 7}}, {"l6,7 l3,5", []int{3, 5, 6, 7}}, {"l3,6 l5,8", []int{3, 8}}, {"l5,8 l3,6", []int{3, 8}},
		{"l2,9 l4,5", []int{2, 9}}, {"l4,5 l2,9", []int{2, 9}}, {"l0,2 l4,6 l8,10", []int{0, 2, 4, 6, 8, 10}}, {"l8,10 l4,6 l0,2 l2,4", []int{0, 6, 8, 10}},
		// One twice.
		{"l3,7 l3,7", []int{3, 7}}, {"l3,7 l1,2 l3,7", []int{1, 2, 3, 7}},
		// No places.
		{"l0,0", nil}, {"l3,3", nil}, {"l7,3", nil}, {"l10,10", nil}, {"l10,0", nil}, {"l3,7 l5,5 l7,5", []int{3, 7}},
		// Places that are none, or that Next did not tell.
		{"l-3,0", nil}, {"l-3,2", []int{0, 2}}, {"l10,11", nil}, {"l10,12", nil}, {"l12,20", nil}, {"l8,12", []int{8, 10}}, {"l-5,50", []int{0, 10}}, {"l9,11 l11,12", []int{9, 10}},
	} {
		for _, steps := range []string{"w10 n10,10 ", "w12 n10,10 ", "w12 c n10,10 ", "w10 n10,10 c "} {
			p := made(t, steps+r.lost)
			if got := p.p.Missing(); !slices.Equal(got, list(r.missing...)) || p.p.Sent() != 10 {
				t.Errorf("%s%s: Missing() = %v, want %v; Sent() = %d", steps, r.lost, got, list(r.missing...), p.p.Sent())
			}
			// They are told in order, each once, with a limit below all of them.
			for i := 0; i < len(r.missing); i += 2 {
				want := told{r.missing[i], r.missing[i+1], true}
				if got := p.next(t, -1, 64); got != want {
					t.Errorf("%s%s: Next = %v, want %v", steps, r.lost, got, want)
				}
			}
			if got := p.next(t, -1, 64); got != (told{}) || p.p.Sent() != 10 {
				t.Errorf("%s%s: behind them %v", steps, r.lost, got)
			}
		}
	}
}

// What was told again can be lost again, and what is lost in part is told in part.
func TestLostAgain(t *testing.T) {
	tells(t, "w10 n9,9 l3,7 n9,9 l3,7", 0, 64, told{3, 7, true}, 9)
	tells(t, "w10 n9,9 l3,7 n9,2 l3,5", 0, 64, told{3, 7, true}, 9)
	tells(t, "w10 n9,9 l3,7 n9,2 l3,4", 0, 64, told{3, 4, true}, 9, 5, 7)
	tells(t, "w10 n9,9 l3,7 n9,2 l8,9", 0, 64, told{5, 7, true}, 9, 8, 9)
	tells(t, "w10 n9,9 l3,7 n9,2 l1,2 n9,9", 0, 64, told{5, 7, true}, 9)
}

// What is lost is told ahead of what is new, whatever the limit is.
func TestLostFirst(t *testing.T) {
	for _, limit := range []int{math.MinInt, -1, 0, 2, 3, 4, 6, 8, 9, 15, 20, 50, math.MaxInt} {
		tells(t, "w20 c n8,8 l2,4", limit, 64, told{2, 4, true}, 8)
		tells(t, "w20 n8,8 l2,4 l6,8", limit, 64, told{2, 4, true}, 8, 6, 8)
		tells(t, "w20 n8,8 l6,8 l2,4 n0,64", limit, 64, told{6, 8, true}, 8)
		tells(t, "w20 n8,8 l2,8", limit, 3, told{2, 5, true}, 8, 5, 8)
		tells(t, "w20 n8,8 l7,8", limit, 64, told{7, 8, true}, 8) // it touches what is new
	}
	tells(t, "w20 n8,8 l2,4 n50,64", 50, 64, told{8, 20, true}, 20)
	tells(t, "w20 n8,8 l2,4 n50,64", 8, 64, told{}, 8)
}

func TestAcked(t *testing.T) {
	for _, r := range []struct {
		steps   string
		want    told
		missing []int
	}{
		// Of one Range: none, some, all, more.
		{"l3,7 a0", told{3, 7, true}, nil}, {"l3,7 a2", told{3, 7, true}, nil}, {"l3,7 a3", told{3, 7, true}, nil}, {"l3,7 a4", told{4, 7, true}, nil}, {"l3,7 a6", told{6, 7, true}, nil},
		{"l3,7 a7", told{}, nil}, {"l3,7 a8", told{}, nil}, {"l3,7 a10", told{}, nil},
		// Of two.
		{"l1,3 l5,8 a1", told{1, 3, true}, []int{5, 8}}, {"l1,3 l5,8 a2", told{2, 3, true}, []int{5, 8}}, {"l1,3 l5,8 a3", told{5, 8, true}, nil}, {"l1,3 l5,8 a4", told{5, 8, true}, nil},
		{"l1,3 l5,8 a5", told{5, 8, true}, nil}, {"l1,3 l5,8 a6", told{6, 8, true}, nil}, {"l1,3 l5,8 a8", told{}, nil},
		// What was acknowledged ahead of Lost; an Ack of less, and one that is not right.
		{"a5 l3,7", told{5, 7, true}, nil}, {"a7 l3,7", told{}, nil}, {"a3 l3,7", told{3, 7, true}, nil}, {"a5 a2 l0,7", told{5, 7, true}, nil}, {"l3,7 a11", told{3, 7, true}, nil}, {"l3,7 a-1", told{3, 7, true}, nil},
	} {
		tells(t, "w10 n10,10 "+r.steps, 0, 64, r.want, 10, r.missing...)
		tells(t, "w10 n10,10 "+r.steps, 50, 64, r.want, 10, r.missing...)
	}
}

// Places below Acked are lost up to the next Next, and not from it on, though it is false, or tells of others.
func TestAckedCountsInNext(t *testing.T) {
	for _, r := range []struct {
		steps           string
		limit           int
		before, missing []int
	}{
		{"w10 n10,10 l3,7 a10", 50, []int{3, 7}, nil},
		{"w10 n10,10 a10 l3,7", 50, []int{3, 7}, nil},
		{"w10 n8,10 l3,7 a7", 8, []int{3, 7}, nil},
		{"w10 n8,10 l3,7 a7", 50, []int{3, 7}, nil},
		{"w10 n8,10 l1,3 l5,6 l7,8 a3", -1, []int{1, 3, 5, 6, 7, 8}, []int{7, 8}},
	} {
		p := made(t, r.steps)
		if got := p.p.Missing(); !slices.Equal(got, list(r.before...)) {
			t.Errorf("%q: Missing() = %v, want %v", r.steps, got, list(r.before...))
		}
		p.next(t, r.limit, 64)
		if got := p.p.Missing(); !slices.Equal(got, list(r.missing...)) {
			t.Errorf("%q: behind Next(%d, 64) Missing() = %v, want %v", r.steps, r.limit, got, list(r.missing...))
		}
	}
	// The piece is as long as chunk, reckoned from the first place that is lost yet.
	tells(t, "w10 n10,10 l1,9 a4", 0, 3, told{4, 7, true}, 10, 7, 9)
}

// far are numbers far from any place.
func far() []int {
	return []int{
		math.MinInt, math.MinInt + 1, -1 << 62, -1<<40 - 1, -1 << 40, -1 << 32, -1<<32 + 3, -1 << 31, -1 << 16, -4097, -401,
		5000, 1 << 16, 1<<31 - 1, 1 << 31, 1 << 32, 1<<32 + 1, 1<<32 + 3, 1<<40 - 1, 1 << 40, 1<<40 + 3, 1 << 62, math.MaxInt - 1, math.MaxInt,
	}
}

// states are rows of steps that come to each kind of Plan.
func states() []string {
	return []string{
		"", "c", "c n9,9", "c n9,9 l0,1", "c n9,9 l0,1 a1", "w4", "w4 c", "w4 n2,9", "w4 n9,9", "w4 n9,9 c", "w4 c n9,9", "w4 c n9,9 l0,5", "w4 c n9,9 l4,5", "w4 n9,9 l1,2", "w9 n9,9 l1,2 l4,6",
		"w9 n6,9 l1,2 l4,6 a5", "w9 c n6,9 l0,6 a6", "w9 c n9,9 l0,10 a10", "w9 c n9,9 a9", "w90 n80,64 n80,64 l0,80", "w90 c n80,64 n80,64 l3,20 l30,70 a40",
	}
}

// Numbers far from any place count as what they stand beside, or are none.
func TestFarOff(t *testing.T) {
	for _, steps := range states() {
		t.Log(steps)
		for _, a := range far() {
			for _, b := range far() {
				p := made(t, steps)
				p.lose(a, b)
				p.like(t)
				p = made(t, steps)
				p.next(t, a, b)
				p.next(t, b, a)
			}
			for b := -1; b < 12; b++ {
				p := made(t, steps)
				p.lose(b, a)
				p.like(t)
				p = made(t, steps)
				p.lose(a, b)
				p.next(t, a, b)
				p.next(t, b, a)
			}
		}
	}
}

// A Next that is false changes nothing but that what is acknowledged is lost no more; nor does a Lost of no places.
func TestFalseChangesNothing(t *testing.T) {
	for _, steps := range states() {
		for _, on := range []string{"n9,9", "w3 n9,9", "w3 c n99,1 l0,99 n99,4", "l0,9 n9,2 n9,2 a2", "a3 l0,4 w2 n12,9 n12,9 c l9,19 n99,9"} {
			t.Log(steps, "and", on)
			p := made(t, steps)
			for p.next(t, 0, 5).ok {
				t.Log("what is lost is told first")
			}
			for _, s := range strings.Fields(on) {
				nothing(t, p)
				p.step(t, s)
			}
			nothing(t, p)
		}
	}
}

// nothing makes calls of p's Plan that tell and change nothing.
func nothing(t *testing.T, p pair) {
	t.Helper()
	sent, missing := p.p.Sent(), p.p.Missing()
	for _, r := range [][2]int{{0, 0}, {2, 2}, {3, 1}, {sent, sent + 1}, {sent, math.MaxInt}, {sent + 3, sent + 5}, {-4, 0}, {math.MinInt, -1}, {math.MaxInt, math.MinInt}} {
		p.p.Lost(r[0], r[1])
	}
	if len(missing) == 0 && next(p.p, p.o, min(sent, p.o.Len()-1), 64) != (told{}) {
		t.Fatalf("Next with a limit at Sent, %d", sent)
	}
	if p.p.Sent() != sent || !slices.Equal(p.p.Missing(), missing) {
		t.Fatalf("%d, %v, and then %d, %v", sent, missing, p.p.Sent(), p.p.Missing())
	}
}

// Each row of up to four steps over sixteen, behind some beginnings.
func TestRows(t *testing.T) {
	steps := []string{"w1", "w3", "c", "a1", "a2", "a4", "l0,1", "l1,3", "l2,5", "l3,4", "n0,2", "n1,1", "n2,2", "n3,1", "n4,3", "n9,64"}
	for _, begin := range []string{"", "w3 n9,9", "w3 c n9,9", "w5 n4,9 l1,3"} {
		var walk func(row string, more int)
		walk = func(row string, more int) {
			made(t, row)
			for i := 0; i < len(steps) && more > 0; i++ {
				walk(row+" "+steps[i], more-1)
			}
		}
		walk(begin, 4)
	}
}

// chance is a row of numbers that looks like any, and is the same each time.
type chance uint64

func (c *chance) below(n int) int {
	*c = *c*6364136223846793005 + 1442695040888963407
	return int(uint64(*c) >> 33 % uint64(n))
}

// near is a number about the places from 0 to n.
func (c *chance) near(n int) int {
	return c.below(n+5) - 2
}

// act does one thing, seldom a Close.
func (c *chance) act(t *testing.T, p pair, most, seldom int) {
	t.Helper()
	n, from := len(p.m.list), 0
	switch c.below(10) {
	case 0, 1:
		p.write(make([]byte, c.below(most+1)))
	case 2:
		p.ack(p.m.acked() + c.below(most)/2)
	case 3:
		p.ack(c.near(n))
	case 4:
		p.lose(c.near(n), c.near(n))
	case 5:
		from = c.near(n)
		p.lose(from, from+c.below(most))
	case 6, 7:
		p.next(t, c.near(n), c.near(most))
	case 8:
		p.next(t, n+1, c.near(most))
	case 9:
		if c.below(seldom) == 0 {
			p.close()
		}
	}
}

func TestLongRows(t *testing.T) {
	c := chance(1)
	for i := range 300 {
		p, most := newPair(c.below(14)), 1+c.below(12)
		for range 150 {
			c.act(t, p, most, 4+i%30)
			p.like(t)
		}
	}
}

// Rows of many bytes.
func TestGreatRows(t *testing.T) {
	c := chance(7)
	for i := range 12 {
		p := newPair(api.MaxBuffer)
		for range 250 {
			c.act(t, p, 90, 8+10*i)
		}
		p.like(t)
	}
}

// Whatever is lost on the way: in the end each place was told, once more for each time that it was lost, and nothing is missing.
func TestAllIsTold(t *testing.T) {
	c := chance(3)
	for i := range 40 {
		p, chunk, times := newPair(api.MaxBuffer), 1+c.below(70), make([]int, api.MaxBytes+1)
		p.write(make([]byte, i*10))
		p.close()
		for again := 0; ; {
			got := p.next(t, 400, chunk)
			if !got.ok {
				break
			}
			for place := got.from; place < got.to; place++ {
				times[place]++
			}
			if again < 50 && c.below(2) == 0 {
				p.lose(got.from, got.to)
				for place := got.from; place < got.to; place++ {
					times[place]--
				}
				again++
			}
		}
		for place, n := range times {
			if want := place <= i*10; (n == 1) != want || n > 1 {
				t.Fatalf("of %d bytes, and the end, in pieces of %d: the place %d came %d times", i*10, chunk, place, n)
			}
		}
		if p.p.Sent() != i*10+1 || len(p.p.Missing()) != 0 {
			t.Errorf("%d, %v", p.p.Sent(), p.p.Missing())
		}
	}
}

// All bytes that an Outbox may have, and its end.
func TestMaxBytes(t *testing.T) {
	o, p, at := outbox.New(api.MaxBuffer), plan.New(), 0
	for at < api.MaxBytes {
		o.Write(make([]byte, api.MaxBuffer))
		for got := next(p, o, api.MaxBytes, 64); got.ok; got = next(p, o, api.MaxBytes, 64) {
			if got.from != at || got.to <= at || got.to > at+64 {
				t.Fatalf("behind the place %d: %v", at, got)
			}
			at = got.to
		}
		o.Ack(at)
	}
	o.Close()
	if got := next(p, o, api.MaxBytes, 1); got != (told{4096, 4097, true}) || p.Sent() != 4097 || o.Ack(4098) {
		t.Errorf("the end: %v, %d", got, p.Sent())
	}
	p.Lost(0, math.MaxInt)
	if got := p.Missing(); !slices.Equal(got, list(0, 4097)) {
		t.Errorf("Missing() = %v", got)
	}
	if got := next(p, o, 0, 64); got != (told{4096, 4097, true}) || len(p.Missing()) != 0 {
		t.Errorf("what is not acknowledged: %v, %v", got, p.Missing())
	}
}

// Up to four Plans at once, one Outbox each: none has anything of another.
func TestSeveral(t *testing.T) {
	c := chance(5)
	for range 25 {
		list := []pair{newPair(1), newPair(4), newPair(9), newPair(400)}
		for range 150 {
			c.act(t, list[c.below(4)], 6, 25)
			for _, p := range list {
				p.like(t)
			}
		}
	}
}

// Two Plans of one Outbox: each tells all of it.
func TestTwoOfOne(t *testing.T) {
	o, a, b := outbox.New(20), plan.New(), plan.New()
	o.Write(make([]byte, 8))
	if got := next(a, o, 8, 5); got != (told{0, 5, true}) || b.Sent() != 0 {
		t.Errorf("%v, %d", got, b.Sent())
	}
	if got := next(b, o, 8, 64); got != (told{0, 8, true}) || a.Sent() != 5 {
		t.Errorf("%v, %d", got, a.Sent())
	}
	a.Lost(1, 2)
	b.Lost(6, 8)
	if !slices.Equal(a.Missing(), list(1, 2)) || !slices.Equal(b.Missing(), list(6, 8)) {
		t.Errorf("%v, %v", a.Missing(), b.Missing())
	}
	o.Ack(7)
	if got := next(b, o, 8, 64); got != (told{7, 8, true}) || !slices.Equal(a.Missing(), list(1, 2)) {
		t.Errorf("%v, %v", got, a.Missing())
	}
}

// One Plan, handed another Outbox: it goes by what that one has.
func TestAnotherOutbox(t *testing.T) {
	p := made(t, "w10 n10,10 l2,4")
	less, more := outbox.New(20), outbox.New(20)
	less.Write(make([]byte, 6))
	less.Ack(3)
	if got := next(p.p, less, 50, 64); got != (told{3, 4, true}) {
		t.Errorf("what is lost: %v", got)
	}
	if got := next(p.p, less, 50, 64); got != (told{}) || p.p.Sent() != 10 {
		t.Errorf("of one with less bytes: %v, %d", got, p.p.Sent())
	}
	more.Write(make([]byte, 12))
	if got := next(p.p, more, 50, 64); got != (told{10, 12, true}) || p.p.Sent() != 12 {
		t.Errorf("of one with more bytes: %v, %d", got, p.p.Sent())
	}
}

// Of what is lost, too, another Outbox gets chunk bytes at most, and its end with them only if it has one, and that is among them.
func TestChunkOfAnotherOutbox(t *testing.T) {
	for _, r := range []struct {
		lost  string
		bytes int
		close bool
		chunk int
		want  told
	}{
		{"l0,10", 6, false, 5, told{0, 5, true}}, {"l0,10", 6, false, 6, told{0, 6, true}}, {"l0,10", 6, false, 64, told{0, 10, true}},
		{"l0,10", 4, true, 3, told{0, 3, true}}, {"l0,10", 4, true, 4, told{0, 5, true}}, {"l0,10", 20, true, 4, told{0, 4, true}},
		{"l7,10", 4, false, 2, told{7, 9, true}}, {"l7,10", 4, true, 2, told{7, 9, true}}, {"l7,10", 4, true, 64, told{7, 10, true}},
	} {
		p, other := made(t, "w10 n10,10 "+r.lost), outbox.New(20)
		other.Write(make([]byte, r.bytes))
		if r.close {
			other.Close()
		}
		if got := next(p.p, other, 50, r.chunk); got != r.want {
			t.Errorf("%v: %v", r, got)
		}
	}
}

// Next leaves the Outbox as it is.
func TestOutboxStays(t *testing.T) {
	o, p := outbox.New(9), plan.New()
	o.Write([]byte("abcdefgh"))
	o.Ack(2)
	o.Close()
	for range 3 {
		for next(p, o, 50, 3).ok {
			o.Ack(5)
		}
		p.Lost(0, 9)
	}
	if string(o.All()) != "abcdefgh" || o.Len() != 8 || o.Places() != 9 || !o.Closed() || o.Acked() != 5 || o.Ack(10) || o.Write([]byte("x")) != 0 {
		t.Errorf("%q, %d, %d, %t, %d", o.All(), o.Len(), o.Places(), o.Closed(), o.Acked())
	}
}

// overwrite writes to all of l's memory, behind its length as well.
func overwrite(l []ranges.Range) {
	l = l[:cap(l)]
	for i := range l {
		l[i] = ranges.Range{From: 77, To: -77}
	}
}

// What Missing hands out is new memory: who has it may change it, behind its length too.
func TestHandedOut(t *testing.T) {
	for _, steps := range states() {
		t.Log(steps)
		for _, on := range []string{"l0,1", "l3,4 l0,1", "a2 n0,1", "n0,64 l1,3", "l0,50 n0,2 n0,2"} {
			p := made(t, steps)
			a, b := p.p.Missing(), p.p.Missing()
			want := slices.Clone(b)
			overwrite(a)
			_ = append(a, list(5, 8, 9, 11)...)
			if !slices.Equal(b, want) {
				t.Fatal("Missing, twice: they share")
			}
			p.like(t)
			// It stays as it is, whatever comes behind.
			for _, s := range strings.Fields(on) {
				p.step(t, s)
				overwrite(a)
				p.like(t)
			}
			if !slices.Equal(b, want) {
				t.Fatalf("%v, and then %v", want, b)
			}
		}
	}
}
