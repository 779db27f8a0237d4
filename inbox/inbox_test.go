package inbox_test

import (
	"bytes"
	"math"
	"math/big"
	"slices"
	"strconv"
	"strings"
	"testing"

	"haulier/api"
	"haulier/inbox"
)

// model is an Inbox made by other means: all bytes that came by their places, gone through one by one, and reckoned without bounds.
type model struct {
	window, taken int
	came          map[int]byte
	known         bool
	end           int
}

func newModel(window int) *model {
	switch {
	case window < 1:
		window = 1
	case window > 400:
		window = 400
	}
	return &model{window: window, came: map[int]byte{}}
}

// place is the one k behind from (false: it is below 0, or beyond 2^40).
func place(from, k int) (int, bool) {
	sum := new(big.Int).Add(big.NewInt(int64(from)), big.NewInt(int64(k)))
	if sum.Sign() < 0 || sum.BitLen() > 40 {
		return 0, false
	}
	return int(sum.Int64()), true
}

func (m *model) put(from int, data []byte, fin bool) int {
	n := 0
	for k, b := range data {
		p, is := place(from, k)
		_, there := m.came[p]
		if is && !there && p < m.taken+m.window && !(m.known && p >= m.end) {
			m.came[p] = b
			n++
		}
	}
	if end, is := place(from, len(data)); fin && is && !m.known && end <= 4096 && !m.beyond(end) {
		m.known, m.end = true, end
	}
	return n
}

// beyond tells whether a byte is there that the end at that place would be ahead of.
func (m *model) beyond(end int) bool {
	for p := range m.came {
		if p >= end {
			return true
		}
	}
	return false
}

// front is how many bytes are there from 0 on.
func (m *model) front() int {
	n := 0
	for {
		if _, there := m.came[n]; !there {
			return n
		}
		n++
	}
}

func (m *model) seen() int {
	n := m.front()
	if m.known && n == m.end {
		n++
	}
	return n
}

func (m *model) read(n int) []byte {
	var b []byte
	for len(b) < n {
		c, there := m.came[m.taken]
		if !there {
			break
		}
		b = append(b, c)
		m.taken++
	}
	return b
}

// pair is an Inbox and its model.
type pair struct {
	i *inbox.Inbox
	m *model
}

func newPair(window int) pair {
	return pair{inbox.New(window), newModel(window)}
}

// like sees to it that all that p's Inbox tells of itself is the model's, each time that it is asked.
func (p pair) like(t *testing.T) {
	t.Helper()
	front := p.m.front()
	want := [4]int{p.m.seen(), p.m.taken + p.m.window, front - p.m.taken, p.m.taken}
	for range 2 {
		if got := [4]int{p.i.Seen(), p.i.Limit(), p.i.Ready(), p.i.Taken()}; got != want {
			t.Fatalf("Seen, Limit, Ready, Taken = %d, want %d", got, want)
		}
		if got, want := p.i.Done(), p.m.known && p.m.taken == p.m.end; got != want {
			t.Fatalf("Done() = %t, want %t", got, want)
		}
	}
}

// The calls of a pair see to it that the answer is the model's, and so is what is there behind it.

func (p pair) put(t *testing.T, from int, data []byte, fin bool) int {
	t.Helper()
	got := p.i.Put(from, data, fin)
	if want := p.m.put(from, data, fin); got != want {
		t.Fatalf("Put(%d, %q, %t) = %d, want %d", from, data, fin, got, want)
	}
	p.like(t)
	return got
}

func (p pair) read(t *testing.T, n int) []byte {
	t.Helper()
	got := p.i.Read(n)
	if want := p.m.read(n); !bytes.Equal(got, want) {
		t.Fatalf("Read(%d) = %q, want %q", n, got, want)
	}
	p.like(t)
	return got
}

// step does a step: "p", a place and bytes behind a comma is Put, "f" with the same is Put with a fin, "r" and a number Read.
func (p pair) step(t *testing.T, s string) {
	t.Helper()
	left, data, _ := strings.Cut(s[1:], ",")
	n, err := strconv.Atoi(left)
	switch {
	case err != nil:
		t.Fatal(err)
	case s[0] == 'r':
		p.read(t, n)
	default:
		p.put(t, n, []byte(data), s[0] == 'f')
	}
}

// steps does all steps of s, which stand with a blank between.
func (p pair) steps(t *testing.T, s string) {
	t.Helper()
	for _, s := range strings.Fields(s) {
		p.step(t, s)
	}
}

// made is a pair of that window behind the steps.
func made(t *testing.T, window int, steps string) pair {
	t.Helper()
	p := newPair(window)
	p.steps(t, steps)
	return p
}

// told is what an Inbox tells of itself: Seen, Ready, Taken, Limit, and Done as 1.
type told [5]int

func tells(i *inbox.Inbox) told {
	done := 0
	if i.Done() {
		done = 1
	}
	return told{i.Seen(), i.Ready(), i.Taken(), i.Limit(), done}
}

// edges are numbers about 0, about what is a window or an end, about both ends of what an int holds, and between.
func edges() []int {
	return []int{
		math.MinInt, math.MinInt + 1, math.MinInt + 2, -1 << 62, -1<<32 + 2, -1 << 32, -1 << 31, -4096, -400, -65, -3, -2, -1, 0, 1, 2, 3, 4, 64, 399, 400, 401, 1<<10 - 1, 4093,
		4094, 4095, 4096, 4097, 1<<16 - 1, 1 << 16, 1 << 31, 1 << 32, 1<<32 + 2, 1<<40 - 2, 1 << 40, 1<<40 + 2, 1<<62 - 1, 1 << 62, math.MaxInt - 3, math.MaxInt - 2, math.MaxInt - 1, math.MaxInt,
	}
}

func TestNothing(t *testing.T) {
	for _, window := range edges() {
		p := newPair(window)
		p.like(t)
		if got, want := tells(p.i), (told{0, 0, 0, min(max(window, 1), api.MaxWindow), 0}); got != want {
			t.Errorf("New(%d): %d, want %d", window, got, want)
		}
		for _, n := range edges() {
			if got := p.read(t, n); len(got) != 0 {
				t.Errorf("Read(%d) of a new one = %q", n, got)
			}
			if got := p.put(t, n, nil, false) + p.put(t, n, []byte{}, false); got != 0 {
				t.Errorf("Put(%d) of nothing = %d", n, got)
			}
		}
	}
}

func TestWindow(t *testing.T) {
	for _, r := range [][2]int{{math.MinInt, 1}, {-400, 1}, {-1, 1}, {0, 1}, {1, 1}, {2, 2}, {3, 3}, {399, 399}, {400, 400}, {401, 400}, {402, 400}, {800, 400}, {1<<32 + 5, 400}, {math.MaxInt, 400}} {
		p := newPair(r[0])
		many := bytes.Repeat([]byte("abcdefg"), 100)
		if got := p.put(t, 0, many, false); got != r[1] || p.i.Limit() != r[1] {
			t.Errorf("New(%d): %d bytes, Limit() = %d, want %d", r[0], got, p.i.Limit(), r[1])
		}
		if got := p.read(t, r[1]/2); p.put(t, 0, many, false) != len(got) || p.i.Limit() != r[1]+r[1]/2 {
			t.Errorf("New(%d): Limit() = %d behind %d bytes", r[0], p.i.Limit(), len(got))
		}
	}
}

// Each window, one by one: what is at Limit less 1 is taken, what is at Limit is not.
func TestEachWindow(t *testing.T) {
	for window := 1; window <= api.MaxWindow; window++ {
		p := newPair(window)
		for range 3 {
			limit := p.i.Limit()
			if limit != p.i.Taken()+window || p.put(t, limit, []byte("x"), false) != 0 || p.put(t, limit-1, []byte("yz"), false) != 1 || p.put(t, limit-1, []byte("z"), false) != 0 {
				t.Fatalf("window %d: Limit() = %d", window, limit)
			}
			gap := limit - 1 - p.i.Taken()
			if p.put(t, p.i.Taken(), bytes.Repeat([]byte("w"), gap+1), false) != gap || string(p.read(t, 500)) != strings.Repeat("w", gap)+"y" {
				t.Fatalf("window %d", window)
			}
		}
	}
}

func TestPut(t *testing.T) {
	for _, r := range []struct {
		steps, step     string
		n, seen, limit  int
		whole, behindIt string // what is read then, and once the gaps are filled with dots
	}{
		// Nothing, one byte, many; from 0, with a gap.
		{"", "p0,", 0, 0, 10, "", ".........."}, {"", "p0,a", 1, 1, 10, "a", "........."}, {"", "p0,abcde", 5, 5, 10, "abcde", "....."}, {"", "p3,a", 1, 0, 10, "", "...a......"}, {"", "p3,abc", 3, 0, 10, "", "...abc...."},
		{"", "p3,", 0, 0, 10, "", ".........."}, {"p0,ab", "p3,d", 1, 2, 10, "ab", ".d......"}, {"p3,d", "p0,ab", 2, 2, 10, "ab", ".d......"}, {"p3,d p0,ab", "p2,c", 1, 4, 10, "abcd", "......"},
		// From below 0.
		{"", "p-2,?!ab", 2, 2, 10, "ab", "........"}, {"", "p-2,?!", 0, 0, 10, "", ".........."}, {"", "p-2,?", 0, 0, 10, "", ".........."}, {"", "p-2,?!a", 1, 1, 10, "a", "........."}, {"", "p-1,?", 0, 0, 10, "", ".........."},
		{"", "p-1,?a", 1, 1, 10, "a", "........."}, {"p0,ab", "p-3,???xyc", 1, 3, 10, "abc", "......."}, {"", "p-1,?abcdefghijk", 10, 10, 10, "abcdefghij", ""}, {"p4,e", "p-1,?abcdxf", 5, 6, 10, "abcdef", "...."},
		// At what is there, over it in part, at its front, in its middle, behind it, with a gap.
		{"p2,cde", "p2,xyz", 0, 0, 10, "", "..cde....."}, {"p2,cde", "p2,xy", 0, 0, 10, "", "..cde....."}, {"p2,cde", "p3,y", 0, 0, 10, "", "..cde....."}, {"p2,cde", "p4,z", 0, 0, 10, "", "..cde....."},
		{"p2,cde", "p1,bx", 1, 0, 10, "", ".bcde....."}, {"p2,cde", "p4,xf", 1, 0, 10, "", "..cdef...."}, {"p2,cde", "p1,bxyzf", 2, 0, 10, "", ".bcdef...."}, {"p2,cde", "p0,abxyzfg", 4, 7, 10, "abcdefg", "..."},
		{"p2,cde", "p3,xyfg", 2, 0, 10, "", "..cdefg..."}, {"p2,cde", "p5,fg", 2, 0, 10, "", "..cdefg..."}, {"p2,cde", "p0,ab", 2, 5, 10, "abcde", "....."}, {"p2,cde", "p1,b", 1, 0, 10, "", ".bcde....."},
		{"p2,cde", "p6,gh", 2, 0, 10, "", "..cde.gh.."}, {"p2,cde", "p0,a", 1, 1, 10, "a", ".cde....."}, {"p1,b p3,d p5,f", "p0,axcxexg", 4, 7, 10, "abcdefg", "..."}, {"p1,b p3,d p5,f", "p2,cxexg", 3, 0, 10, "", ".bcdefg..."},
		{"p0,abc", "p0,xyz", 0, 3, 10, "abc", "......."}, {"p0,abc", "p1,yzd", 1, 4, 10, "abcd", "......"}, {"p0,abc", "p0,xyzd", 1, 4, 10, "abcd", "......"}, {"p0,abc", "p2,zd", 1, 4, 10, "abcd", "......"},
		// At Limit less 1, at it, beyond it, over it.
		{"", "p9,j", 1, 0, 10, "", ".........j"}, {"", "p10,k", 0, 0, 10, "", ".........."}, {"", "p11,k", 0, 0, 10, "", ".........."}, {"", "p9,jklm", 1, 0, 10, "", ".........j"}, {"", "p8,ijk", 2, 0, 10, "", "........ij"},
		{"", "p0,abcdefghijkl", 10, 10, 10, "abcdefghij", ""}, {"", "p10,klmnop", 0, 0, 10, "", ".........."}, {"p8,ij", "p7,hxyk", 1, 0, 10, "", ".......hij"}, {"p9,j", "p8,ixk", 1, 0, 10, "", "........ij"},
		// Behind a Read: what was read is there, and there is more room.
		{"p0,abcd r3", "p0,xyz", 0, 4, 13, "d", "........."}, {"p0,abcd r3", "p0,xyzwef", 2, 6, 13, "def", "......."}, {"p0,abcd r4", "p3,xe", 1, 5, 14, "e", "........."}, {"p0,abcd r3", "p12,m", 1, 4, 13, "d", "........m"},
		{"p0,abcd r3", "p13,n", 0, 4, 13, "d", "........."}, {"p0,abcd r3", "p9,jklmn", 4, 4, 13, "d", ".....jklm"}, {"p0,abcdefghij r10", "p10,klmnopqrstu", 10, 20, 20, "klmnopqrst", ""}, {"p0,abcdefghij r10", "p0,0123456789k", 1, 11, 20, "k", "........."},
		{"p0,abcdefghij r1", "p0,0123456789kl", 1, 11, 11, "bcdefghijk", ""}, {"p0,abcdefghij r7 p10,klmnop r9", "p16,qrstuvwxyz!", 10, 26, 26, "qrstuvwxyz", ""}, {"p0,abcd r3", "p-2,??xyzwe", 1, 5, 13, "de", "........"},
	} {
		p := made(t, 10, r.steps)
		before := p.i.Seen() // none of these has an end
		p.step(t, r.step)
		if p.i.Seen() != r.seen || p.i.Limit() != r.limit || p.i.Ready() != len(r.whole) || p.i.Seen() < before {
			t.Errorf("%q, %q: %d", r.steps, r.step, tells(p.i))
		}
		again := made(t, 10, r.steps)
		from, data, _ := strings.Cut(r.step[1:], ",")
		place, _ := strconv.Atoi(from)
		if got := again.i.Put(place, []byte(data), false); got != r.n {
			t.Errorf("%q, %q: %d", r.steps, r.step, got)
		}
		if got := string(p.read(t, 99)); got != r.whole {
			t.Errorf("%q, %q: %q", r.steps, r.step, got)
		}
		dots := again.i.Limit() - again.i.Taken()
		again.i.Put(again.i.Taken(), bytes.Repeat([]byte("."), dots), false)
		if got := string(again.i.Read(99)); got != r.whole+r.behindIt {
			t.Errorf("%q, %q, and dots: %q", r.steps, r.step, got)
		}
	}
}

// states are steps to Inboxes of many kinds, of a window of 4.
func states() []string {
	return []string{
		"", "p0,a", "p0,abcd", "p1,b", "p2,cd", "p1,bc p3,d", "p0,ab r1", "p0,ab r2", "p0,abcd r4", "p0,abcd r2 p5,f", "p0,abcd r4 p4,efgh r3", "p0,ab p3,d r2",
		"f0,", "f0,ab", "f0,ab r1", "f0,ab r2", "f4,", "f2,cd", "p0,ab f3,", "p0,abcd r4 f6,", "p0,abcd r4 f4,", "p1,b f2,cd", "f3,defgh p0,abc", "f4090,abcdef", "f4096,", "p0,abcd r3 f7,x",
	}
}

// Each of the edges as from, with bytes of some lengths, with a fin or not, in each of the states.
func TestPutEdges(t *testing.T) {
	for _, steps := range states() {
		for _, from := range edges() {
			for _, data := range []string{"", "x", "xy", "xyz", "uvwxyz", strings.Repeat("xyz", 22), strings.Repeat("vwxyz", 820)} {
				for _, fin := range []bool{false, true} {
					t.Log(steps, "and", from, len(data), fin)
					p := made(t, 4, steps)
					p.put(t, from, []byte(data), fin)
					p.put(t, from, []byte(data), !fin)
					p.steps(t, "p0,ABCDEFGHIJ r9 f4,EFG")
				}
			}
		}
	}
}

// The place of a fin is past what an int holds, or far below 0: it is none, and so is each byte's; and none comes round again.
func TestPastInt(t *testing.T) {
	for _, from := range []int{math.MaxInt, math.MaxInt - 1, math.MaxInt - 2, math.MaxInt - 3, math.MaxInt - 4, math.MinInt, math.MinInt + 1, -5, 1 << 62, -1 << 62, 1 << 32, -1 << 32} {
		for _, fin := range []bool{false, true} {
			i := inbox.New(9)
			if got := i.Put(from, []byte("abcd"), fin); got != 0 || tells(i) != (told{0, 0, 0, 9, 0}) {
				t.Errorf("Put(%d, .., %t) = %d, %d", from, fin, got, tells(i))
			}
			if i.Put(0, []byte("abcd"), true) != 4 || i.Seen() != 5 {
				t.Errorf("behind Put(%d, .., %t): %d", from, fin, tells(i))
			}
		}
	}
}

func TestFin(t *testing.T) {
	for _, r := range []struct {
		window int
		steps  string
		want   told
	}{
		// With no bytes, at 0, behind all that is there, right at the end of it, ahead of some of it.
		{9, "f0,", told{1, 0, 0, 9, 1}}, {9, "p0,abc f5,", told{3, 3, 0, 9, 0}}, {9, "p0,abc f5, p3,de", told{6, 5, 0, 9, 0}}, {9, "p0,abc f3,", told{4, 3, 0, 9, 0}},
		{9, "p0,abc f2,", told{3, 3, 0, 9, 0}}, {9, "p0,abc f0,", told{3, 3, 0, 9, 0}}, {9, "p0,a f0,", told{1, 1, 0, 9, 0}}, {9, "p2,c f0,ab", told{3, 3, 0, 9, 0}}, {9, "p2,c f0,ab f3,", told{4, 3, 0, 9, 0}},
		{9, "p2,c f0,abc", told{4, 3, 0, 9, 0}}, {9, "p2,c f2,", told{0, 0, 0, 9, 0}}, {9, "p2,c f2, p0,ab", told{3, 3, 0, 9, 0}}, {9, "p2,c f3, p0,ab", told{4, 3, 0, 9, 0}}, {9, "p3,d f0,a", told{1, 1, 0, 9, 0}},
		// Ahead of what was read, right at the end of that, behind it.
		{9, "p0,abc r3 f2,", told{3, 0, 3, 12, 0}}, {9, "p0,abc r3 f3,", told{4, 0, 3, 12, 1}}, {9, "p0,abc r3 f0,abc", told{4, 0, 3, 12, 1}}, {9, "p0,abc r3 f0,ab", told{3, 0, 3, 12, 0}}, {9, "p0,abc r3 f4,", told{3, 0, 3, 12, 0}},
		{9, "p0,abc r2 f2,", told{3, 1, 2, 11, 0}}, {9, "p0,abc r2 f3,", told{4, 1, 2, 11, 0}}, {9, "p0,abc r2 f3, r1", told{4, 0, 3, 12, 1}},
		// With bytes: all new, none, some.
		{9, "f0,abc", told{4, 3, 0, 9, 0}}, {9, "f1,bc", told{0, 0, 0, 9, 0}}, {9, "f1,bc p0,a", told{4, 3, 0, 9, 0}}, {9, "p0,abc f0,xyz", told{4, 3, 0, 9, 0}}, {9, "p0,abc f1,yz", told{4, 3, 0, 9, 0}}, {9, "p0,abc f1,yzde", told{6, 5, 0, 9, 0}},
		// From below 0: what counts is where its bytes end.
		{9, "f-2,?!", told{1, 0, 0, 9, 1}}, {9, "f-2,?!ab", told{3, 2, 0, 9, 0}}, {9, "f-1,", told{0, 0, 0, 9, 0}}, {9, "f-2,?", told{0, 0, 0, 9, 0}}, {9, "f-2,? f0,", told{1, 0, 0, 9, 1}}, {9, "f-1, f2,", told{0, 0, 0, 9, 0}}, {9, "p0,ab f-1,?xy", told{3, 2, 0, 9, 0}},
		// Beyond Limit: its bytes do not all come, but it is known.
		{4, "f10,", told{0, 0, 0, 4, 0}}, {4, "f0,abcdef", told{4, 4, 0, 4, 0}}, {4, "f0,abcdef r4 p4,efgh", told{7, 2, 4, 8, 0}}, {4, "f0,abcdef r4 p4,efgh r2", told{7, 0, 6, 10, 1}}, {4, "f5, p0,abcdefg r9", told{4, 0, 4, 8, 0}},
		{4, "f5, p0,abcdefg r9 p4,xyz", told{6, 1, 4, 8, 0}}, {4, "f4,efgh p0,abcd r4 p4,efghij r4", told{9, 0, 8, 12, 1}}, {4, "f4,", told{0, 0, 0, 4, 0}}, {4, "f4, p0,abcdef", told{5, 4, 0, 4, 0}}, {4, "f3,defg f0,abcd p0,abcd", told{4, 4, 0, 4, 0}},
		// At MaxBytes, one beyond it.
		{4, "f4096, f2, p0,ab", told{2, 2, 0, 4, 0}}, {4, "f4097, f2, p0,ab", told{3, 2, 0, 4, 0}}, {4, "f4095,x f2, p0,ab", told{2, 2, 0, 4, 0}}, {4, "f4095,xy f2, p0,ab", told{3, 2, 0, 4, 0}}, {4, "f4096,x f2, p0,ab", told{3, 2, 0, 4, 0}},
		// Twice, the same and another one.
		{9, "f0,abc f0,abc", told{4, 3, 0, 9, 0}}, {9, "f0,abc f3,", told{4, 3, 0, 9, 0}}, {9, "f0,abc f4,", told{4, 3, 0, 9, 0}}, {9, "f0,abc f2,", told{4, 3, 0, 9, 0}}, {9, "f0,abc f0,abcd", told{4, 3, 0, 9, 0}}, {9, "f3, f5, p0,abcde", told{4, 3, 0, 9, 0}},
		{9, "f5, f3, p0,abc", told{3, 3, 0, 9, 0}}, {9, "f5, f0,abc p0,abcdef", told{6, 5, 0, 9, 0}}, {9, "f3, f0,abcde", told{4, 3, 0, 9, 0}}, {9, "f0, f2,", told{1, 0, 0, 9, 1}}, {9, "f0, f0,", told{1, 0, 0, 9, 1}}, {9, "f0, f0,ab", told{1, 0, 0, 9, 1}},
		// One that says nothing, and then one that may be.
		{9, "p4,e f2, f5, p0,abcd", told{6, 5, 0, 9, 0}}, {9, "p4,e f4, f6, p0,abcdxf", told{7, 6, 0, 9, 0}}, {9, "f-1, f4097, f3, p0,abc", told{4, 3, 0, 9, 0}},
		// Bytes at the end, and behind it, when it is known.
		{9, "f3, p3,d", told{0, 0, 0, 9, 0}}, {9, "f3, p3,d p0,abc", told{4, 3, 0, 9, 0}}, {9, "f3, p4,e p0,abc", told{4, 3, 0, 9, 0}}, {9, "f3, p2,cde p0,ab", told{4, 3, 0, 9, 0}}, {9, "f0, p0,a", told{1, 0, 0, 9, 1}}, {9, "f0,ab p2,c", told{3, 2, 0, 9, 0}},
		{9, "f0,ab p0,xyzw r9", told{3, 0, 2, 11, 1}}, {9, "f0,ab r2 p2,cd", told{3, 0, 2, 11, 1}}, {9, "f0,ab r1 p1,xyz", told{3, 1, 1, 10, 0}}, {9, "f8, p5,fghijk p0,abcde", told{9, 8, 0, 9, 0}}, {9, "f9, p5,fghijk p0,abcde", told{10, 9, 0, 9, 0}},
	} {
		p := made(t, r.window, r.steps)
		if got := tells(p.i); got != r.want {
			t.Errorf("window %d, behind %q: %d, want %d", r.window, r.steps, got, r.want)
		}
	}
}

// Each place as that of a fin: it is known from 0 to MaxBytes.
func TestEachFin(t *testing.T) {
	for end := -2; end < api.MaxBytes+3; end++ {
		i := inbox.New(7)
		i.Put(end, nil, true)
		known := end >= 0 && end <= api.MaxBytes
		if i.Put(9, nil, true); i.Done() != (end == 0) {
			t.Fatalf("%d: Done() = %t", end, i.Done())
		}
		got := 0
		for place := 0; place < 12; place += 4 {
			got += i.Put(place, []byte("abcd"), false)
			i.Read(9)
		}
		want := 9
		if known {
			want = min(end, 12)
		}
		if got != want {
			t.Fatalf("%d: %d bytes, want %d", end, got, want)
		}
	}
}

func TestRead(t *testing.T) {
	for _, r := range []struct {
		steps string
		n     int
		want  string
		told  told
	}{
		{"p0,abcde", math.MinInt, "", told{5, 5, 0, 8, 0}}, {"p0,abcde", -1, "", told{5, 5, 0, 8, 0}}, {"p0,abcde", 0, "", told{5, 5, 0, 8, 0}}, {"p0,abcde", 1, "a", told{5, 4, 1, 9, 0}}, {"p0,abcde", 4, "abcd", told{5, 1, 4, 12, 0}},
		{"p0,abcde", 5, "abcde", told{5, 0, 5, 13, 0}}, {"p0,abcde", 6, "abcde", told{5, 0, 5, 13, 0}}, {"p0,abcde", math.MaxInt, "abcde", told{5, 0, 5, 13, 0}}, {"p0,abcde", 1<<32 + 2, "abcde", told{5, 0, 5, 13, 0}}, {"p0,abcde", -1<<32 + 2, "", told{5, 5, 0, 8, 0}},
		// Behind another Read.
		{"p0,abcde r2", 0, "", told{5, 3, 2, 10, 0}}, {"p0,abcde r2", 1, "c", told{5, 2, 3, 11, 0}}, {"p0,abcde r2", 3, "cde", told{5, 0, 5, 13, 0}}, {"p0,abcde r2", 9, "cde", told{5, 0, 5, 13, 0}}, {"p0,abcde r5", 1, "", told{5, 0, 5, 13, 0}}, {"p0,abcde r2 r-3", 2, "cd", told{5, 1, 4, 12, 0}},
		// Up to a gap, and behind it.
		{"p0,ab p3,de", 9, "ab", told{2, 0, 2, 10, 0}}, {"p0,ab p3,de r9", 9, "", told{2, 0, 2, 10, 0}}, {"p1,bc", 9, "", told{0, 0, 0, 8, 0}}, {"p0,ab p3,de r1 p2,c", 9, "bcde", told{5, 0, 5, 13, 0}}, {"p0,ab p3,de r2 p2,c", 2, "cd", told{5, 1, 4, 12, 0}},
		// Up to the end.
		{"f0,abc", 9, "abc", told{4, 0, 3, 11, 1}}, {"f0,abc", 4, "abc", told{4, 0, 3, 11, 1}}, {"f0,abc", 3, "abc", told{4, 0, 3, 11, 1}}, {"f0,abc", 2, "ab", told{4, 1, 2, 10, 0}}, {"f0,abc r3", 1, "", told{4, 0, 3, 11, 1}}, {"f0,", 1, "", told{1, 0, 0, 8, 1}}, {"f4, p0,abc", 4, "abc", told{3, 0, 3, 11, 0}},
		// Round the window, more than once.
		{"p0,abcdefgh r8 p8,ijklmnop r5", 3, "nop", told{16, 0, 16, 24, 0}}, {"p0,abcdefgh r5 p8,ijklm", 8, "fghijklm", told{13, 0, 13, 21, 0}}, {"p0,abcdefgh r3 p8,ijk r8 p11,lmnopqrs r7", 9, "s", told{19, 0, 19, 27, 0}},
		{"p0,abcdefgh r6 p12,mn p9,j p8,i", 9, "ghij", told{10, 0, 10, 18, 0}}, {"p0,abcdefgh r6 p12,mn p9,j p8,i r9 p10,klxx", 9, "klmn", told{14, 0, 14, 22, 0}},
	} {
		p := made(t, 8, r.steps)
		if got := string(p.read(t, r.n)); got != r.want || tells(p.i) != r.told {
			t.Errorf("%q, Read(%d): %q, %d", r.steps, r.n, got, tells(p.i))
		}
	}
}

func TestReadEdges(t *testing.T) {
	for _, steps := range states() {
		for _, n := range edges() {
			p := made(t, 4, steps)
			p.read(t, n)
			p.read(t, n)
			p.steps(t, "p0,ABCDEFGHIJ r9")
		}
	}
}

func TestDone(t *testing.T) {
	for _, r := range []struct {
		steps string
		done  bool
	}{
		{"", false}, {"r5", false}, {"f0,", true}, {"f1,", false}, {"f0, p0,a r1", true}, {"p0,abc", false}, {"p0,abc r2", false}, {"p0,abc r3", false}, {"p0,abc r3 f4,", false}, {"p0,abc r3 f3,", true}, {"p0,abc f3, r2", false},
		{"p0,abc f3, r3", true}, {"p0,abc f3, r2 r1", true}, {"f3, p0,ab r2", false}, {"f3, p0,ab r2 p2,c", false}, {"f3, p0,ab r2 p2,c r1", true}, {"f3, p1,bc r3", false}, {"p0,abcd r4 f3,", false}, {"f3, p0,abcd r9", true}, {"f3, p0,abcd r9 p3,d f4,", true},
	} {
		if p := made(t, 9, r.steps); p.i.Done() != r.done {
			t.Errorf("behind %q: Done() = %t", r.steps, p.i.Done())
		}
	}
}

// As much as a side may say, and on: bytes are taken beyond MaxBytes as well, but the end is not known there.
func TestAll(t *testing.T) {
	for _, window := range []int{1, 7, 64, 399, 400} {
		p := newPair(window)
		for place := 0; place < api.MaxBytes+900; {
			n := p.put(t, place, bytes.Repeat([]byte{byte(place * 7)}, 64), false)
			place += n
			p.read(t, window)
			if n == 0 || p.i.Taken() != place {
				t.Fatalf("window %d: %d bytes at %d", window, n, place)
			}
		}
		if p.put(t, p.i.Taken(), nil, true); p.i.Done() {
			t.Errorf("window %d: an end beyond MaxBytes", window)
		}
		q := newPair(window)
		for q.i.Taken() < api.MaxBytes {
			q.put(t, q.i.Taken(), bytes.Repeat([]byte("x"), min(64, api.MaxBytes-q.i.Taken())), false)
			q.read(t, 64)
		}
		if q.i.Done() || q.put(t, api.MaxBytes, nil, true) != 0 || !q.i.Done() || q.i.Seen() != api.MaxBytes+1 {
			t.Errorf("window %d: %d", window, tells(q.i))
		}
	}
}

// Puts that bring nothing new, and Reads of none, change nothing: neither what is told nor what comes behind.
func TestNothingChanges(t *testing.T) {
	for _, steps := range states() {
		for _, on := range []string{"p0,wxyz r2 f5,e", "r9 f0,abc r9", "f3,d p0,abc r9", "p2,yz r1 p0,wxyz r9 f4,ef r9", "f4096, r9"} {
			t.Log(steps, "and", on)
			p := made(t, 4, steps)
			for _, s := range strings.Fields(on) {
				nothing(t, p)
				p.step(t, s)
			}
			nothing(t, p)
		}
	}
}

// nothing makes calls that bring and take nothing.
func nothing(t *testing.T, p pair) {
	t.Helper()
	was := tells(p.i)
	for _, from := range []int{math.MinInt, -4, -1 << 32, p.i.Limit(), p.i.Limit() + 1, 1 << 32, 1 << 40, math.MaxInt - 3, math.MaxInt} {
		if got := p.i.Put(from, []byte("????"), false); got != 0 {
			t.Fatalf("Put(%d, ..) = %d", from, got)
		}
	}
	for _, end := range []int{math.MinInt, -1, api.MaxBytes + 1, 1 << 32, math.MaxInt, p.i.Taken() - 1} {
		if got := p.i.Put(end, nil, true); got != 0 {
			t.Fatalf("Put(%d, nil, true) = %d", end, got)
		}
	}
	front := p.i.Taken() + p.i.Ready()
	if got := p.i.Put(0, bytes.Repeat([]byte("?"), front), false); got != 0 {
		t.Fatalf("%d bytes of those that are there", got)
	}
	if front > 0 && p.i.Put(0, bytes.Repeat([]byte("?"), front-1), true) != 0 {
		t.Fatal("an end ahead of what is there")
	}
	if got := len(p.i.Read(0)) + len(p.i.Read(-1)) + len(p.i.Read(math.MinInt)); got != 0 {
		t.Fatalf("Read of none: %d", got)
	}
	if got := tells(p.i); got != was {
		t.Fatalf("%d, and then %d", was, got)
	}
	p.like(t)
}

// Each row of up to four steps over seventeen, behind some beginnings.
func TestRows(t *testing.T) {
	steps := []string{"p0,a", "p0,AB", "p1,bC", "p2,cd", "p3,dEF", "p4,ef", "p-1,?v", "p5,fghi", "f0,", "f1,", "f2,cD", "f4,e", "f4,", "f0,wxy", "r1", "r2", "r9"}
	for _, begin := range []string{"", "p0,abc r2", "p2,CD f5,"} {
		var walk func(row string, more int)
		walk = func(row string, more int) {
			made(t, 4, row)
			for i := 0; i < len(steps) && more > 0; i++ {
				walk(row+" "+steps[i], more-1)
			}
		}
		walk(begin, 4)
	}
}

// chance is a row of numbers that looks like any, and is the same each time.
type chance uint64

func (c *chance) below(n int) int {
	*c = *c*6364136223846793005 + 1442695040888963407
	return int(uint64(*c) >> 33 % uint64(n))
}

// data is up to n-1 bytes, each of any value.
func (c *chance) data(n int) []byte {
	b := make([]byte, c.below(n))
	for k := range b {
		b[k] = byte(c.below(256))
	}
	return b
}

// act makes a call about what is not read, with few fins, and seldom one of the edges.
func (c *chance) act(t *testing.T, p pair) {
	t.Helper()
	window := p.m.window
	from, n := p.m.taken-2+c.below(window+4), c.below(window+2)
	if c.below(15) == 0 {
		from, n = edges()[c.below(len(edges()))], edges()[c.below(len(edges()))]
	}
	switch c.below(8) {
	case 0, 1, 2, 3, 4:
		p.put(t, from, c.data(2+window/2), c.below(40) == 0)
	case 5:
		p.put(t, p.m.taken-c.below(3), c.data(window+4), c.below(60) == 0)
	default:
		p.read(t, n)
	}
}

func TestLongRows(t *testing.T) {
	c := chance(1)
	for k := range 400 {
		p := newPair(1 + k%40)
		for range 120 {
			c.act(t, p)
		}
	}
	p := newPair(api.MaxWindow)
	for range 200 {
		c.act(t, p)
	}
}

// Pieces of one row of bytes, doubled and turned round: what is read is that row, to its end, and nothing twice.
func TestPieces(t *testing.T) {
	c := chance(2)
	for k := range 200 {
		all := c.data(600)
		i, got, done := inbox.New(1+k%90), []byte{}, false
		for turn := 0; !done && turn < 1<<20; turn++ {
			from := min(i.Taken()+c.below(100), len(all))
			to := min(from+c.below(20), len(all))
			i.Put(from, all[from:to], to == len(all))
			i.Put(i.Seen(), nil, false)
			got = append(got, i.Read(c.below(30))...)
			done = i.Done()
		}
		if !done || !bytes.Equal(got, all) || i.Seen() != len(all)+1 || i.Taken() != len(all) {
			t.Fatalf("%d: %d of %d bytes, %d", k, len(got), len(all), tells(i))
		}
	}
}

// Four Inboxes at once: none has anything of another.
func TestSeveral(t *testing.T) {
	c := chance(5)
	for range 25 {
		list := []pair{newPair(5), newPair(5), newPair(9), newPair(1)}
		for range 150 {
			c.act(t, list[c.below(4)])
			for _, p := range list {
				p.like(t)
			}
		}
	}
}

// What is handed in is not changed, nor what lies behind its length, and not kept: the one that has it may change it.
func TestHandedIn(t *testing.T) {
	for _, steps := range states() {
		for from := -2; from < 8; from++ {
			for _, fin := range []bool{false, true} {
				t.Log(steps, "and", from, fin)
				p := made(t, 4, steps)
				memory := []byte("uvwxyz??????")
				p.put(t, from, memory[:6], fin)
				p.read(t, 1)
				if string(memory) != "uvwxyz??????" {
					t.Fatalf("%q", memory)
				}
				for k := range memory {
					memory[k] = '!'
				}
				p.steps(t, "p0,ABCDEFGHIJ r2 p0,ABCDEFGHIJ r9 p0,ABCDEFGHIJ r9")
				if string(memory) != "!!!!!!!!!!!!" {
					t.Fatalf("%q", memory)
				}
			}
		}
	}
}

// What is handed out is new memory: who has it may change it, behind its length too, and it stays as it is, whatever comes behind.
func TestHandedOut(t *testing.T) {
	for _, steps := range states() {
		for _, n := range []int{-1, 0, 1, 2, 9} {
			for _, on := range []string{"p0,ABCDEFGHIJ r9", "r1 r1 p0,ABCDEFGHIJ r9", "p3,wxyz p0,ABCDEFGHIJ r2 p0,ABCDEFGHIJ r9", "f4,v p0,ABCDEFGHIJ r9"} {
				t.Log(steps, "and", n, "and", on)
				p, q := made(t, 4, steps), made(t, 4, steps)
				kept := q.read(t, n)
				was := slices.Clone(kept)
				list := p.read(t, n)
				for _, s := range strings.Fields(on) {
					for k := range list[:cap(list)] {
						list[:cap(list)][k] = '!'
					}
					_ = append(list, '?')
					p.like(t)
					p.step(t, s)
					q.step(t, s)
				}
				if !bytes.Equal(kept, was) {
					t.Fatalf("%q, and then %q", was, kept)
				}
			}
		}
	}
}
