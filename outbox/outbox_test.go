package outbox_test

import (
	"bytes"
	"math"
	"strconv"
	"strings"
	"testing"

	"haulier/api"
	"haulier/outbox"
)

// place is a place of the model: a byte, or the end.
type place struct {
	b    byte
	end  bool
	seen bool
}

// model is an Outbox made by other means: a list of places, gone through one by one.
type model struct {
	buffer int
	list   []place
}

func newModel(buffer int) *model {
	switch {
	case buffer < 1:
		buffer = 1
	case buffer > 400:
		buffer = 400
	}
	return &model{buffer: buffer}
}

// count is how many places there are of which is tells true.
func (m *model) count(is func(p place) bool) int {
	n := 0
	for _, p := range m.list {
		if is(p) {
			n++
		}
	}
	return n
}

func (m *model) bytes() int {
	return m.count(func(p place) bool { return !p.end })
}

func (m *model) waiting() int {
	return m.count(func(p place) bool { return !p.end && !p.seen })
}

func (m *model) closed() bool {
	return m.count(func(p place) bool { return p.end }) > 0
}

func (m *model) acked() int {
	return m.count(func(p place) bool { return p.seen })
}

func (m *model) write(b []byte) int {
	waiting, all := m.waiting(), m.bytes()
	for i, c := range b {
		if m.closed() || waiting+i == m.buffer || all+i == 4096 {
			return i
		}
		m.list = append(m.list, place{b: c})
	}
	return len(b)
}

func (m *model) close() bool {
	if m.closed() {
		return false
	}
	m.list = append(m.list, place{end: true})
	return true
}

func (m *model) ack(seen int) bool {
	if seen < 0 || seen > len(m.list) {
		return false
	}
	for i := range seen {
		m.list[i].seen = true
	}
	return true
}

// open is how many places may be sent: the bytes below limit, and the end, if these are all.
func (m *model) open(limit int) int {
	n := 0
	for i, p := range m.list {
		if i < limit || p.end && i == limit {
			n++
		}
	}
	return n
}

func (m *model) piece(from, to int) (data []byte, fin bool) {
	if from < 0 || from > to || to > len(m.list) {
		return nil, false
	}
	for _, p := range m.list[from:to] {
		if p.end {
			fin = true
		} else {
			data = append(data, p.b)
		}
	}
	return data, fin
}

func (m *model) all() []byte {
	data, _ := m.piece(0, len(m.list))
	return data
}

// told sees to it that all that o tells of how much there is fits the model.
func told(t *testing.T, o *outbox.Outbox, m *model) {
	t.Helper()
	if got, want := o.Len(), m.bytes(); got != want {
		t.Fatalf("Len() = %d, want %d", got, want)
	}
	if got, want := o.Places(), len(m.list); got != want {
		t.Fatalf("Places() = %d, want %d", got, want)
	}
	if got, want := o.Closed(), m.closed(); got != want {
		t.Fatalf("Closed() = %t, want %t", got, want)
	}
	if got, want := o.Acked(), m.acked(); got != want {
		t.Fatalf("Acked() = %d, want %d", got, want)
	}
	if got, want := o.All(), m.all(); !bytes.Equal(got, want) {
		t.Fatalf("All() = %q, want %q", got, want)
	}
}

func opens(t *testing.T, o *outbox.Outbox, m *model, limit int) {
	t.Helper()
	if got, want := o.Open(limit), m.open(limit); got != want {
		t.Fatalf("%q, closed %t: Open(%d) = %d, want %d", o.All(), o.Closed(), limit, got, want)
	}
}

func pieces(t *testing.T, o *outbox.Outbox, m *model, from, to int) {
	t.Helper()
	got, fin := o.Piece(from, to)
	want, end := m.piece(from, to)
	if !bytes.Equal(got, want) || fin != end {
		t.Fatalf("%q, closed %t: Piece(%d, %d) = %q, %t, want %q, %t", o.All(), o.Closed(), from, to, got, fin, want, end)
	}
}

// like sees to it that each answer of o that changes nothing is the model's, at each place and beside them, and is so again when it is asked again.
func like(t *testing.T, o *outbox.Outbox, m *model) {
	t.Helper()
	told(t, o, m)
	behind := len(m.list) + 2
	for from := -2; from <= behind; from++ {
		opens(t, o, m, from)
		for to := -2; to <= behind; to++ {
			pieces(t, o, m, from, to)
		}
	}
	told(t, o, m)
}

// far are numbers far from any place.
func far() []int {
	return []int{
		math.MinInt, math.MinInt + 1, -1 << 62, -1 << 32, -1<<32 + 1, -1 << 31, -1 << 16, -4097, -401,
		5000, 1 << 16, 1<<31 - 1, 1 << 31, 1 << 32, 1<<32 + 1, 1<<32 + 3, 1 << 62, math.MaxInt - 1, math.MaxInt,
	}
}

// farOff sees to it that far numbers, on either side or both, are told as the words say.
func farOff(t *testing.T, o *outbox.Outbox, m *model) {
	t.Helper()
	for _, a := range far() {
		opens(t, o, m, a)
		for _, b := range far() {
			pieces(t, o, m, a, b)
		}
		for b := -1; b <= len(m.list)+1; b++ {
			pieces(t, o, m, a, b)
			pieces(t, o, m, b, a)
		}
		if o.Ack(a) {
			t.Fatalf("Ack(%d) is true", a)
		}
	}
	like(t, o, m)
}

// pair is an Outbox and its model.
type pair struct {
	o *outbox.Outbox
	m *model
}

func newPair(buffer int) pair {
	return pair{outbox.New(buffer), newModel(buffer)}
}

func (p pair) write(t *testing.T, b string) {
	t.Helper()
	if got, want := p.o.Write([]byte(b)), p.m.write([]byte(b)); got != want {
		t.Fatalf("Write(%q) = %d, want %d", b, got, want)
	}
}

func (p pair) close(t *testing.T) {
	t.Helper()
	if got, want := p.o.Close(), p.m.close(); got != want {
		t.Fatalf("Close() = %t, want %t", got, want)
	}
}

func (p pair) ack(t *testing.T, seen int) {
	t.Helper()
	if got, want := p.o.Ack(seen), p.m.ack(seen); got != want {
		t.Fatalf("Ack(%d) = %t, want %t", seen, got, want)
	}
}

// step does a step: "c" is Close, "a" and a number Ack, "w" and bytes Write.
func (p pair) step(t *testing.T, s string) {
	t.Helper()
	switch s[0] {
	case 'c':
		p.close(t)
	case 'a':
		seen, _ := strconv.Atoi(s[1:])
		p.ack(t, seen)
	case 'w':
		p.write(t, s[1:])
	}
}

// made is a pair behind the steps, which stand with a blank between.
func made(t *testing.T, buffer int, steps string) pair {
	t.Helper()
	p := newPair(buffer)
	for _, s := range strings.Fields(steps) {
		p.step(t, s)
	}
	return p
}

// states are rows of steps, in a buffer of 5, that come to each kind of Outbox.
func states() []string {
	return []string{
		"", "c", "c a1", "wa", "wa c", "wa c a1", "wa c a2", "wabc", "wabc a2", "wabc a3", "wabc c", "wabc a1 c", "wabc c a3", "wabc c a4",
		"wabcdefg", "wabcdefg a2 wfgh", "wabcdefg a5 wfghijk", "wabcdefg a5 wfghij c", "wabcdefg a3 wfgh c a9",
	}
}

func TestANewOne(t *testing.T) {
	for _, buffer := range []int{math.MinInt, -1, 0, 1, 2, 5, api.MaxBuffer, api.MaxBuffer + 1, math.MaxInt} {
		o := outbox.New(buffer)
		if o.Len() != 0 || o.Places() != 0 || o.Closed() || o.Acked() != 0 || len(o.All()) != 0 {
			t.Errorf("New(%d): %d, %d, %t, %d, %q", buffer, o.Len(), o.Places(), o.Closed(), o.Acked(), o.All())
		}
		if o.Open(0) != 0 || o.Open(-1) != 0 || o.Open(1) != 0 || o.Open(math.MaxInt) != 0 || o.Open(math.MinInt) != 0 {
			t.Errorf("New(%d): Open", buffer)
		}
		if data, fin := o.Piece(0, 0); len(data) != 0 || fin {
			t.Errorf("New(%d): Piece(0, 0) = %q, %t", buffer, data, fin)
		}
		if o.Ack(1) || o.Ack(-1) || !o.Ack(0) || o.Acked() != 0 {
			t.Errorf("New(%d): Ack", buffer)
		}
	}
}

func TestBuffer(t *testing.T) {
	many := bytes.Repeat([]byte("many"), 200)
	for _, r := range []struct{ buffer, fit int }{
		{math.MinInt, 1}, {math.MinInt + 1, 1}, {-1 << 32, 1}, {-1<<32 + 7, 1}, {-400, 1}, {-2, 1}, {-1, 1}, {0, 1}, {1, 1}, {2, 2}, {3, 3}, {7, 7},
		{64, 64}, {255, 255}, {256, 256}, {257, 257}, {398, 398}, {399, 399}, {400, 400}, {401, 400}, {402, 400}, {800, 400}, {4096, 400}, {4097, 400},
		{1 << 31, 400}, {1 << 32, 400}, {1<<32 + 1, 400}, {math.MaxInt - 1, 400}, {math.MaxInt, 400},
	} {
		// At once, and one by one.
		o := outbox.New(r.buffer)
		if got := o.Write(many); got != r.fit || o.Len() != r.fit || o.Places() != r.fit || !bytes.Equal(o.All(), many[:r.fit]) {
			t.Errorf("New(%d): Write = %d, want %d", r.buffer, got, r.fit)
		}
		if got := o.Write(many); got != 0 || o.Len() != r.fit {
			t.Errorf("New(%d): one Write more = %d", r.buffer, got)
		}
		o = outbox.New(r.buffer)
		for i := range 500 {
			if got := o.Write([]byte{byte(i)}); (got == 1) != (i < r.fit) || got != o.Len()-min(i, r.fit) {
				t.Errorf("New(%d): Write of the byte %d = %d", r.buffer, i, got)
			}
		}
		// Behind an Ack of one, one more fits; behind one of all, as many as at first.
		if got, more := o.Ack(1), o.Write(many); !got || more != 1 {
			t.Errorf("New(%d): behind Ack(1) Write = %d", r.buffer, more)
		}
		if got, more := o.Ack(o.Len()), o.Write(many); !got || more != r.fit {
			t.Errorf("New(%d): behind an Ack of all Write = %d", r.buffer, more)
		}
	}
}

// wrote sees to it that Write of b is n, and that its first n bytes stand behind the ones ahead.
func wrote(t *testing.T, o *outbox.Outbox, b []byte, n int) {
	t.Helper()
	want := append(o.All(), b[:n]...)
	if got := o.Write(b); got != n {
		t.Fatalf("Write(%q) = %d, want %d", b, got, n)
	}
	if got := o.All(); !bytes.Equal(got, want) || o.Len() != len(want) {
		t.Fatalf("All() = %q, want %q", got, want)
	}
}

func TestWrite(t *testing.T) {
	o := outbox.New(5)
	wrote(t, o, nil, 0)
	wrote(t, o, []byte{}, 0)
	wrote(t, o, []byte("abcd"), 4)
	wrote(t, o, nil, 0)
	wrote(t, o, []byte("ef"), 1)
	wrote(t, o, []byte("g"), 0)
	wrote(t, o, nil, 0)
	for _, r := range []struct {
		b string
		n int
	}{{"", 0}, {"a", 1}, {"abcd", 4}, {"abcde", 5}, {"abcdef", 5}, {"abcdefghijklmno", 5}, {"\x00\xff\x00", 3}} {
		wrote(t, outbox.New(5), []byte(r.b), r.n)
	}
	// Each byte there is.
	var every []byte
	for i := range 256 {
		every = append(every, byte(i))
	}
	wrote(t, outbox.New(api.MaxBuffer), every, 256)
}

func TestWriteBehindAnAck(t *testing.T) {
	o := outbox.New(5)
	wrote(t, o, []byte("abcdef"), 5)
	o.Ack(0)
	wrote(t, o, []byte("x"), 0)
	o.Ack(2)
	wrote(t, o, []byte("f"), 1)
	wrote(t, o, []byte("gh"), 1)
	wrote(t, o, []byte("x"), 0)
	// What was acknowledged makes room once only, and an Ack that is not right makes none.
	o.Ack(2)
	o.Ack(1)
	o.Ack(8)
	o.Ack(-1)
	wrote(t, o, []byte("x"), 0)
	o.Ack(7)
	wrote(t, o, []byte("hijklm"), 5)
	if o.Len() != 12 || o.Acked() != 7 || string(o.All()) != "abcdefghijkl" {
		t.Errorf("%d, %d, %q", o.Len(), o.Acked(), o.All())
	}
	// One by one: room is what is acknowledged, no more.
	for i := range 50 {
		o.Ack(8 + i)
		wrote(t, o, []byte("xy"), 1)
	}
}

func TestWriteOfAClosedOne(t *testing.T) {
	for _, steps := range []string{"c", "c a1", "wabc c", "wabc c a2", "wabc c a3", "wabc c a4", "wabcde c", "wabcde c a5", "wabcde c a6"} {
		p := made(t, 5, steps)
		for _, b := range []string{"", "x", "xyz", "uvwxyz"} {
			if got := p.o.Write([]byte(b)); got != 0 {
				t.Errorf("%s: Write(%q) = %d", steps, b, got)
			}
		}
		if got := p.o.Write(nil); got != 0 {
			t.Errorf("%s: Write(nil) = %d", steps, got)
		}
		like(t, p.o, p.m)
	}
}

// full is an Outbox, of the greatest buffer, to which n bytes were written and acknowledged.
func full(t *testing.T, n int) *outbox.Outbox {
	t.Helper()
	o := outbox.New(api.MaxBuffer)
	for i := range n {
		if got := o.Write([]byte{byte(i)}); got != 1 || !o.Ack(i+1) {
			t.Fatalf("the byte %d is not taken", i)
		}
	}
	return o
}

func TestMaxBytes(t *testing.T) {
	for _, r := range []struct{ had, more, fit int }{
		{3695, 400, 400}, {3696, 400, 400}, {3697, 400, 399}, {3695, 401, 400}, {3696, 401, 400}, {4000, 95, 95}, {4000, 96, 96}, {4000, 97, 96},
		{4094, 1, 1}, {4094, 2, 2}, {4094, 3, 2}, {4095, 0, 0}, {4095, 1, 1}, {4095, 2, 1}, {4095, 500, 1}, {4096, 0, 0}, {4096, 1, 0}, {4096, 9000, 0},
	} {
		o := full(t, r.had)
		wrote(t, o, bytes.Repeat([]byte("x"), r.more), r.fit)
		if left := api.MaxBytes - o.Len(); left < 400-r.fit {
			wrote(t, o, bytes.Repeat([]byte("y"), 400), left)
		}
		if o.Len() > api.MaxBytes || o.Places() != o.Len() || o.Open(math.MaxInt) != o.Len() {
			t.Errorf("%v: %d bytes, %d places", r, o.Len(), o.Places())
		}
		had := o.Len()
		if !o.Close() || o.Close() || o.Places() != had+1 || o.Open(had) != had+1 || o.Open(had-1) != had-1 {
			t.Errorf("%v: %d places behind Close", r, o.Places())
		}
		if data, fin := o.Piece(had-1, had+1); len(data) != 1 || !fin {
			t.Errorf("%v: the last byte and the end are %q, %t", r, data, fin)
		}
		if o.Ack(had+2) || !o.Ack(had+1) || o.Acked() != had+1 || o.Write([]byte("z")) != 0 || o.Len() != had {
			t.Errorf("%v: Acked() = %d", r, o.Acked())
		}
	}
}

// Each buffer comes to MaxBytes, and no further.
func TestMaxBytesOfEachBuffer(t *testing.T) {
	many := bytes.Repeat([]byte("0123456789"), 500)
	for _, buffer := range []int{1, 2, 3, 7, 64, 100, 255, 256, 399, 400, 5000} {
		o, n := outbox.New(buffer), 0
		for range 5000 {
			n += o.Write(many[n:])
			o.Ack(n)
		}
		if n != api.MaxBytes || o.Len() != n || !bytes.Equal(o.All(), many[:n]) {
			t.Errorf("New(%d): %d bytes", buffer, n)
		}
	}
}

func TestClose(t *testing.T) {
	for _, steps := range []string{"", "wa", "wabc", "wabc a1", "wabc a3", "wabcdefg", "wabcdefg a5"} {
		p := made(t, 5, steps)
		n := p.o.Len()
		if p.o.Closed() || p.o.Places() != n {
			t.Errorf("%q: closed at first", steps)
		}
		if !p.o.Close() || !p.o.Closed() || p.o.Places() != n+1 || p.o.Len() != n {
			t.Errorf("%q: Close", steps)
		}
		for range 3 {
			if p.o.Close() || !p.o.Closed() || p.o.Places() != n+1 || p.o.Len() != n {
				t.Errorf("%q: one Close more", steps)
			}
		}
		p.m.close()
		like(t, p.o, p.m)
	}
}

func TestOpen(t *testing.T) {
	for _, r := range []struct {
		steps       string
		limit, open int
	}{
		{"", math.MinInt, 0}, {"", -1, 0}, {"", 0, 0}, {"", 1, 0}, {"", math.MaxInt, 0},
		{"c", math.MinInt, 0}, {"c", -1, 0}, {"c", 0, 1}, {"c", 1, 1}, {"c", 2, 1}, {"c", math.MaxInt, 1},
		{"wabc", math.MinInt, 0}, {"wabc", math.MinInt + 1, 0}, {"wabc", -1 << 32, 0}, {"wabc", -3, 0}, {"wabc", -1, 0}, {"wabc", 0, 0},
		{"wabc", 1, 1}, {"wabc", 2, 2}, {"wabc", 3, 3}, {"wabc", 4, 3}, {"wabc", 1 << 32, 3}, {"wabc", 1<<32 + 1, 3}, {"wabc", math.MaxInt, 3},
		{"wabc c", math.MinInt, 0}, {"wabc c", math.MinInt + 1, 0}, {"wabc c", -1 << 32, 0}, {"wabc c", -1, 0}, {"wabc c", 0, 0}, {"wabc c", 1, 1},
		{"wabc c", 2, 2}, {"wabc c", 3, 4}, {"wabc c", 4, 4}, {"wabc c", 5, 4}, {"wabc c", 1 << 32, 4}, {"wabc c", 1<<32 + 1, 4}, {"wabc c", math.MaxInt, 4},
		// What was acknowledged is no matter here.
		{"wabc a3", 1, 1}, {"wabc a3", 0, 0}, {"wabc c a4", 2, 2}, {"wabc c a4", 3, 4}, {"wabc c a4", 0, 0},
	} {
		if got := made(t, 5, r.steps).o.Open(r.limit); got != r.open {
			t.Errorf("%q: Open(%d) = %d, want %d", r.steps, r.limit, got, r.open)
		}
	}
}

func TestPiece(t *testing.T) {
	for _, r := range []struct {
		steps    string
		from, to int
		data     string
		fin      bool
	}{
		// All; one place; none.
		{"wabc", 0, 3, "abc", false}, {"wabc", 0, 1, "a", false}, {"wabc", 1, 2, "b", false}, {"wabc", 2, 3, "c", false}, {"wabc", 0, 2, "ab", false}, {"wabc", 1, 3, "bc", false},
		{"wabc", 0, 0, "", false}, {"wabc", 1, 1, "", false}, {"wabc", 2, 2, "", false}, {"wabc", 3, 3, "", false}, {"", 0, 0, "", false},
		// The end: with all, with the last byte, alone, and just not.
		{"wabc c", 0, 4, "abc", true}, {"wabc c", 2, 4, "c", true}, {"wabc c", 3, 4, "", true}, {"c", 0, 1, "", true},
		{"wabc c", 0, 3, "abc", false}, {"wabc c", 2, 3, "c", false}, {"wabc c", 3, 3, "", false}, {"wabc c", 4, 4, "", false}, {"c", 0, 0, "", false}, {"c", 1, 1, "", false},
		// From below 0, from past to, to past Places.
		{"wabc", -1, 0, "", false}, {"wabc", -1, 1, "", false}, {"wabc", -1, 3, "", false}, {"wabc", -1, -1, "", false}, {"wabc", -2, -1, "", false}, {"wabc c", -1, 4, "", false},
		{"wabc", 1, 0, "", false}, {"wabc", 3, 0, "", false}, {"wabc", 3, 2, "", false}, {"wabc", 0, -1, "", false}, {"wabc c", 4, 3, "", false}, {"wabc c", 4, 0, "", false}, {"wabc c", 5, 4, "", false},
		{"wabc", 0, 4, "", false}, {"wabc", 2, 4, "", false}, {"wabc", 3, 4, "", false}, {"wabc", 4, 4, "", false}, {"", 0, 1, "", false}, {"", 1, 1, "", false},
		{"wabc c", 0, 5, "", false}, {"wabc c", 3, 5, "", false}, {"wabc c", 4, 5, "", false}, {"wabc c", 5, 5, "", false}, {"c", 0, 2, "", false}, {"c", 1, 2, "", false}, {"c", 2, 2, "", false},
		// The least and the greatest.
		{"wabc", math.MinInt, 0, "", false}, {"wabc", math.MinInt, 3, "", false}, {"wabc", math.MinInt, math.MinInt, "", false}, {"wabc", math.MinInt, math.MaxInt, "", false},
		{"wabc", 0, math.MaxInt, "", false}, {"wabc", 3, math.MaxInt, "", false}, {"wabc", math.MaxInt, math.MaxInt, "", false}, {"wabc", math.MaxInt, 3, "", false},
		{"wabc", 0, math.MinInt, "", false}, {"wabc", math.MaxInt, math.MinInt, "", false}, {"wabc c", 0, math.MaxInt, "", false}, {"wabc c", math.MinInt, 4, "", false},
		{"wabc", 0, 1<<32 + 1, "", false}, {"wabc", 1 << 32, 1<<32 + 1, "", false}, {"wabc", -1 << 32, 1, "", false}, {"wabc c", 3, 1<<32 + 4, "", false},
		// What was acknowledged is there as it was.
		{"wabc a3", 0, 3, "abc", false}, {"wabc c a4", 0, 4, "abc", true}, {"wabcde a5 wfg", 3, 7, "defg", false},
	} {
		data, fin := made(t, 5, r.steps).o.Piece(r.from, r.to)
		if string(data) != r.data || fin != r.fin {
			t.Errorf("%q: Piece(%d, %d) = %q, %t, want %q, %t", r.steps, r.from, r.to, data, fin, r.data, r.fin)
		}
	}
}

func TestAck(t *testing.T) {
	for _, r := range []struct {
		steps string
		seen  int
		ok    bool
		acked int
	}{
		{"", 0, true, 0}, {"", 1, false, 0}, {"", -1, false, 0}, {"c", 0, true, 0}, {"c", 1, true, 1}, {"c", 2, false, 0}, {"c", -1, false, 0}, {"c a1", 0, true, 1}, {"c a1", 1, true, 1}, {"c a1", 2, false, 1},
		{"wabc", 0, true, 0}, {"wabc", 1, true, 1}, {"wabc", 2, true, 2}, {"wabc", 3, true, 3}, {"wabc", 4, false, 0}, {"wabc", 5, false, 0}, {"wabc", -1, false, 0},
		{"wabc a2", 0, true, 2}, {"wabc a2", 1, true, 2}, {"wabc a2", 2, true, 2}, {"wabc a2", 3, true, 3}, {"wabc a2", 4, false, 2}, {"wabc a2", -1, false, 2}, {"wabc a2", -2, false, 2},
		{"wabc c", 0, true, 0}, {"wabc c", 3, true, 3}, {"wabc c", 4, true, 4}, {"wabc c", 5, false, 0}, {"wabc c", -1, false, 0},
		{"wabc c a3", 4, true, 4}, {"wabc c a3", 5, false, 3}, {"wabc c a4", 3, true, 4}, {"wabc c a4", 4, true, 4}, {"wabc c a4", 5, false, 4}, {"wabc a3 c", 4, true, 4}, {"wabc a3 c", 2, true, 3},
		{"wabcdefg", 5, true, 5}, {"wabcdefg", 6, false, 0}, {"wabcdefg", 7, false, 0},
	} {
		p := made(t, 5, r.steps)
		if got := p.o.Ack(r.seen); got != r.ok || p.o.Acked() != r.acked {
			t.Errorf("%q: Ack(%d) = %t, Acked() = %d, want %t, %d", r.steps, r.seen, got, p.o.Acked(), r.ok, r.acked)
		}
		p.m.ack(r.seen)
		like(t, p.o, p.m)
	}
}

// Numbers far from any place are none, and change nothing.
func TestFarOff(t *testing.T) {
	for _, steps := range states() {
		t.Log(steps)
		p := made(t, 5, steps)
		farOff(t, p.o, p.m)
		p.write(t, "xyz")
		like(t, p.o, p.m)
	}
}

// What answers false, or nothing, changes nothing that a later call tells: the way on is as without it.
func TestFalseChangesNothing(t *testing.T) {
	for _, steps := range states() {
		for _, on := range []string{"wxyz", "c", "a1 wxyz", "a3 wvwxyz c a4", "c a1 wx", "a5 wx a6 wyz c"} {
			t.Log(steps, "and", on)
			p := made(t, 5, steps)
			for _, s := range strings.Fields(on) {
				nothing(t, p)
				p.step(t, s)
				like(t, p.o, p.m)
			}
			nothing(t, p)
			like(t, p.o, p.m)
		}
	}
}

// nothing makes calls of p's Outbox that answer false or nothing.
func nothing(t *testing.T, p pair) {
	t.Helper()
	behind := len(p.m.list) + 1
	if p.o.Ack(-1) || p.o.Ack(behind) || p.o.Ack(math.MaxInt) || p.o.Write(nil) != 0 || p.o.Write([]byte{}) != 0 {
		t.Fatal("Ack of what is none, or Write of nothing")
	}
	if p.m.closed() && (p.o.Close() || p.o.Write([]byte("no")) != 0) {
		t.Fatal("Close or Write of a closed one")
	}
	if p.m.waiting() == p.m.buffer && p.o.Write([]byte("no")) != 0 {
		t.Fatal("Write where nothing fits")
	}
	for _, r := range [][2]int{{-1, 0}, {0, behind}, {1, 0}, {0, 0}} {
		if data, fin := p.o.Piece(r[0], r[1]); len(data) != 0 || fin {
			t.Fatalf("Piece(%d, %d) = %q, %t", r[0], r[1], data, fin)
		}
	}
}

// Each row of up to four steps over fourteen, in small buffers.
func TestRows(t *testing.T) {
	steps := []string{"w", "wx", "wyz", "wabcd", "c", "a-1", "a0", "a1", "a2", "a3", "a4", "a5", "a7", "a9"}
	for _, buffer := range []int{0, 1, 2, 3} {
		var walk func(row []string)
		walk = func(row []string) {
			goes(t, buffer, row)
			for i := 0; i < len(steps) && len(row) < 4; i++ {
				walk(append(row[:len(row):len(row)], steps[i]))
			}
		}
		walk(nil)
	}
}

// goes sees to it that an Outbox behind the row of steps is as the model is.
func goes(t *testing.T, buffer int, row []string) {
	t.Helper()
	defer func() {
		if t.Failed() {
			t.Log("buffer", buffer, "steps", row)
		}
	}()
	p := newPair(buffer)
	for _, s := range row {
		p.step(t, s)
	}
	like(t, p.o, p.m)
}

// chance is a row of numbers that looks like any, and is the same each time.
type chance uint64

func (c *chance) below(n int) int {
	*c = *c*6364136223846793005 + 1442695040888963407
	return int(uint64(*c) >> 33 % uint64(n))
}

// bytes are up to most bytes.
func (c *chance) bytes(most int) string {
	b := make([]byte, c.below(most+1))
	for i := range b {
		b[i] = byte(c.below(256))
	}
	return string(b)
}

// near is a number about the places from 0 to n.
func (c *chance) near(n int) int {
	return c.below(n+5) - 2
}

// act does one thing, seldom a Close.
func (c *chance) act(t *testing.T, p pair, most, seldom int) {
	t.Helper()
	n := len(p.m.list)
	switch c.below(8) {
	case 0, 1:
		p.write(t, c.bytes(most))
	case 2:
		p.ack(t, c.near(n))
	case 3:
		p.ack(t, p.m.acked()+c.below(most)/2)
	case 4:
		opens(t, p.o, p.m, c.near(n))
	case 5:
		pieces(t, p.o, p.m, c.near(n), c.near(n))
	case 6:
		from := c.near(n)
		pieces(t, p.o, p.m, from, from+c.below(8))
	case 7:
		if c.below(seldom) == 0 {
			p.close(t)
		}
	}
}

func TestLongRows(t *testing.T) {
	c := chance(1)
	for i := range 200 {
		buffer, most := c.below(12)-1, 1+c.below(10)
		p := newPair(buffer)
		for range 120 {
			c.act(t, p, most, 5+i%20)
			told(t, p.o, p.m)
		}
		like(t, p.o, p.m)
	}
}

// Rows of many bytes, up to MaxBytes.
func TestGreatRows(t *testing.T) {
	c := chance(7)
	for i := range 12 {
		p := newPair(100 + c.below(400))
		for range 300 {
			c.act(t, p, 300, 10+20*i)
		}
		told(t, p.o, p.m)
		for range 2000 {
			n := len(p.m.list)
			opens(t, p.o, p.m, c.near(n))
			pieces(t, p.o, p.m, c.near(n), c.near(n))
		}
	}
}

// Up to four Outboxes at once: none has anything of another.
func TestSeveral(t *testing.T) {
	c := chance(3)
	for range 20 {
		list := []pair{newPair(1), newPair(4), newPair(9), newPair(400)}
		for range 120 {
			c.act(t, list[c.below(4)], 6, 25)
			for _, p := range list {
				told(t, p.o, p.m)
			}
		}
	}
}

// overwrite writes to all of b's memory, behind its length as well.
func overwrite(b []byte) {
	b = b[:cap(b)]
	for i := range b {
		b[i] = '#'
	}
}

// What is handed in is not changed, and not kept; what lies behind its length stays.
func TestHandedIn(t *testing.T) {
	for _, buffer := range []int{1, 2, 3, 4, 5, 6, 400} {
		for n := range 9 {
			for _, ahead := range []string{"", "p", "pqr"} {
				p := newPair(buffer)
				p.write(t, ahead)
				p.ack(t, len(ahead)/2)
				memory := []byte("abcdefghijklmnop")
				b := memory[2 : 2+n]
				if got, want := p.o.Write(b), p.m.write([]byte("cdefghijk")[:n]); got != want {
					t.Fatalf("New(%d): Write(%q) = %d, want %d", buffer, b, got, want)
				}
				if string(memory) != "abcdefghijklmnop" {
					t.Fatalf("New(%d): Write changed %q", buffer, memory)
				}
				like(t, p.o, p.m)
				overwrite(memory)
				like(t, p.o, p.m)
				// What comes behind does not go into that memory.
				p.ack(t, len(p.m.list))
				p.write(t, "uvw")
				p.close(t)
				if string(memory) != "################" {
					t.Fatalf("New(%d): a Write behind it changed %q", buffer, memory)
				}
				like(t, p.o, p.m)
			}
		}
	}
}

// One list's memory written twice, with other bytes between.
func TestHandedInTwice(t *testing.T) {
	o, b := outbox.New(9), []byte("abc")
	o.Write(b)
	copy(b, "def")
	o.Write(b)
	copy(b, "ghi")
	o.Write(b)
	overwrite(b)
	if got := string(o.All()); got != "abcdefghi" {
		t.Errorf("All() = %q", got)
	}
}

// What is handed out is new memory: who has it may change it, behind its length too.
func TestHandedOut(t *testing.T) {
	for _, steps := range states() {
		t.Log(steps)
		p := made(t, 5, steps)
		for from := range len(p.m.list) + 1 {
			for to := from; to <= len(p.m.list); to++ {
				a, _ := p.o.Piece(from, to)
				b, _ := p.o.Piece(from, to)
				want := string(b)
				overwrite(a)
				_ = append(a, "####"...)
				if string(b) != want {
					t.Fatalf("Piece(%d, %d), twice: they share", from, to)
				}
				like(t, p.o, p.m)
			}
		}
		a, b := p.o.All(), p.o.All()
		want := string(b)
		overwrite(a)
		if string(b) != want {
			t.Fatal("All, twice: they share")
		}
		like(t, p.o, p.m)
	}
}

// What is handed out stays as it is, whatever comes behind; and what has it may be written again.
func TestHandedOutStays(t *testing.T) {
	p := made(t, 5, "wabcd a3")
	all := p.o.All()
	data, _ := p.o.Piece(1, 4)
	none, _ := p.o.Piece(4, 4)
	p.write(t, "efgh")
	p.ack(t, 6)
	p.write(t, "ijkl")
	_ = append(none, "##"...)
	_ = append(data, "##"...)
	_ = append(all, "##"...)
	p.close(t)
	if string(all) != "abcd" || string(data) != "bcd" || len(none) != 0 {
		t.Errorf("%q, %q, %q", all, data, none)
	}
	like(t, p.o, p.m)

	p = made(t, 9, "wabc")
	p.write(t, string(p.o.All()))
	again := made(t, 9, "wabc")
	again.o.Write(again.o.All())
	data, _ = again.o.Piece(2, 5)
	again.o.Write(data)
	p.write(t, "cab")
	like(t, again.o, p.m)
}
