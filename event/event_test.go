package event_test

import (
	"bytes"
	"math"
	"math/rand/v2"
	"slices"
	"testing"

	"haulier/api"
	"haulier/event"
	"haulier/packet"
	"haulier/span"
	"haulier/vint"
)

// row is an event, and its bytes.
type row struct {
	e    api.Event
	text string
}

// written are events of each kind, at their bounds as well.
func written() []row {
	whole, chunk := string(filled(api.MaxBytes)), string(filled(api.MaxChunk))
	return []row{
		{api.Event{Kind: api.Wrote, Data: []byte{0}}, "\x01\x01\x00"},
		{api.Event{Kind: api.Wrote, Data: []byte("ab")}, "\x01\x02ab"},
		{api.Event{Kind: api.Wrote, Data: []byte(whole[:63])}, "\x01\x3f" + whole[:63]},
		{api.Event{Kind: api.Wrote, Data: []byte(whole[:64])}, "\x01\x40\x40" + whole[:64]},
		{api.Event{Kind: api.Wrote, Data: []byte(whole[:4095])}, "\x01\x4f\xff" + whole[:4095]},
		{api.Event{Kind: api.Wrote, Data: []byte(whole)}, "\x01\x50\x00" + whole},
		{api.Event{Kind: api.Read, Data: []byte{6}}, "\x02\x01\x06"},
		{api.Event{Kind: api.Read, Data: []byte("ab")}, "\x02\x02ab"},
		{api.Event{Kind: api.Read, Data: []byte(whole)}, "\x02\x50\x00" + whole},
		{api.Event{Kind: api.Ticked, N: 1}, "\x03\x01"},
		{api.Event{Kind: api.Ticked, N: 2}, "\x03\x02"},
		{api.Event{Kind: api.Ticked, N: 63}, "\x03\x3f"},
		{api.Event{Kind: api.Ticked, N: 64}, "\x03\x40\x40"},
		{api.Event{Kind: api.Ticked, N: 300}, "\x03\x41\x2c"},
		{api.Event{Kind: api.Ticked, N: 16383}, "\x03\x7f\xff"},
		{api.Event{Kind: api.Ticked, N: 16384}, "\x03\x80\x00\x40\x00"},
		{api.Event{Kind: api.Ticked, N: 1<<20 - 1}, "\x03\x80\x0f\xff\xff"},
		{api.Event{Kind: api.Ticked, N: 1 << 20}, "\x03\x80\x10\x00\x00"},
		{api.Event{Kind: api.Came, Packet: api.Packet{Kind: api.Join}}, "\x04\x01\x00\x00"},
		{api.Event{Kind: api.Came, Packet: api.Packet{Kind: api.Join, Path: 1, Number: 2}}, "\x04\x01\x01\x02"},
		{api.Event{Kind: api.Came, Packet: api.Packet{Kind: api.Joined, Path: 2, Number: 65535, Of: 65535}}, "\x04\x02\x02\x80\x00\xff\xff\x80\x00\xff\xff"},
		{api.Event{Kind: api.Came, Packet: api.Packet{Kind: api.Data, Path: 1, Number: 300, From: 100, Data: []byte("abc")}}, "\x04\x03\x01\x41\x2c\x40\x64\x03abc\x00"},
		{api.Event{Kind: api.Came, Packet: api.Packet{Kind: api.Ack, Path: 1, Number: 2, Of: 3, Seen: 4, Limit: 5}}, "\x04\x04\x01\x02\x03\x04\x05"},
		{api.Event{Kind: api.Sent, Packet: api.Packet{Kind: api.Join, Path: 2, Number: 65535}}, "\x05\x01\x02\x80\x00\xff\xff"},
		{api.Event{Kind: api.Sent, Packet: api.Packet{Kind: api.Joined, Path: 1, Number: 63, Of: 64}}, "\x05\x02\x01\x3f\x40\x40"},
		{api.Event{Kind: api.Sent, Packet: api.Packet{Kind: api.Data, From: 5, Fin: true}}, "\x05\x03\x00\x00\x05\x00\x01"},
		{api.Event{Kind: api.Sent, Packet: api.Packet{Kind: api.Data, From: 4032, Data: []byte(chunk), Fin: true}}, "\x05\x03\x00\x00\x4f\xc0\x40\x40" + chunk + "\x01"},
		{api.Event{Kind: api.Sent, Packet: api.Packet{Kind: api.Ack, Number: 16383, Of: 16384, Seen: 4097, Limit: 4496}}, "\x05\x04\x00\x7f\xff\x80\x00\x40\x00\x50\x01\x51\x90"},
		{api.Event{Kind: api.Closed}, "\x06"},
		{api.Event{Kind: api.Up}, "\x07\x00"},
		{api.Event{Kind: api.Up, N: 1}, "\x07\x01"},
		{api.Event{Kind: api.Up, N: 2}, "\x07\x02"},
		{api.Event{Kind: api.Down}, "\x08\x00"},
		{api.Event{Kind: api.Down, N: 1}, "\x08\x01"},
		{api.Event{Kind: api.Down, N: 2}, "\x08\x02"},
	}
}

// short are those that have few bytes.
func short() []row {
	return slices.DeleteFunc(written(), func(r row) bool { return len(r.text) > 20 })
}

// events and text are what rows have, one behind the other.
func events(rows []row) []api.Event {
	var l []api.Event
	for _, r := range rows {
		l = append(l, r.e)
	}
	return l
}

func text(rows []row) string {
	var s string
	for _, r := range rows {
		s += r.text
	}
	return s
}

// numbers are any numbers at all: at the bounds of fields, of sizes of a vint, of kinds of integers, and between.
func numbers() []int {
	return []int{
		math.MinInt, math.MinInt + 1, -1 << 32, -256, -2, -1, 0, 1, 2, 3, 4, 5, 6, 7, 8, 9, 63, 64, 255, 256, 257, 258, 264, 300,
		4095, 4096, 4097, 4098, 4496, 4497, 16383, 16384, 65535, 65536, 1<<20 - 1, 1 << 20, 1<<20 + 1,
		1<<30 - 1, 1 << 30, 1 << 32, 1<<32 + 1, api.MaxVint, api.MaxVint + 1, math.MaxInt - 1, math.MaxInt,
	}
}

// field is one that is a number.
type field func(e *api.Event) *int

// fields are all of them, the packet's as well.
func fields() []field {
	return []field{
		func(e *api.Event) *int { return &e.Kind },
		func(e *api.Event) *int { return &e.N },
		func(e *api.Event) *int { return &e.Packet.Kind },
		func(e *api.Event) *int { return &e.Packet.Path },
		func(e *api.Event) *int { return &e.Packet.Number },
		func(e *api.Event) *int { return &e.Packet.Of },
		func(e *api.Event) *int { return &e.Packet.From },
		func(e *api.Event) *int { return &e.Packet.Seen },
		func(e *api.Event) *int { return &e.Packet.Limit },
	}
}

// filled is that many bytes, next ones not the same.
func filled(size int) []byte {
	b := make([]byte, size)
	for i := range b {
		b[i] = byte(7*i + 1)
	}
	return b
}

// overwrite writes to all of b's memory, behind its length as well.
func overwrite(b []byte) {
	b = b[:cap(b)]
	for i := range b {
		b[i] = 0xa5
	}
}

// alike tells whether all fields are, without a call of the package.
func alike(a, b api.Event) bool {
	same := bytes.Equal(a.Data, b.Data) && bytes.Equal(a.Packet.Data, b.Packet.Data) && a.Packet.Fin == b.Packet.Fin
	for _, f := range fields() {
		same = same && *f(&a) == *f(&b)
	}
	return same
}

// may tells whether an event may be, and which bytes it has then.
func may(e api.Event) ([]byte, bool) {
	noN, noData, noPacket := e.N == 0, len(e.Data) == 0, packet.Same(e.Packet, api.Packet{})
	kind := []byte{byte(e.Kind)}
	switch e.Kind {
	case 1, 2:
		return append(kind, span.Pack(e.Data)...), len(e.Data) >= 1 && len(e.Data) <= 4096 && noN && noPacket
	case 3:
		return append(kind, vint.Put(e.N)...), e.N >= 1 && e.N <= 1048576 && noData && noPacket
	case 4, 5:
		plain, bad := packet.Plain(e.Packet)
		return append(kind, plain...), bad == api.OK && noN && noData
	case 6:
		return kind, noN && noData && noPacket
	case 7, 8:
		return append(kind, vint.Put(e.N)...), e.N >= 0 && e.N <= 2 && noData && noPacket
	}
	return nil, false
}

// checked sees to it that e is told to be an event, or none, and has its bytes, or none; it tells which.
func checked(t *testing.T, e api.Event) bool {
	t.Helper()
	want, ok := may(e)
	if ok {
		packed(t, want, e)
	} else {
		refused(t, e)
	}
	return ok
}

// refused sees to it that e is told to be no event, alone and among others, and nothing beside.
func refused(t *testing.T, e api.Event) {
	t.Helper()
	if got := event.Check(e); got != api.ErrArg {
		t.Errorf("Check(%v) = %d", e, got)
	}
	closed := api.Event{Kind: api.Closed}
	for _, l := range [][]api.Event{{e}, {e, closed}, {closed, e}, {closed, e, closed}, {e, e}} {
		if b, bad := event.Pack(l...); bad != api.ErrArg || len(b) != 0 {
			t.Errorf("Pack(%v) = %x, %d", l, b, bad)
		}
	}
}

// packed sees to it that the events may be, that b is their Pack, and is unpacked as they are.
func packed(t *testing.T, b []byte, l ...api.Event) {
	t.Helper()
	for _, one := range l {
		if got := event.Check(one); got != api.OK {
			t.Errorf("Check(%v) = %d", one, got)
		}
	}
	if got, bad := event.Pack(l...); bad != api.OK || !bytes.Equal(got, b) {
		t.Errorf("Pack(%v) = %x, %d, want %x", l, got, bad, b)
	}
	if got, at, bad := event.Unpack(b); bad != api.OK || at != 0 || !slices.EqualFunc(got, l, alike) {
		t.Errorf("Unpack(%x) = %v, %d, %d, want %v", b, got, at, bad, l)
	}
}

// noPack sees to it that s is told to be no Pack, for what begins at that place, and nothing beside.
func noPack(t *testing.T, s string, want int) {
	t.Helper()
	if got, at, bad := event.Unpack([]byte(s)); bad != api.ErrForm || at != want || len(got) != 0 {
		t.Errorf("Unpack(%x) = %v, %d, %d, want the place %d", s, got, at, bad, want)
	}
}

// sound sees to it that what is told of any bytes goes with what is told of their parts; it tells whether they are events.
func sound(t *testing.T, b []byte) bool {
	t.Helper()
	l, at, bad := event.Unpack(b)
	if bad == api.OK {
		packed(t, b, l...)
		return true
	}
	if bad != api.ErrForm || len(l) != 0 || at < 0 || at >= len(b) {
		t.Fatalf("Unpack(%x) = %v, %d, %d", b, l, at, bad)
	}
	ahead, _, bad := event.Unpack(b[:at])
	if bad != api.OK {
		t.Fatalf("Unpack(%x) tells the place %d, ahead of which it tells %d", b, at, bad)
	}
	packed(t, b[:at], ahead...)
	for end := at + 1; end <= len(b); end++ {
		if l, _, bad := event.Unpack(b[at:end]); bad == api.OK {
			t.Fatalf("Unpack(%x) tells the place %d, where there is %v", b, at, l)
		}
	}
	return false
}

// P7.1, P7.2
func TestWritten(t *testing.T) {
	for _, r := range written() {
		packed(t, []byte(r.text), r.e)
		if !checked(t, r.e) {
			t.Errorf("%v may not be", r.e)
		}
	}
}

// P7.2: as many as there are, in their order, alike ones too.
func TestOneBehindTheOther(t *testing.T) {
	rows := written()
	packed(t, []byte(text(rows)), events(rows)...)
	slices.Reverse(rows)
	packed(t, []byte(text(rows)), events(rows)...)
	for _, a := range rows {
		for _, b := range rows {
			packed(t, []byte(a.text+b.text), a.e, b.e)
		}
		packed(t, []byte(a.text+a.text+a.text), a.e, a.e, a.e)
	}
}

// P7.2: the chapter's example; and none are packed to nothing.
func TestNoEventsAtAll(t *testing.T) {
	packed(t, nil)
	packed(t, []byte{})
	if b, bad := event.Pack([]api.Event{}...); bad != api.OK || len(b) != 0 {
		t.Errorf("Pack() = %x, %d", b, bad)
	}
}

// P7.2: a long log, of which each place that is spoilt is told.
func TestMany(t *testing.T) {
	var l []api.Event
	var b []byte
	for n := range 20000 {
		one := []api.Event{{Kind: api.Closed}, {Kind: api.Ticked, N: n + 1}, {Kind: api.Wrote, Data: []byte{byte(n)}}}[n%3]
		want, _ := may(one)
		l = append(l, one)
		b = append(b, want...)
	}
	packed(t, b, l...)
	noPack(t, string(b)+"\x09", len(b))
	noPack(t, string(b)+"\x01\x02a", len(b))
}

// P7.1: no other Kind is one, whatever else the event has: not one either whose lowest byte is one.
func TestNoKind(t *testing.T) {
	for _, n := range append([]int{10, 256 + 6, 1<<32 + 6, math.MinInt + 6}, numbers()...) {
		if n >= 1 && n <= 8 {
			continue
		}
		refused(t, api.Event{Kind: n})
		for _, r := range written() {
			e := r.e
			e.Kind = n
			refused(t, e)
		}
	}
}

// P7.2: nor is another byte.
func TestNoKindsByte(t *testing.T) {
	for c := range 256 {
		if c >= 1 && c <= 8 {
			continue
		}
		for _, behind := range []string{"", "\x00", "\x01", "\x06", "\x01a", "\x01\x01\x02", "\x06\x06\x06"} {
			noPack(t, string([]byte{byte(c)})+behind, 0)
			noPack(t, "\x06\x07\x02"+string([]byte{byte(c)})+behind, 3)
		}
	}
}

// P7.1: how many bytes a Wrote and a Read have.
func TestDataBounds(t *testing.T) {
	for _, kind := range []int{api.Wrote, api.Read} {
		for _, size := range []int{1, 2, 63, 64, 65, 400, 401, 4094, 4095, 4096} {
			if !checked(t, api.Event{Kind: kind, Data: filled(size)}) {
				t.Errorf("%d bytes may not be", size)
			}
		}
		for _, size := range []int{0, 4097, 4098, 4352, 8192, 16384, 65536, 65537} {
			b := filled(size)
			refused(t, api.Event{Kind: kind, Data: b})
			noPack(t, "\x06"+string([]byte{byte(kind)})+string(span.Pack(b)), 1)
		}
		refused(t, api.Event{Kind: kind, Data: []byte{}})
	}
}

// P7.1: the bounds of N, of each kind that has it; another has none.
func TestNBounds(t *testing.T) {
	bounds := map[int][]int{api.Wrote: {0, 0}, api.Read: {0, 0}, api.Ticked: {1, 1048576}, api.Came: {0, 0}, api.Sent: {0, 0}, api.Closed: {0, 0}, api.Up: {0, 2}, api.Down: {0, 2}}
	for _, r := range written() {
		least, greatest := bounds[r.e.Kind][0], bounds[r.e.Kind][1]
		for _, n := range append([]int{least - 1, least, least + 1, greatest - 1, greatest, greatest + 1, greatest + 2}, numbers()...) {
			e := r.e
			e.N = n
			if got := checked(t, e); got != (n >= least && n <= greatest) {
				t.Errorf("%v: %v", e, got)
			}
		}
	}
	// What a vint has room for, and no event may be.
	for _, kind := range []int{api.Ticked, api.Up, api.Down} {
		for _, n := range []int{bounds[kind][1] + 1, 1<<20 + 1, 1<<30 - 1, 1 << 30, 1 << 32, 1<<32 + 1, api.MaxVint} {
			noPack(t, string([]byte{6, byte(kind)})+string(vint.Put(n)), 1)
		}
	}
	noPack(t, "\x03\x00", 0)
}

// goodPackets and badPackets are some that may be, and some that may not.
func goodPackets() []api.Packet {
	return []api.Packet{
		{Kind: api.Join}, {Kind: api.Join, Path: 2, Number: 65535}, {Kind: api.Joined, Path: 1}, {Kind: api.Joined, Of: 65535},
		{Kind: api.Data}, {Kind: api.Data, Fin: true}, {Kind: api.Data, From: 4096, Fin: true}, {Kind: api.Data, Data: filled(64)}, {Kind: api.Data, From: 4032, Data: filled(64)},
		{Kind: api.Ack}, {Kind: api.Ack, Seen: 4097, Limit: 4496, Of: 65535},
	}
}

func badPackets() []api.Packet {
	return []api.Packet{
		{Path: 1}, {Fin: true}, {Kind: -1}, {Kind: 5}, {Kind: 257}, {Kind: api.Join, Path: -1}, {Kind: api.Join, Path: 3}, {Kind: api.Join, Number: -1}, {Kind: api.Join, Number: 65536},
		{Kind: api.Join, Of: 1}, {Kind: api.Join, Data: []byte{0}}, {Kind: api.Join, Fin: true}, {Kind: api.Joined, Of: 65536}, {Kind: api.Joined, Seen: 1},
		{Kind: api.Data, From: -1}, {Kind: api.Data, From: 4097}, {Kind: api.Data, Data: filled(65)}, {Kind: api.Data, From: 4033, Data: filled(64)}, {Kind: api.Data, Limit: 1},
		{Kind: api.Ack, Seen: 4098}, {Kind: api.Ack, Limit: 4497}, {Kind: api.Ack, Of: -1}, {Kind: api.Ack, From: 1}, {Kind: api.Ack, Fin: true},
	}
}

// P7.1: a Came and a Sent have a packet that may be; another kind has none.
func TestPackets(t *testing.T) {
	for _, kind := range []int{api.Came, api.Sent} {
		for _, p := range goodPackets() {
			if !checked(t, api.Event{Kind: kind, Packet: p}) {
				t.Errorf("%v may not be", p)
			}
		}
		for _, p := range append(badPackets(), api.Packet{}) {
			refused(t, api.Event{Kind: kind, Packet: p})
		}
	}
	for _, r := range written() {
		if r.e.Kind == api.Came || r.e.Kind == api.Sent {
			continue
		}
		for _, p := range slices.Concat(goodPackets(), badPackets()) {
			e := r.e
			e.Packet = p
			refused(t, e)
		}
	}
}

// P7.1: what a kind has not, alone, beside what it has, and all of it at once.
func TestWhatAKindHasNot(t *testing.T) {
	extras := []struct {
		had []int // the kinds that have it
		put func(e *api.Event)
	}{
		{[]int{api.Ticked, api.Up, api.Down}, func(e *api.Event) { e.N = 1 }},
		{[]int{api.Wrote, api.Read}, func(e *api.Event) { e.Data = []byte{0} }},
		{[]int{api.Came, api.Sent}, func(e *api.Event) { e.Packet = api.Packet{Kind: api.Join} }},
	}
	for _, r := range written() {
		full := r.e
		for _, extra := range extras {
			extra.put(&full)
			if slices.Contains(extra.had, r.e.Kind) {
				continue
			}
			alone, beside := api.Event{Kind: r.e.Kind}, r.e
			extra.put(&alone)
			extra.put(&beside)
			refused(t, alone)
			refused(t, beside)
		}
		refused(t, full)
	}
}

// kinds are an event of each kind, and others that may not be.
func kinds() []api.Event {
	return []api.Event{
		{}, {Kind: api.Wrote, Data: []byte("a")}, {Kind: api.Read, Data: []byte("a")}, {Kind: api.Ticked, N: 1},
		{Kind: api.Came, Packet: api.Packet{Kind: api.Data, Data: []byte("a")}}, {Kind: api.Sent, Packet: api.Packet{Kind: api.Ack}},
		{Kind: api.Closed}, {Kind: api.Up}, {Kind: api.Down}, {Kind: 9, N: 1, Data: []byte("a")},
	}
}

// P7.1: any numbers at all in every field, one alone, and two at a time.
func TestAnyNumbers(t *testing.T) {
	good := 0
	for _, base := range kinds() {
		for i, f := range fields() {
			for _, g := range fields()[i:] {
				for _, n := range numbers() {
					for _, m := range numbers() {
						e := base
						*f(&e) = n
						*g(&e) = m
						if checked(t, e) {
							good++
						}
					}
				}
			}
		}
	}
	if good < 1000 {
		t.Errorf("only %d events", good)
	}
}

// P7.2: one that may not be, among others, at each place.
func TestPackOfOneThatMayNotBe(t *testing.T) {
	l := events(short())
	for place := range len(l) + 1 {
		for _, e := range []api.Event{{}, {Kind: api.Ticked}, {Kind: api.Up, N: 3}, {Kind: api.Wrote}, {Kind: api.Came}, {Kind: api.Closed, N: 1}} {
			if b, bad := event.Pack(slices.Insert(slices.Clone(l), place, e)...); bad != api.ErrArg || len(b) != 0 {
				t.Errorf("Pack with %v at %d = %x, %d", e, place, b, bad)
			}
		}
	}
}

// P7.2: bytes that are cut within an event, at each place.
func TestUnpackOfWhatEnds(t *testing.T) {
	rows := written()
	all := text(rows)
	begin := 0
	for i, r := range rows {
		for have := range len(r.text) {
			if have == 0 {
				packed(t, []byte(all[:begin]), events(rows[:i])...)
				continue
			}
			if have > 100 && have < len(r.text)-3 {
				continue
			}
			noPack(t, r.text[:have], 0)
			noPack(t, all[:begin+have], begin)
			// The rest lies behind the length: it must not be read.
			if l, at, bad := event.Unpack([]byte(all)[:begin+have]); bad != api.ErrForm || at != begin || len(l) != 0 {
				t.Errorf("Unpack of %d bytes = %d events, %d, %d", begin+have, len(l), at, bad)
			}
		}
		begin += len(r.text)
	}
}

// others are bytes that no event begins with.
func others() []string {
	chunk := string(filled(65))
	return []string{
		"\x00", "\x09", "\x0a", "\x40\x01", "\x80\x00\x00\x06", "\xff", "\x00\x06", // Kind
		"\x01\x00", "\x02\x00", "\x01\x00\x06", "\x02\x00\x06", "\x01\x50\x01" + string(filled(4097)), "\x02\x50\x01" + string(filled(4097)), // Data
		"\x01\xff\xff\xff\xff\xff\xff\xff\xff", "\x02\xff\xff\xff\xff\xff\xff\xff\xff\x00", "\x01\xc0\x00\x00\x01\x00\x00\x00\x01a",
		"\x03\x00", "\x03\x80\x10\x00\x01", "\x03\xff\xff\xff\xff\xff\xff\xff\xff", "\x07\x03", "\x08\x03", "\x07\xff\xff\xff\xff\xff\xff\xff\xff", "\x08\x7f\xff", // N
		"\x04\x00\x00\x00", "\x04\x05\x00\x00", "\x05\x01\x03\x00", "\x05\x01\x00\x80\x01\x00\x00", "\x04\x02\x00\x00\x80\x01\x00\x00", // Packet
		"\x05\x03\x00\x00\x50\x01\x00\x00", "\x04\x03\x00\x00\x00\x40\x41" + chunk + "\x00", "\x04\x03\x00\x00\x4f\xff\x02ab\x01", "\x05\x04\x00\x00\x00\x50\x02\x00", "\x05\x04\x00\x00\x00\x00\x51\x91",
		"\x01\x40\x01a", "\x02\x40\x02ab", "\x01\x80\x00\x00\x01a", "\x01\xc0\x00\x00\x00\x00\x00\x00\x01a", "\x01\x80\x00\x00\x40" + chunk[:64], // more bytes than they need
		"\x03\x40\x01", "\x03\x80\x00\x00\x01", "\x03\x80\x00\x01\x2c", "\x03\xc0\x00\x00\x00\x00\x10\x00\x00", "\x07\x40\x00", "\x07\x80\x00\x00\x02", "\x08\x40\x01", "\x08\xc0\x00\x00\x00\x00\x00\x00\x00",
		"\x04\x01\x40\x01\x02", "\x05\x01\x01\x40\x02", "\x04\x02\x00\x00\x40\x00", "\x05\x03\x00\x00\x40\x05\x00\x01", "\x04\x03\x00\x00\x00\x40\x01a\x00", "\x05\x04\x00\x00\x00\x00\x40\x00",
	}
}

// P7.2: what Check refuses, and numbers and lengths in more bytes than they need, alone and behind others.
func TestUnpackOfOtherBytes(t *testing.T) {
	ahead := text(written())
	for _, b := range others() {
		noPack(t, b, 0)
		noPack(t, b+"\x06\x06\x06", 0)
		noPack(t, ahead+b, len(ahead))
		noPack(t, "\x06"+b+ahead, 1)
		for _, r := range short() {
			noPack(t, r.text+b, len(r.text))
			noPack(t, r.text+b+"\x00", len(r.text))
		}
	}
}

// P7.2: of several that are none the first is told.
func TestTheFirstIsTold(t *testing.T) {
	for _, a := range others() {
		for _, b := range others() {
			noPack(t, "\x06\x03\x05"+a+b+"\x06", 3)
		}
	}
}

// P7.2: bytes behind the last event that are none.
func TestBehindTheLast(t *testing.T) {
	for _, r := range written() {
		for c := range 256 {
			// A byte of a kind that has more is cut off; Closed has no more.
			if c != api.Closed {
				noPack(t, r.text+string([]byte{byte(c)}), len(r.text))
			}
		}
		noPack(t, r.text+"\x00\x00", len(r.text))
		noPack(t, r.text+"\x06\x00", len(r.text)+1)
	}
}

// P7.2: the byte at the end of a Data is 1 or 0.
func TestFinIsOneOrNone(t *testing.T) {
	for c := range 256 {
		for _, kind := range []int{api.Came, api.Sent} {
			b := []byte{6, byte(kind), 3, 1, 2, 4, 2, 'a', 'b', byte(c), 7, 1}
			if c > 1 {
				noPack(t, string(b), 1)
				continue
			}
			p := api.Packet{Kind: api.Data, Path: 1, Number: 2, From: 4, Data: []byte("ab"), Fin: c == 1}
			packed(t, b, api.Event{Kind: api.Closed}, api.Event{Kind: kind, Packet: p}, api.Event{Kind: api.Up, N: 1})
		}
	}
}

// T2: each few bytes are either what Pack makes of events, or are refused, with their place.
func TestEachFewBytes(t *testing.T) {
	good := 0
	var from func(b []byte)
	from = func(b []byte) {
		if sound(t, b) {
			good++
		}
		if len(b) < 5 {
			for _, c := range []byte{0, 1, 2, 3, 4, 5, 6, 7, 8, 9, 0x40, 0x80} {
				from(append(bytes.Clone(b), c))
			}
		}
	}
	from(nil)
	if good < 1000 {
		t.Errorf("only %d lists of events", good)
	}
}

// T2: so are the bytes of events of which one was changed, left out, or put in.
func TestSpoilt(t *testing.T) {
	b := []byte(text(short()))
	for i := range b {
		sound(t, slices.Delete(bytes.Clone(b), i, i+1))
		for _, c := range []byte{0, 1, 2, 3, 6, 8, 9, 0x3f, 0x40, 0x7f, 0x80, 0xc0, 0xff, b[i] + 1, b[i] - 1, b[i] ^ 0x80} {
			changed := bytes.Clone(b)
			changed[i] = c
			sound(t, changed)
			sound(t, slices.Insert(bytes.Clone(b), i, c))
		}
	}
}

// T2: so are any bytes at all, and pieces of events in any order.
func TestAnyBytes(t *testing.T) {
	chance := rand.New(rand.NewPCG(7, 2))
	rows := short()
	good := 0
	for range 20000 {
		var b []byte
		for range chance.IntN(6) {
			piece := rows[chance.IntN(len(rows))].text
			switch chance.IntN(8) {
			case 0:
				piece = piece[chance.IntN(len(piece)):]
			case 1:
				piece = piece[:chance.IntN(len(piece))]
			case 2:
				piece = string([]byte{byte(chance.Uint32()), byte(chance.Uint32())})
			}
			b = append(b, piece...)
		}
		if sound(t, b) {
			good++
		}
	}
	if good < 1000 {
		t.Errorf("only %d lists of events", good)
	}
}

func same(t *testing.T, a, b api.Event, want bool) {
	t.Helper()
	if event.Same(a, b) != want || event.Same(b, a) != want {
		t.Errorf("Same(%v, %v) is not %v", a, b, want)
	}
}

// P7.2: one field that is not alike is enough, and it does not count whether such an event may be.
func TestSame(t *testing.T) {
	odd := api.Event{Kind: -1, N: math.MinInt, Data: []byte("abc"), Packet: api.Packet{Kind: 9, Path: 1, Number: 2, Of: 3, From: 4, Data: []byte("abc"), Fin: true, Seen: 5, Limit: 6}}
	for _, base := range append(events(short()), odd, api.Event{}) {
		same(t, base, base, true)
		for _, f := range fields() {
			for _, n := range numbers() {
				e := base
				*f(&e) = n
				same(t, e, base, n == *f(&base))
			}
		}
		e := base
		e.Packet.Fin = !base.Packet.Fin
		same(t, e, base, false)
		for _, data := range []string{"", "a", "ab", "abc", "abd", "abcd", "cba", "\x00abc"} {
			e, p := base, base
			e.Data, p.Packet.Data = []byte(data), []byte(data)
			same(t, e, base, data == string(base.Data))
			same(t, p, base, data == string(base.Packet.Data))
		}
	}
}

// P7.2: of all written each is only as itself.
func TestSameOfTwo(t *testing.T) {
	for i, a := range written() {
		for k, b := range written() {
			same(t, a.e, b.e, i == k)
		}
	}
}

func all(t *testing.T, a, b []api.Event, want bool) {
	t.Helper()
	if event.All(a, b) != want || event.All(b, a) != want {
		t.Errorf("All(%v, %v) is not %v", a, b, want)
	}
}

// P7.2: as many, and alike in order.
func TestAll(t *testing.T) {
	l := events(written())
	all(t, l, events(written()), true)
	all(t, nil, nil, true)
	all(t, nil, l, false)
	odd := []api.Event{{}, {Kind: 9, N: -1}, {Kind: -3, Data: []byte("a")}}
	all(t, odd, slices.Clone(odd), true)
	for i := range l {
		all(t, l[:i], l, false)
		all(t, l[:i], events(written())[:i], true)
		all(t, l[i+1:], l, false)
		all(t, slices.Delete(slices.Clone(l), i, i+1), l, false)
		all(t, slices.Insert(slices.Clone(l), i, l[i]), l, false)
		for _, e := range []api.Event{{}, l[(i+1)%len(l)]} {
			changed := slices.Clone(l)
			changed[i] = e
			all(t, changed, l, false)
		}
		if i > 0 {
			turned := slices.Clone(l)
			turned[i-1], turned[i] = turned[i], turned[i-1]
			all(t, turned, l, false)
		}
	}
}

// R4: nil and the empty list are the same.
func TestNilIsEmpty(t *testing.T) {
	for _, r := range written() {
		null, empty := r.e, r.e
		if len(r.e.Data) == 0 {
			null.Data, empty.Data = nil, []byte{}
		}
		if len(r.e.Packet.Data) == 0 {
			null.Packet.Data, empty.Packet.Data = nil, []byte{}
		}
		same(t, null, empty, true)
		packed(t, []byte(r.text), null)
		packed(t, []byte(r.text), empty)
		all(t, []api.Event{null}, []api.Event{empty}, true)
	}
	all(t, nil, []api.Event{}, true)
}

// R4: events that are handed in are neither changed nor kept, nor does what lies behind the length of their bytes count.
func TestEventsHandedIn(t *testing.T) {
	data, chunk := filled(20), filled(30)
	room := append(make([]api.Event, 0, 9), api.Event{Kind: api.Wrote, Data: data[:3]}, api.Event{Kind: api.Sent, Packet: api.Packet{Kind: api.Data, Data: chunk[:2]}})
	whole := room[:3]
	whole[2] = api.Event{Kind: api.Closed}
	b, bad := event.Pack(room...)
	want := "\x01\x03\x01\x08\x0f\x05\x03\x00\x00\x00\x02\x01\x08\x00"
	if bad != api.OK || string(b) != want {
		t.Errorf("Pack = %x, %d", b, bad)
	}
	all(t, room, []api.Event{{Kind: api.Wrote, Data: filled(3)}, {Kind: api.Sent, Packet: api.Packet{Kind: api.Data, Data: filled(2)}}}, true)
	event.Check(room[0])
	overwrite(b)
	if !bytes.Equal(data, filled(20)) || !bytes.Equal(chunk, filled(30)) || len(room) != 2 || whole[2].Kind != api.Closed {
		t.Errorf("what was handed in was changed: %x, %x, %v", data, chunk, whole)
	}
	b, _ = event.Pack(room...)
	overwrite(data)
	overwrite(chunk)
	clear(whole)
	if string(b) != want {
		t.Errorf("what was handed in was kept: %x", b)
	}
}

// R4: bytes that are handed in are neither changed nor kept.
func TestBytesHandedIn(t *testing.T) {
	rows := short()
	b := text(rows)
	whole := []byte(b + "behind")
	list := whole[:len(b)]
	l, at, bad := event.Unpack(list)
	if bad != api.OK || at != 0 || string(whole) != b+"behind" {
		t.Errorf("%d, %d, %x", at, bad, whole)
	}
	overwrite(list)
	all(t, l, events(rows), true)
	copy(whole, b+"behind")
	l, _, _ = event.Unpack(list)
	for _, e := range l {
		overwrite(e.Data)
		overwrite(e.Packet.Data)
	}
	if string(whole) != b+"behind" {
		t.Errorf("what was handed in was changed: %x", whole)
	}
	spoilt := []byte(b + "\x00behind")
	event.Unpack(spoilt[:len(b)+1])
	if string(spoilt) != b+"\x00behind" {
		t.Errorf("what was handed in was changed: %x", spoilt)
	}
}

// R4: what is handed out is memory of its own, each time, lists within it as well.
func TestListsHandedOut(t *testing.T) {
	one := api.Event{Kind: api.Wrote, Data: []byte("abc")}
	two := api.Event{Kind: api.Came, Packet: api.Packet{Kind: api.Data, Data: []byte("def")}}
	first, _ := event.Pack(one, two, one, two)
	second, _ := event.Pack(one, two, one, two)
	want := bytes.Clone(second)
	overwrite(first)
	if third, _ := event.Pack(one, two, one, two); !bytes.Equal(second, want) || !bytes.Equal(third, want) {
		t.Errorf("two lists share memory: %x, %x", second, third)
	}
	for i := range 4 {
		l, _, _ := event.Unpack(second)
		other, _, _ := event.Unpack(second)
		overwrite(l[i].Data)
		overwrite(l[i].Packet.Data)
		if i%2 == 0 {
			l[i].Data = []byte("abc")
		} else {
			l[i].Packet.Data = []byte("def")
		}
		all(t, l, []api.Event{one, two, one, two}, true)
		clear(l[:cap(l)])
		all(t, other, []api.Event{one, two, one, two}, true)
	}
	if !bytes.Equal(second, want) {
		t.Errorf("what was handed in was changed: %x", second)
	}
}

// R5: each call goes by what it is handed, not by what was handed in ahead of it.
func TestCallsAreApart(t *testing.T) {
	for _, a := range written() {
		for _, b := range short() {
			event.Unpack([]byte(b.text + "\x00"))
			event.Pack(b.e, api.Event{})
			packed(t, []byte(a.text), a.e)
		}
	}
}
