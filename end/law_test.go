package end_test

import (
	"bytes"
	"slices"
	"testing"

	"haulier/api"
	"haulier/end"
	"haulier/event"
	"haulier/inbox"
	"haulier/log"
	"haulier/packet"
	"haulier/store"
)

// law is what an end's events, one behind the other, may be: T4 of DOC.md.
type law struct {
	c                  api.Config
	side, tick         int
	up, joined         [3]bool
	sent, came         [3][]api.Packet // of each path
	written, read      []byte
	closed             bool
	past, acked, limit int // past: the greatest end of Data that was sent
	there              *inbox.Inbox
}

func newLaw(c api.Config, side int) *law {
	return &law{c: c, side: side, limit: c.Window, there: inbox.New(c.Window)}
}

// of tells whether there is one of that kind and Number.
func of(l []api.Packet, kind, number int) bool {
	return slices.ContainsFunc(l, func(p api.Packet) bool { return p.Kind == kind && p.Number == number })
}

// breaks is the number of the first rule that x breaks (0: none).
func (l *law) breaks(x api.Event) int {
	path := x.Packet.Path
	if x.Kind == api.Up || x.Kind == api.Down {
		path = x.N
	}
	if event.Check(x) != api.OK || path >= l.c.Paths {
		return 1
	}
	switch x.Kind {
	case api.Ticked:
		return rule(2, x.N > l.tick)
	case api.Wrote:
		all := len(l.written) + len(x.Data)
		return rule(3, !l.closed && all <= api.MaxBytes && all <= min(l.acked, len(l.written))+l.c.Buffer)
	case api.Read:
		// There without a gap: no other bytes than these are read next.
		return rule(4, len(x.Data) <= l.there.Ready() && bytes.Equal(l.there.Read(len(x.Data)), x.Data))
	case api.Closed:
		return rule(5, !l.closed)
	case api.Up:
		return rule(5, !l.up[path])
	case api.Down:
		return rule(5, l.up[path])
	case api.Came:
		return rule(6, l.up[path] && l.mayCome(x.Packet))
	}
	if !l.up[path] || x.Packet.Number != len(l.sent[path]) {
		return 7
	}
	return l.breaksSent(x.Packet)
}

// rule is its number, if it does not hold.
func rule(number int, holds bool) int {
	if holds {
		return 0
	}
	return number
}

func (l *law) mayCome(p api.Packet) bool {
	switch p.Kind {
	case api.Join:
		return l.side == 1
	case api.Joined:
		return l.side == 0 && of(l.sent[p.Path], api.Join, p.Of)
	case api.Data:
		return l.joined[p.Path]
	}
	return of(l.sent[p.Path], api.Data, p.Of) && p.Seen <= l.past
}

func (l *law) breaksSent(p api.Packet) int {
	to := p.From + len(p.Data)
	switch p.Kind {
	case api.Join:
		return rule(8, l.side == 0 && !l.joined[p.Path])
	case api.Joined:
		return rule(8, l.side == 1 && of(l.came[p.Path], api.Join, p.Of))
	case api.Data:
		holds := l.joined[p.Path] && to <= len(l.written) && len(p.Data) <= l.c.Chunk && bytes.Equal(p.Data, l.written[p.From:to]) &&
			(len(p.Data) == 0 || to <= l.limit) && (!p.Fin || l.closed && to == len(l.written))
		return rule(9, holds)
	}
	return rule(10, of(l.came[p.Path], api.Data, p.Of) && p.Seen == l.there.Seen() && p.Limit == l.there.Limit())
}

// goOn tells that x is the next event.
func (l *law) goOn(x api.Event) {
	p := x.Packet
	switch x.Kind {
	case api.Wrote:
		l.written = append(l.written, x.Data...)
	case api.Read:
		l.read = append(l.read, x.Data...)
	case api.Ticked:
		l.tick = x.N
	case api.Closed:
		l.closed = true
	case api.Up, api.Down:
		l.up[x.N] = x.Kind == api.Up
	case api.Came:
		l.came[p.Path] = append(l.came[p.Path], p)
		switch p.Kind {
		case api.Join, api.Joined:
			l.joined[p.Path] = true
		case api.Data:
			l.there.Put(p.From, p.Data, p.Fin)
		case api.Ack:
			l.acked, l.limit = max(l.acked, p.Seen), max(l.limit, p.Limit)
		}
	case api.Sent:
		l.sent[p.Path] = append(l.sent[p.Path], p)
		if to := p.From + len(p.Data); p.Kind == api.Data && p.Fin {
			l.past = max(l.past, to+1)
		} else if p.Kind == api.Data {
			l.past = max(l.past, to)
		}
	}
}

// lawful sees to it that an end's events may be (T4): what came to it is what the other end said.
func lawful(t *testing.T, c api.Config, side int, events []api.Event) {
	t.Helper()
	l := newLaw(c, side)
	for i, x := range events {
		if broken := l.breaks(x); broken != 0 {
			t.Fatalf("%v, side %d, event %d: %v breaks rule %d", c, side, i, x, broken)
		}
		l.goOn(x)
	}
}

// joined sees to it that both ends' events go into one row, in which nothing comes ahead of its sending (T4).
func joined(t *testing.T, a, b []api.Event) {
	t.Helper()
	left := [2][]api.Event{a, b}
	var said [2][]api.Packet
	may := func(side int) bool {
		if len(left[side]) == 0 {
			return false
		}
		x := left[side][0]
		return x.Kind != api.Came || slices.ContainsFunc(said[1-side], func(p api.Packet) bool { return packet.Same(p, x.Packet) })
	}
	for len(left[0])+len(left[1]) > 0 {
		side := 0
		if !may(side) {
			side = 1
		}
		if !may(side) {
			t.Fatalf("%d of side 0, and %d of side 1 are left", len(left[0]), len(left[1]))
		}
		if x := left[side][0]; x.Kind == api.Sent {
			said[side] = append(said[side], x.Packet)
		}
		left[side] = left[side][1:]
	}
}

// again is an end to which the inputs among the events happen once more; what it says has to be what they say (T3).
func again(t *testing.T, c api.Config, side int, events []api.Event) *end.End {
	t.Helper()
	e, _ := end.New(c, side)
	for i, x := range events {
		ok := true
		switch x.Kind {
		case api.Wrote:
			ok = e.Write(x.Data) == len(x.Data)
		case api.Read:
			ok = bytes.Equal(e.Read(len(x.Data)), x.Data)
		case api.Ticked:
			ok = e.Tick(x.N)
		case api.Closed:
			ok = e.Close()
		case api.Up:
			ok = e.Up(x.N)
		case api.Down:
			ok = e.Down(x.N)
		case api.Came:
			ok = e.Come(x.Packet)
		}
		if !ok {
			t.Fatalf("%v, side %d, event %d: %v is not so", c, side, i, x)
		}
	}
	return e
}

// repeated sees to it that each beginning of the events, made anew, goes as they do, and all of them to the state that e has.
func repeated(t *testing.T, c api.Config, side int, e *end.End, every int) {
	t.Helper()
	all := e.Events()
	for n := 0; n <= len(all); n += every {
		// A beginning may end ahead of what its last input makes the end say.
		if got := again(t, c, side, all[:n]).Events(); len(got) > len(all) || !event.All(got, all[:len(got)]) || len(got) < n {
			t.Fatalf("%v, side %d, the first %d: %v", c, side, n, got)
		}
	}
	like := again(t, c, side, all)
	if !event.All(like.Events(), all) || !slices.Equal(like.State(), e.State()) || like.Done() != e.Done() {
		t.Fatalf("%v, side %d: %v, want %v", c, side, like.State(), e.State())
	}
}

// stored sees to it that the events are as they were when they were packed, and when they stood in a log (T2).
func stored(t *testing.T, all []api.Event) {
	t.Helper()
	b, wrong := event.Pack(all...)
	if got, _, e := event.Unpack(b); wrong != api.OK || e != api.OK || !event.All(got, all) {
		t.Fatal(wrong, e)
	}
	l, _ := log.Open(store.New(), api.MaxSeg, 1000)
	for _, x := range all[:min(len(all), 60)] {
		if e := l.Add(x); e != api.OK {
			t.Fatal(x, e)
		}
	}
	if !event.All(l.Events(), all[:min(len(all), 60)]) {
		t.Fatal(l.Events())
	}
}
