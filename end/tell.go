package end

import (
	"slices"

	"haulier/api"
)

// Take is what was said since the last Take.
func (e *End) Take() []api.Packet {
	var packets []api.Packet
	for _, x := range e.events[e.told:] {
		if x.Kind == api.Sent {
			packets = append(packets, copied(x).Packet)
		}
	}
	e.told = len(e.events)
	return packets
}

// Events is all that happened, and all that was said.
func (e *End) Events() []api.Event {
	all := make([]api.Event, len(e.events))
	for i, x := range e.events {
		all[i] = copied(x)
	}
	return all
}

// copied is x in memory of its own.
func copied(x api.Event) api.Event {
	x.Data = slices.Clone(x.Data)
	x.Packet.Data = slices.Clone(x.Packet.Data)
	return x
}

// State is all that the end is, as numbers.
func (e *End) State() []int {
	state := []int{e.now}
	state = append(state, e.due...)
	state = append(state, e.limit, e.outbox.Len(), one(e.outbox.Closed()), e.outbox.Acked())
	missing := e.plan.Missing()
	state = append(state, e.plan.Sent(), len(missing))
	for _, r := range missing {
		state = append(state, r.From, r.To)
	}
	state = append(state, e.inbox.Taken(), e.inbox.Seen(), e.inbox.Ready(), one(e.inbox.Done()))
	for _, p := range e.paths {
		state = append(state, p.State()...)
	}
	return state
}

// one is 1 where it is so, and 0 where it is not.
func one(so bool) int {
	if so {
		return 1
	}
	return 0
}

// Done tells whether all that was written has come to the other side, up to the end, and all that the other side wrote was read.
func (e *End) Done() bool {
	return e.outbox.Closed() && e.outbox.Acked() == e.outbox.Places() && e.inbox.Done()
}

// Now is the tick that it is.
func (e *End) Now() int {
	return e.now
}

// Written is all bytes that were written.
func (e *End) Written() []byte {
	return e.outbox.All()
}

// Meter is the eight counters: events, packets said, bytes of Data said, packets that came, packets that were refused, bytes written, bytes read, packets that were given up.
func (e *End) Meter() []int {
	return e.meter.All()
}
