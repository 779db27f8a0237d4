package end

import (
	"haulier/api"
	"haulier/flight"
)

// none is the mean of a path that is not to be picked.
const none = -1

// asks tells whether the path is one that this end has to ask for.
func (e *End) asks(path int) bool {
	p := e.paths[path]
	return e.side == 0 && p.IsUp() && !p.Joined()
}

// ask says a Join. The next one is due even where no Number was left for this one.
func (e *End) ask(path int) {
	e.say(api.Packet{Kind: api.Join, Path: path})
	e.due[path] = e.now + e.config.First
}

// pump sends what there is to be sent, as long as a path can be used.
func (e *End) pump() {
	for e.usable() {
		// A piece that Next tells is told no more: it is asked for only where it can be sent.
		from, to, ok := e.plan.Next(e.outbox, e.limit, e.config.Chunk)
		if !ok {
			return
		}
		data, fin := e.outbox.Piece(from, to)
		for _, path := range e.choose() {
			e.send(api.Packet{Kind: api.Data, Path: path, From: from, Data: data, Fin: fin}, to)
		}
	}
}

// probe sends nothing but a question: its answer tells what the other side has, and how much more it takes.
func (e *End) probe() {
	from := e.outbox.Acked()
	for _, path := range e.choose() {
		e.send(api.Packet{Kind: api.Data, Path: path, From: from}, from)
	}
}

// usable tells whether some path can be used.
func (e *End) usable() bool {
	for _, p := range e.paths {
		if p.Usable() {
			return true
		}
	}
	return false
}

// choose is the paths, of those that can be used, over which the next piece goes.
func (e *End) choose() []int {
	var behind []int
	var means []int
	for i, p := range e.paths {
		mean := none
		switch {
		case !p.Usable():
		case p.Behind():
			behind = append(behind, i)
		default:
			mean = p.Mean()
		}
		means = append(means, mean)
	}
	if picked := e.sched.Pick(means); len(picked) > 0 {
		return picked
	}
	return behind
}

// out is how many packets are out.
func (e *End) out() int {
	n := 0
	for _, p := range e.paths {
		n += p.Len()
	}
	return n
}

// send says p, Data of the places up to below to: it is out then.
func (e *End) send(p api.Packet, to int) {
	if number, ok := e.say(p); ok {
		e.paths[p.Path].Out(flight.Out{Number: number, From: p.From, To: to, At: e.now})
	}
}

// say says p, with the next Number of its path (false: none is left, and it is not said).
func (e *End) say(p api.Packet) (number int, ok bool) {
	p.Number, ok = e.paths[p.Path].Number()
	if !ok {
		return 0, false
	}
	e.note(api.Event{Kind: api.Sent, Packet: p})
	e.meter.Add(said, 1)
	e.meter.Add(carried, len(p.Data))
	return p.Number, true
}

// note puts x behind all events.
func (e *End) note(x api.Event) {
	e.events = append(e.events, copied(x))
	e.meter.Add(logged, 1)
}
