package end_test

import (
	"bytes"
	"slices"

	"haulier/api"
	"haulier/event"
	"haulier/packet"
)

// outing is a packet that is out.
type outing struct{ number, from, to, at int }

// way is a path of a model: it keeps all that was answered and lost, and goes through that for each answer.
type way struct {
	first, most        int
	up, joined, behind bool
	sent, due          int
	out                []outing
	took               []int  // what each answer took
	lates              int    // how often some were late since the last answer
	acts               []byte // 'a': an answer; 'l': a loss
}

func (w *way) guess() (mean, spread int) {
	for i, n := range w.took {
		if i == 0 {
			mean, spread = n, n/2
			continue
		}
		spread = (spread*3 + max(mean-n, n-mean)) / 4
		mean = (mean*7 + n) / 8
	}
	return mean, spread
}

func (w *way) mean() int {
	mean, _ := w.guess()
	return mean
}

func (w *way) wait() int {
	wait := w.first
	if mean, spread := w.guess(); len(w.took) > 0 {
		wait = min(max(mean+max(1, 4*spread), 1), 64)
	}
	for i := 0; i < w.lates && i < 6; i++ {
		wait *= 2
	}
	return min(wait, 64)
}

func (w *way) size() int {
	size, turn, count := min(2, w.most), w.most, 0
	for _, act := range w.acts {
		switch {
		case act == 'l':
			turn = max(size/2, 1)
			size, count = turn, 0
		case size < turn:
			size++
		case count+1 < size:
			count++
		default:
			size, count = min(size+1, w.most), 0
		}
	}
	return size
}

func (w *way) usable() bool {
	return w.up && w.joined && len(w.out) < w.size() && w.sent < 1<<16
}

// late is those that were sent so long ago that they are given up.
func (w *way) late(now int) []outing {
	last := now - w.wait()
	var gone, left []outing
	for _, o := range w.out {
		if o.at <= last {
			gone = append(gone, o)
		} else {
			left = append(left, o)
		}
	}
	w.out = left
	if len(gone) > 0 {
		w.acts = append(w.acts, 'l')
		w.lates++
		w.behind = true
	}
	return gone
}

// acked tells that the one of that number was answered.
func (w *way) acked(number, now int) {
	for i, o := range w.out {
		if o.number == number {
			w.out = slices.Concat(w.out[:i], w.out[i+1:])
			w.took = append(w.took, now-o.at)
			w.acts = append(w.acts, 'a')
			w.lates, w.behind = 0, false
			return
		}
	}
}

// model is an end made by other means: each place is a number in a map, and no layer below but packet.Check plays a part.
type model struct {
	c                api.Config
	side, now, limit int
	data             []byte
	closed           bool
	acked, sent      int
	lost             map[int]bool
	there            map[int]byte // all that came, what was read as well
	last             int          // the place of the end that came (-1: none)
	taken            int
	turn             int // the path that was picked last (-1: none)
	ways             []*way
	log              []api.Event
	fresh            []api.Packet // what was said since the last take
	meter            [8]int
}

func newModel(c api.Config, side int) *model {
	m := &model{c: c, side: side, limit: c.Window, lost: map[int]bool{}, there: map[int]byte{}, last: -1, turn: -1}
	for range c.Paths {
		m.ways = append(m.ways, &way{first: c.First, most: c.Most})
	}
	return m
}

func (m *model) note(x api.Event) {
	x.Data, x.Packet.Data = bytes.Clone(x.Data), bytes.Clone(x.Packet.Data)
	m.log = append(m.log, x)
	m.meter[0]++
}

func (m *model) say(p api.Packet) (int, bool) {
	w := m.ways[p.Path]
	if w.sent > api.MaxNumber {
		return 0, false
	}
	p.Number = w.sent
	w.sent++
	p.Data = bytes.Clone(p.Data)
	m.fresh = append(m.fresh, p)
	m.note(api.Event{Kind: api.Sent, Packet: p})
	m.meter[1]++
	m.meter[2] += len(p.Data)
	return p.Number, true
}

func (m *model) places() int {
	if m.closed {
		return len(m.data) + 1
	}
	return len(m.data)
}

// next is the next piece, which is told no more.
func (m *model) next() (from, to int, ok bool) {
	for place := range m.acked {
		delete(m.lost, place)
	}
	open := m.places()
	if len(m.data) > m.limit {
		open = m.limit
	}
	again := len(m.lost) > 0
	if again {
		for !m.lost[from] {
			from++
		}
	} else if from = m.sent; from >= open {
		return 0, 0, false
	}
	to = from
	for size := 0; again && m.lost[to] || !again && to < open; to++ {
		// The end is no byte: it goes with as many bytes as may go.
		if to < len(m.data) {
			if size == m.c.Chunk {
				break
			}
			size++
		}
		delete(m.lost, to)
	}
	m.sent = max(m.sent, to)
	return from, to, true
}

func (m *model) usable() bool {
	return slices.ContainsFunc(m.ways, (*way).usable)
}

func (m *model) choose() []int {
	var ready, behind []int
	for i, w := range m.ways {
		if w.usable() && w.behind {
			behind = append(behind, i)
		} else if w.usable() {
			ready = append(ready, i)
		}
	}
	if len(ready) == 0 {
		return behind
	}
	switch m.c.Sched {
	case api.Redundant:
		return ready
	case api.Round:
		for !slices.Contains(ready, (m.turn+1)%len(m.ways)) {
			m.turn++
		}
		m.turn = (m.turn + 1) % len(m.ways)
		return []int{m.turn}
	}
	best := ready[0]
	for _, i := range ready {
		if m.ways[i].mean() < m.ways[best].mean() {
			best = i
		}
	}
	return []int{best}
}

// send says Data, places of which are out then.
func (m *model) send(paths []int, from, to int, data []byte, fin bool) {
	for _, i := range paths {
		if number, ok := m.say(api.Packet{Kind: api.Data, Path: i, From: from, Data: data, Fin: fin}); ok {
			m.ways[i].out = append(m.ways[i].out, outing{number, from, to, m.now})
		}
	}
}

func (m *model) pump() {
	for m.usable() {
		from, to, ok := m.next()
		if !ok {
			return
		}
		size := len(m.data)
		m.send(m.choose(), from, to, m.data[min(from, size):min(to, size)], to > size)
	}
}

func (m *model) giveUp(gone []outing) {
	for _, o := range gone {
		for place := o.from; place < o.to; place++ {
			m.lost[place] = true
		}
		m.meter[7]++
	}
}

func (m *model) write(b []byte) int {
	if m.closed {
		return 0
	}
	n := 0
	for _, x := range b {
		if len(m.data)-m.acked >= m.c.Buffer || len(m.data) >= api.MaxBytes {
			break
		}
		m.data = append(m.data, x)
		n++
	}
	if n > 0 {
		m.note(api.Event{Kind: api.Wrote, Data: b[:n]})
		m.meter[5] += n
		m.pump()
	}
	return n
}

// front is how many bytes came without a gap.
func (m *model) front() int {
	n := 0
	for {
		if _, ok := m.there[n]; !ok {
			return n
		}
		n++
	}
}

func (m *model) read(n int) []byte {
	var b []byte
	for ; n > 0 && m.taken < m.front(); n-- {
		b = append(b, m.there[m.taken])
		m.taken++
	}
	if len(b) > 0 {
		m.note(api.Event{Kind: api.Read, Data: b})
		m.meter[6] += len(b)
	}
	return b
}

func (m *model) close() bool {
	if m.closed {
		return false
	}
	m.closed = true
	m.note(api.Event{Kind: api.Closed})
	m.pump()
	return true
}

func (m *model) asks(path int) bool {
	return m.side == 0 && m.ways[path].up && !m.ways[path].joined
}

func (m *model) ask(path int) {
	m.say(api.Packet{Kind: api.Join, Path: path})
	m.ways[path].due = m.now + m.c.First
}

func (m *model) tick(now int) bool {
	if now <= m.now || now > 1<<20 {
		return false
	}
	m.now = now
	m.note(api.Event{Kind: api.Ticked, N: now})
	out := 0
	for i, w := range m.ways {
		if m.asks(i) && now >= w.due {
			m.ask(i)
		} else {
			m.giveUp(w.late(now))
		}
	}
	m.pump()
	for _, w := range m.ways {
		out += len(w.out)
	}
	if out == 0 && m.acked < m.places() {
		m.send(m.choose(), m.acked, m.acked, nil, false)
	}
	return true
}

func (m *model) up(path int) bool {
	if path < 0 || path >= len(m.ways) || m.ways[path].up {
		return false
	}
	m.ways[path].up = true
	m.note(api.Event{Kind: api.Up, N: path})
	if m.asks(path) {
		m.ask(path)
	} else {
		m.pump()
	}
	return true
}

func (m *model) down(path int) bool {
	if path < 0 || path >= len(m.ways) || !m.ways[path].up {
		return false
	}
	w := m.ways[path]
	w.up = false
	m.note(api.Event{Kind: api.Down, N: path})
	m.giveUp(w.out)
	w.out = nil
	m.pump()
	return true
}

// refuses tells whether p is refused.
func (m *model) refuses(p api.Packet) bool {
	if packet.Check(p) != api.OK || p.Path >= len(m.ways) {
		return true
	}
	w := m.ways[p.Path]
	return !w.up ||
		p.Kind == api.Join && m.side == 0 ||
		p.Kind == api.Joined && (m.side == 1 || p.Of >= w.sent) ||
		p.Kind == api.Data && !w.joined ||
		p.Kind == api.Ack && (p.Of >= w.sent || p.Seen > m.sent)
}

// put takes the bytes of p, and its end.
func (m *model) put(p api.Packet) {
	end := p.From + len(p.Data)
	if p.Fin && m.last < 0 && end <= api.MaxBytes {
		beyond := false
		for place := range m.there {
			beyond = beyond || place >= end
		}
		if !beyond {
			m.last = end
		}
	}
	for i, x := range p.Data {
		place := p.From + i
		if _, ok := m.there[place]; !ok && place < m.taken+m.c.Window && (m.last < 0 || place < m.last) {
			m.there[place] = x
		}
	}
}

func (m *model) seen() int {
	if n := m.front(); n != m.last {
		return n
	}
	return m.last + 1
}

func (m *model) come(p api.Packet) bool {
	if m.refuses(p) {
		m.meter[4]++
		return false
	}
	m.note(api.Event{Kind: api.Came, Packet: p})
	m.meter[3]++
	w := m.ways[p.Path]
	switch p.Kind {
	case api.Join:
		w.joined = true
		m.say(api.Packet{Kind: api.Joined, Path: p.Path, Of: p.Number})
	case api.Joined:
		w.joined = true
		m.pump()
	case api.Data:
		m.put(p)
		m.say(api.Packet{Kind: api.Ack, Path: p.Path, Of: p.Number, Seen: m.seen(), Limit: m.taken + m.c.Window})
	case api.Ack:
		w.acked(p.Of, m.now)
		m.acked = max(m.acked, p.Seen)
		m.limit = max(m.limit, p.Limit)
		m.pump()
	}
	return true
}

// take is what was said since the last take.
func (m *model) take() []api.Packet {
	list := m.fresh
	m.fresh = nil
	return list
}

func (m *model) done() bool {
	return m.closed && m.acked == len(m.data)+1 && m.last >= 0 && m.taken == m.last
}

// missing is what is lost, as numbers: how many rows of places, and the first one and the one behind the last of each.
func (m *model) missing() []int {
	list := []int{0}
	for place := range m.sent + 1 {
		if m.lost[place] && !m.lost[place-1] {
			list[0]++
			list = append(list, place)
		}
		if !m.lost[place] && m.lost[place-1] {
			list = append(list, place)
		}
	}
	return list
}

func (m *model) state() []int {
	digit := map[bool]int{true: 1}
	s := []int{m.now}
	for _, w := range m.ways {
		s = append(s, w.due)
	}
	s = append(s, m.limit, len(m.data), digit[m.closed], m.acked, m.sent)
	s = append(s, m.missing()...)
	s = append(s, m.taken, m.seen(), m.front()-m.taken, digit[m.last >= 0 && m.taken == m.last])
	for _, w := range m.ways {
		s = append(s, digit[w.up], digit[w.joined], digit[w.behind], w.sent, w.mean(), w.wait(), w.size(), len(w.out))
		for _, o := range w.out {
			s = append(s, o.number, o.from, o.to, o.at)
		}
	}
	return s
}

// sameLog tells whether l is all that happened, and all that was said.
func (m *model) sameLog(l []api.Event) bool {
	return event.All(l, m.log)
}
