package duel_test

import (
	"bytes"
	"slices"

	"haulier/api"
	"haulier/duel"
	"haulier/end"
	"haulier/packet"
	"haulier/sum"
)

// full is how many are under way to one side at most.
const full = 200

// thing is a packet that is under way, and its bytes, which may be spoilt.
type thing struct {
	to     int
	p      api.Packet
	b      []byte
	spoilt bool
}

// model is a Duel made by other means: two ends, and one list of all that is under way, to both sides, in which each thing is a packet already.
type model struct {
	ends [2]*end.End
	list []thing
	got  [2]string
}

func newModel(c api.Config) *model {
	m := &model{}
	for side := range 2 {
		m.ends[side], _ = end.New(c, side)
	}
	return m
}

// to is all that is under way to that side.
func (m *model) to(side int) []thing {
	return slices.DeleteFunc(slices.Clone(m.list), func(x thing) bool { return x.to != side })
}

// place is where in the list that one is (none: -1).
func (m *model) place(to, at int) int {
	for i, x := range m.list {
		if x.to != to {
			continue
		}
		if at == 0 {
			return i
		}
		at--
	}
	return -1
}

func (m *model) put(x thing) bool {
	if len(m.to(x.to)) >= full {
		return false
	}
	m.list = append(m.list, x)
	return true
}

func (m *model) drop(i int) {
	m.list = slices.Delete(slices.Clone(m.list), i, i+1)
}

func (m *model) spoil(i int, bit int, mask uint32) bool {
	x := m.list[i]
	b := sum.Spoil(x.b, bit, mask)
	if x.spoilt || bytes.Equal(b, x.b) {
		return false
	}
	m.list[i] = thing{x.to, x.p, b, true}
	return true
}

func (m *model) come(x thing) {
	if !x.spoilt {
		m.ends[x.to].Come(x.p)
	}
}

// pass puts what was said under way.
func (m *model) pass() {
	for side, e := range m.ends {
		for _, p := range e.Take() {
			b, _ := packet.Pack(p)
			m.put(thing{1 - side, p, b, false})
		}
	}
}

func (m *model) tick(n int) bool {
	last := max(m.ends[0].Now(), m.ends[1].Now())
	if n <= 0 || n >= 1001 || last > api.MaxTick-n {
		return false
	}
	return m.ends[0].Tick(m.ends[0].Now()+n) && m.ends[1].Tick(m.ends[1].Now()+n)
}

func (m *model) read(side, n int) bool {
	b := m.ends[side].Read(n)
	m.got[side] += string(b)
	return len(b) > 0
}

// do is Do.
func (m *model) do(s duel.Step) bool {
	ok := m.act(s)
	if ok {
		m.pass()
	}
	return ok
}

func (m *model) act(s duel.Step) bool {
	if s.Kind == 4 {
		return m.tick(s.N)
	}
	if s.Side*s.Side != s.Side {
		return false
	}
	e := m.ends[s.Side]
	switch s.Kind {
	case 1:
		return e.Write(s.Data) != 0
	case 2:
		return m.read(s.Side, s.N)
	case 3:
		return e.Close()
	case 5:
		return e.Up(s.N)
	case 6:
		return e.Down(s.N)
	}
	i := m.place(s.Side, s.N)
	if i < 0 {
		return false
	}
	x := m.list[i]
	switch s.Kind {
	case 7:
		m.drop(i)
		m.come(x)
	case 8:
		m.drop(i)
	case 9:
		return m.put(x)
	case 10:
		return m.spoil(i, s.Bit, s.Mask)
	default:
		return false
	}
	return true
}

// round is Round: here a turn takes all that is under way to its side at once.
func (m *model) round(n int) {
	m.tick(n)
	m.pass()
	for _, side := range []int{1, 0} {
		turn := m.to(side)
		m.list = m.to(1 - side)
		for _, x := range turn {
			m.come(x)
		}
		m.pass()
	}
	m.read(1, api.MaxBytes)
	m.read(0, api.MaxBytes)
}

func (m *model) done() bool {
	return m.ends[0].Done() && m.ends[1].Done()
}
