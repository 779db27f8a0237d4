package duel_test

import (
	"bytes"
	"testing"

	"haulier/api"
	"haulier/duel"
)

// blot writes to all of b's memory, behind its length as well.
func blot(b []byte) {
	b = b[:cap(b)]
	for i := range b {
		b[i] = 77
	}
	_ = append(b, 55)
}

// blotPackets writes to all of the packets' memory.
func blotPackets(l []api.Packet) {
	for i := range l {
		blot(l[i].Data)
		l[i] = api.Packet{Kind: 77, Data: l[i].Data}
	}
}

// blotAll writes to all that p's Duel, its ends, and what is between hand out.
func (p pair) blotAll() {
	for side := range 2 {
		blot(p.d.Delivered(side))
		e := p.d.End(side)
		blot(e.Written())
		for _, l := range [][]int{e.State(), e.Meter()} {
			for i := range l {
				l[i] = -77
			}
		}
		for _, x := range e.Events() {
			blot(x.Data)
			blot(x.Packet.Data)
		}
		blotPackets(e.Take())
		for at := range p.d.Net().Len(side) {
			b, _ := p.d.Net().Get(side, at)
			blot(b)
		}
	}
}

// What is handed in stays its owner's: it is neither changed nor kept, nor is what lies behind its length.
func TestMemoryIn(t *testing.T) {
	for side := range 2 {
		p := behind(t, config(), joined)
		for n := range 9 {
			memory := bytes.Repeat([]byte{9}, n+40)
			copy(memory, filled(n, n))
			was := bytes.Clone(memory)
			p.do(t, duel.Step{Kind: duel.Write, Side: side, Data: memory[:n]})
			for kind := duel.Read; kind <= duel.Spoil; kind++ {
				p.do(t, duel.Step{Kind: kind, Side: side, N: 1, Bit: 9, Mask: 5, Data: memory[:n]})
			}
			if !bytes.Equal(memory, was) {
				t.Errorf("%v is %v", was, memory)
			}
			blot(memory)
			p.like(t)
			p.steps(t, "up 0 0; up 1 0; round 3")
		}
	}
}

// What is handed out is new memory: whoever changes it, the next answers are as they would have been.
func TestMemoryOut(t *testing.T) {
	for i := range 20 {
		c := chance(700 + i)
		p := newPair(t, c.anyConfig())
		p.steps(t, "up 0 0; up 1 0")
		for range 60 {
			p.blotAll()
			p.do(t, c.any(p))
			p.blotAll()
			p.like(t)
			if c.below(5) == 0 {
				p.round(1)
				p.blotAll()
				p.like(t)
			}
		}
	}
}

// What was handed out stays as it is, whatever comes behind.
func TestMemoryStays(t *testing.T) {
	for i := range 20 {
		c := chance(800 + i)
		p := newPair(t, c.anyConfig())
		p.steps(t, "up 0 0; up 1 0")
		var lists, were [][]byte
		for range 60 {
			for side := range 2 {
				b := p.d.Delivered(side)
				lists, were = append(lists, b), append(were, bytes.Clone(b))
			}
			p.do(t, c.any(p))
			p.round(1)
		}
		for k, b := range lists {
			if !bytes.Equal(b, were[k]) {
				t.Fatalf("%d: %q is %q", i, were[k], b)
			}
			blot(b)
		}
		p.like(t)
	}
}
