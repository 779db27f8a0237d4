package script_test

import (
	"bytes"
	"testing"

	"haulier/api"
	"haulier/duel"
	"haulier/script"
)

// blot writes to all of b's memory, behind its length as well.
func blot(b []byte) {
	b = b[:cap(b)]
	for i := range b {
		b[i] = 77
	}
	_ = append(b, 55)
}

// blotAll writes to all of the steps' memory, behind their length as well.
func blotAll(l []duel.Step) {
	for _, s := range l {
		blot(s.Data)
	}
	l = l[:cap(l)]
	for i := range l {
		l[i] = duel.Step{Kind: 77, Side: 7, N: 77, Bit: 77, Mask: 77, Data: []byte{7}}
	}
}

// What Parse hands out is new memory: whoever changes it, the next answers are as they would have been.
func TestMemoryOut(t *testing.T) {
	const text = "write 0 6162\nwrite 1 63\ntick 1\nwrite 0 646566\nup 1 1"
	want, _ := parsed(text)
	first, _ := script.Parse(text)
	for range 3 {
		l, e := script.Parse(text)
		if e != api.OK || !sameAll(l, want) {
			t.Fatalf("Parse(%q) = %v, %d", text, l, e)
		}
		blotAll(l)
	}
	if !sameAll(first, want) {
		t.Errorf("%v is %v", want, first)
	}
}

// No two lists of one answer share memory, behind their lengths as well.
func TestMemoryApart(t *testing.T) {
	const text = "write 0 6162\nwrite 1 63\nwrite 0 646566\nwrite 1 676869\nwrite 1 676869"
	want, _ := parsed(text)
	for at := range want {
		l, _ := script.Parse(text)
		blot(l[at].Data)
		_ = append(l[at].Data, 55, 66, 77)
		l[at] = want[at]
		if !sameAll(l, want) {
			t.Errorf("changed at %d: %v", at, l)
		}
	}
}

// within is the steps in longer memory, list and bytes both, and all of the list's memory.
func within(l []duel.Step) (steps, memory []duel.Step) {
	for _, s := range l {
		if len(s.Data) > 0 {
			s.Data = append(bytes.Clone(s.Data), 9, 9, 9, 9)[:len(s.Data)]
		}
		memory = append(memory, s)
	}
	for range 3 {
		memory = append(memory, duel.Step{Kind: duel.Write, Data: []byte{8, 8}})
	}
	return memory[:len(l)], memory
}

// picture is all that stands in that memory, behind the lengths of the bytes as well.
func picture(memory []duel.Step) []duel.Step {
	var l []duel.Step
	for _, s := range memory {
		s.Data = bytes.Clone(s.Data[:cap(s.Data)])
		l = append(l, s)
	}
	return l
}

// What Print is handed is neither changed nor kept, whether it has lines or not; what lies behind its length plays no part.
func TestMemoryPrint(t *testing.T) {
	right, _ := each()
	for _, more := range [][]duel.Step{nil, {{Kind: duel.Close, Data: []byte{1}}}, {{}}} {
		list := append(right[:len(right):len(right)], more...)
		steps, memory := within(list)
		was := picture(memory)
		text, e := script.Print(steps...)
		if want, f := printed(list); text != want || e != f {
			t.Errorf("Print(%v) = %q, %d, want %q, %d", list, text, e, want, f)
		}
		if now := picture(memory); !sameAll(now, was) {
			t.Errorf("%v is %v", was, now)
		}
		blotAll(memory)
		again, e := script.Print(list...)
		if want, f := printed(list); again != text || again != want || e != f {
			t.Errorf("Print(%v) = %q, %d, want %q, %d", list, again, e, want, f)
		}
	}
}

// What Run is handed is neither changed nor kept.
func TestMemoryRun(t *testing.T) {
	list := append(read(t, talk), duel.Step{}, duel.Step{Kind: duel.Close, Data: []byte{1}})
	want := newDuel(t)
	count := did(want, list)
	steps, memory := within(list)
	was := picture(memory)
	d := newDuel(t)
	if n := script.Run(d, steps...); n != count {
		t.Errorf("Run = %d, want %d", n, count)
	}
	if now := picture(memory); !sameAll(now, was) {
		t.Errorf("%v is %v", was, now)
	}
	blotAll(memory)
	alike(t, d, want)
	if n, m := script.Run(d, list...), did(want, list); n != m {
		t.Errorf("Run once more = %d, want %d", n, m)
	}
	alike(t, d, want)
}

// What Parse reads may be changed behind Run: the Duel has none of it.
func TestMemoryParsed(t *testing.T) {
	d, want := newDuel(t), newDuel(t)
	l := read(t, talk)
	script.Run(d, l...)
	blotAll(l)
	script.Run(want, read(t, talk)...)
	alike(t, d, want)
	script.Run(d, read(t, "up 0 1\nup 1 1\ntick 5\nread 1 9")...)
	script.Run(want, read(t, "up 0 1\nup 1 1\ntick 5\nread 1 9")...)
	alike(t, d, want)
}
