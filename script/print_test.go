package script_test

import (
	"math"
	"strings"
	"testing"

	"haulier/api"
	"haulier/duel"
	"haulier/script"
)

// Each kind of step is its line, byte 10 behind it; several are their lines in order; no steps are no text.
func TestPrintEachKind(t *testing.T) {
	l, lines := each()
	for i, s := range l {
		if text, e := checkPrint(t, s); e != api.OK || text != lines[i]+"\n" {
			t.Errorf("Print(%v) = %q, %d", s, text, e)
		}
		if text, e := checkPrint(t, s, s); e != api.OK || text != lines[i]+"\n"+lines[i]+"\n" {
			t.Errorf("Print(%v) twice = %q, %d", s, text, e)
		}
	}
	if text, e := checkPrint(t, l...); e != api.OK || text != strings.Join(lines, "\n")+"\n" {
		t.Errorf("Print = %q, %d", text, e)
	}
	if text, e := checkPrint(t); e != api.OK || text != "" {
		t.Errorf("Print() = %q, %d", text, e)
	}
	if text, e := script.Print([]duel.Step{}...); e != api.OK || text != "" {
		t.Errorf("Print of none = %q, %d", text, e)
	}
}

// The digits of numbers, bytes and masks are those that Parse takes.
func TestPrintDigits(t *testing.T) {
	for _, r := range []struct {
		s    duel.Step
		want string
	}{
		{duel.Step{Kind: duel.Tick}, "tick 0\n"},
		{duel.Step{Kind: duel.Tick, N: 999999999}, "tick 999999999\n"},
		{duel.Step{Kind: duel.Read, Side: 1, N: 10}, "read 1 10\n"},
		{duel.Step{Kind: duel.Write, Data: []byte{0}}, "write 0 00\n"},
		{duel.Step{Kind: duel.Write, Data: []byte{1, 0x0a, 0xa0, 0xfe, 0x9b}}, "write 0 010aa0fe9b\n"},
		{duel.Step{Kind: duel.Spoil, Mask: 1}, "spoil 0 0 0 1\n"},
		{duel.Step{Kind: duel.Spoil, Mask: math.MaxUint32}, "spoil 0 0 0 ffffffff\n"},
		{duel.Step{Kind: duel.Spoil, Mask: 1 << 31}, "spoil 0 0 0 80000000\n"},
		{duel.Step{Kind: duel.Spoil, Side: 1, N: 999999999, Bit: 999999999, Mask: 0xa0b}, "spoil 1 999999999 999999999 a0b\n"},
		// No bytes are none, told this way or that.
		{duel.Step{Kind: duel.Close, Data: []byte{}}, "close 0\n"},
	} {
		if text, e := checkPrint(t, r.s); e != api.OK || text != r.want {
			t.Errorf("Print(%v) = %q, %d, want %q", r.s, text, e, r.want)
		}
	}
}

// A kind that there is not has no line.
func TestPrintNoSuchKind(t *testing.T) {
	none(t, duel.Step{})
	for _, kind := range edges() {
		if kind >= duel.Write && kind <= duel.Spoil {
			continue
		}
		none(t, duel.Step{Kind: kind})
		none(t, duel.Step{Kind: kind, Side: 1, N: 1})
		none(t, duel.Step{Kind: kind, Data: []byte{1}})
		none(t, duel.Step{Kind: kind, N: 1, Bit: 1, Mask: 1})
	}
}

// A side that is neither 0 nor 1 has none, nor has one but 0 where the line tells no side.
func TestPrintSide(t *testing.T) {
	l, _ := each()
	for _, s := range l {
		for _, side := range edges() {
			s.Side = side
			if fits := side == 0 || side == 1 && s.Kind != duel.Tick; fits {
				checkPrint(t, s)
			} else {
				none(t, s)
			}
		}
	}
}

// A number below 0, or of more than nine digits, has none, nor has one but 0 where the line does not tell it.
func TestPrintNumber(t *testing.T) {
	l, _ := each()
	for _, s := range l {
		for _, n := range edges() {
			fits := n >= 0 && n <= 999999999
			more := s
			more.N = n
			if fits && (n == 0 || s.Kind != duel.Write && s.Kind != duel.Close) {
				checkPrint(t, more)
			} else {
				none(t, more)
			}
			more = s
			more.Bit = n
			if fits && (n == 0 || s.Kind == duel.Spoil) {
				checkPrint(t, more)
			} else {
				none(t, more)
			}
		}
	}
}

// A mask of 0 has none where the line tells it, nor has another one where it does not.
func TestPrintMask(t *testing.T) {
	l, _ := each()
	for _, s := range l {
		for _, mask := range []uint32{0, 1, 9, 10, 15, 16, 0xff, 0x100, 0xfffffff, 0x10000000, 1 << 31, math.MaxUint32} {
			s.Mask = mask
			if (mask > 0) == (s.Kind == duel.Spoil) {
				checkPrint(t, s)
			} else {
				none(t, s)
			}
		}
	}
}

// A write without bytes has none, nor has any other step with some.
func TestPrintData(t *testing.T) {
	l, _ := each()
	for _, s := range l {
		for _, data := range [][]byte{nil, {}, {0}, {1, 2}, make([]byte, 5000)} {
			s.Data = data
			if (len(data) > 0) == (s.Kind == duel.Write) {
				checkPrint(t, s)
			} else {
				none(t, s)
			}
		}
	}
}

// Any steps: most with lines, and now and then a field that is any.
func TestPrintAny(t *testing.T) {
	for i := range 20000 {
		c := chance(i)
		var l []duel.Step
		for range c.below(6) {
			s := c.any()
			switch c.below(20) {
			case 0:
				s.Kind = edges()[c.below(len(edges()))]
			case 1:
				s.Side = edges()[c.below(len(edges()))]
			case 2:
				s.N = edges()[c.below(len(edges()))]
			case 3:
				s.Bit = edges()[c.below(len(edges()))]
			case 4:
				s.Mask = uint32(c.below(3))
			case 5:
				s.Data = make([]byte, c.below(3))
			}
			l = append(l, s)
		}
		checkPrint(t, l...)
	}
}

// What is read, printed and read again is the same, and so is its text from then on.
func TestAgain(t *testing.T) {
	for i := range 2000 {
		c := chance(i)
		text := ""
		for range c.below(8) {
			line, _ := script.Print(c.any())
			text += strings.Repeat(" ", c.below(3)) + strings.ReplaceAll(line, " ", strings.Repeat(" ", 1+c.below(3))) + strings.Repeat("\n", c.below(3))
		}
		l, e := checkParse(t, text)
		one, f := checkPrint(t, l...)
		back, g := checkParse(t, one)
		two, h := checkPrint(t, back...)
		if e != api.OK || f != api.OK || g != api.OK || h != api.OK || !sameAll(back, l) || one != two {
			t.Fatalf("%q: %v, %q, %v, %q", text, l, one, back, two)
		}
	}
}

// Many steps are printed as well, in time.
func TestPrintMany(t *testing.T) {
	const count = 100000
	l := make([]duel.Step, count)
	for i := range l {
		l[i] = duel.Step{Kind: duel.Tick, N: i}
	}
	text, e := script.Print(l...)
	if back, f := script.Parse(text); e != api.OK || f != api.OK || !sameAll(back, l) {
		t.Errorf("%d, %d, %d of them", e, f, len(back))
	}
	if text, e := script.Print(append(l, duel.Step{})...); e != api.ErrArg || text != "" {
		t.Errorf("%d, %d bytes", e, len(text))
	}
}
