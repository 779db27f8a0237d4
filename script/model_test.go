package script_test

import (
	"fmt"
	"math"
	"regexp"
	"slices"
	"strconv"
	"strings"
	"testing"

	"haulier/api"
	"haulier/duel"
	"haulier/script"
)

// What stands behind a line's first word, as expressions.
const (
	sides   = ` +([01])`
	numbers = ` +(0|[1-9][0-9]{0,8})`
	masks   = ` +([1-9a-f][0-9a-f]{0,7})`
	hexes   = ` +((?:[0-9a-f]{2})+)`
)

// forms are those of lines, each at its kind's number.
var forms = []*regexp.Regexp{
	regexp.MustCompile(`^ *$`),
	regexp.MustCompile(`^ *write` + sides + hexes + ` *$`),
	regexp.MustCompile(`^ *read` + sides + numbers + ` *$`),
	regexp.MustCompile(`^ *close` + sides + ` *$`),
	regexp.MustCompile(`^ *tick` + numbers + ` *$`),
	regexp.MustCompile(`^ *up` + sides + numbers + ` *$`),
	regexp.MustCompile(`^ *down` + sides + numbers + ` *$`),
	regexp.MustCompile(`^ *deliver` + sides + numbers + ` *$`),
	regexp.MustCompile(`^ *drop` + sides + numbers + ` *$`),
	regexp.MustCompile(`^ *again` + sides + numbers + ` *$`),
	regexp.MustCompile(`^ *spoil` + sides + numbers + numbers + masks + ` *$`),
}

// parsed is what Parse is to answer.
func parsed(text string) ([]duel.Step, api.Errno) {
	var l []duel.Step
	for _, line := range strings.Split(text, "\n") {
		kind := slices.IndexFunc(forms, func(x *regexp.Regexp) bool { return x.MatchString(line) })
		if kind < 0 {
			return nil, api.ErrForm
		}
		if kind > 0 {
			l = append(l, told(kind, forms[kind].FindStringSubmatch(line)[1:]))
		}
	}
	return l, api.OK
}

// told is the step of that kind of which a line tells these.
func told(kind int, w []string) duel.Step {
	s := duel.Step{Kind: kind}
	switch kind {
	case duel.Tick:
		s.N = number(w[0])
		return s
	case duel.Write:
		fmt.Sscanf(w[1], "%x", &s.Data)
	case duel.Close:
	case duel.Spoil:
		s.Bit = number(w[2])
		mask, _ := strconv.ParseUint(w[3], 16, 32)
		s.Mask = uint32(mask)
		fallthrough
	default:
		s.N = number(w[1])
	}
	s.Side = number(w[0])
	return s
}

func number(s string) int {
	n, _ := strconv.Atoi(s)
	return n
}

// printed is what Print is to answer.
func printed(l []duel.Step) (string, api.Errno) {
	text := ""
	for _, s := range l {
		line, ok := lineOf(s)
		if !ok {
			return "", api.ErrArg
		}
		text += line + "\n"
	}
	return text, api.OK
}

// lineOf is the line of s, if it has one.
func lineOf(s duel.Step) (string, bool) {
	fits := func(n int) bool { return n >= 0 && n <= 999999999 }
	bare := duel.Step{Kind: s.Kind, Side: s.Side, N: s.N}
	line, ok := fmt.Sprintf("%s %d %d", word(s.Kind), s.Side, s.N), fits(s.N) && (s.Side == 0 || s.Side == 1)
	switch s.Kind {
	case duel.Write:
		bare.N, bare.Data = 0, s.Data
		line, ok = fmt.Sprintf("write %d %x", s.Side, s.Data), ok && len(s.Data) > 0
	case duel.Close:
		bare.N = 0
		line = fmt.Sprintf("close %d", s.Side)
	case duel.Tick:
		bare.Side = 0
		line = fmt.Sprintf("tick %d", s.N)
	case duel.Spoil:
		bare.Bit, bare.Mask = s.Bit, s.Mask
		line, ok = fmt.Sprintf("%s %d %x", line, s.Bit, s.Mask), ok && fits(s.Bit) && s.Mask > 0
	}
	return line, ok && word(s.Kind) != "" && same(s, bare)
}

// word is the first word of that kind's line (no such kind: none).
func word(kind int) string {
	all := []string{"", "write", "read", "close", "tick", "up", "down", "deliver", "drop", "again", "spoil"}
	if kind < 0 || kind >= len(all) {
		return ""
	}
	return all[kind]
}

func same(a, b duel.Step) bool {
	return a.Kind == b.Kind && a.Side == b.Side && a.N == b.N && a.Bit == b.Bit && a.Mask == b.Mask && string(a.Data) == string(b.Data)
}

func sameAll(a, b []duel.Step) bool {
	return slices.EqualFunc(a, b, same)
}

// checkParse sees to it that Parse answers what the model answers, each time, and that it is read again once it is printed.
func checkParse(t *testing.T, text string) ([]duel.Step, api.Errno) {
	t.Helper()
	l, e := script.Parse(text)
	want, f := parsed(text)
	if e != f || !sameAll(l, want) {
		t.Fatalf("Parse(%q) = %v, %d, want %v, %d", text, l, e, want, f)
	}
	if more, f := script.Parse(text); f != e || !sameAll(more, l) {
		t.Fatalf("Parse(%q) once more = %v, %d, want %v, %d", text, more, f, l, e)
	}
	if e == api.OK {
		checkPrint(t, l...)
	}
	return l, e
}

// checkPrint sees to it that Print answers what the model answers, and that what it tells is read as it was.
func checkPrint(t *testing.T, l ...duel.Step) (string, api.Errno) {
	t.Helper()
	text, e := script.Print(l...)
	want, f := printed(l)
	if e != f || text != want {
		t.Fatalf("Print(%v) = %q, %d, want %q, %d", l, text, e, want, f)
	}
	if e != api.OK {
		return text, e
	}
	if back, e := script.Parse(text); e != api.OK || !sameAll(back, l) {
		t.Fatalf("Parse(%q) = %v, %d, want %v", text, back, e, l)
	}
	return text, e
}

// right sees to it that text is read as these steps.
func right(t *testing.T, text string, want ...duel.Step) {
	t.Helper()
	if l, e := checkParse(t, text); e != api.OK || !sameAll(l, want) {
		t.Errorf("Parse(%q) = %v, %d, want %v", text, l, e, want)
	}
}

// wrong sees to it that text is no text of steps, nor is one that has it among right lines.
func wrong(t *testing.T, line string) {
	t.Helper()
	for _, text := range []string{line, line + "\n", "tick 1\n" + line, "tick 1\n" + line + "\nclose 0\n", "\n" + line + "\nclose 0"} {
		if l, e := checkParse(t, text); e != api.ErrForm || len(l) != 0 {
			t.Errorf("Parse(%q) = %v, %d", text, l, e)
		}
	}
}

// none sees to it that s has no line, wherever it stands.
func none(t *testing.T, s duel.Step) {
	t.Helper()
	tick, drop := duel.Step{Kind: duel.Tick, N: 1}, duel.Step{Kind: duel.Drop}
	for _, l := range [][]duel.Step{{s}, {s, tick, drop}, {tick, s, drop}, {tick, drop, s}, {s, s}} {
		if text, e := checkPrint(t, l...); e != api.ErrArg || text != "" {
			t.Errorf("Print(%v) = %q, %d", l, text, e)
		}
	}
}

// each is a step of each kind, and its line.
func each() ([]duel.Step, []string) {
	return []duel.Step{
		{Kind: duel.Write, Side: 1, Data: []byte{0, 0xa9, 0xff, 'h'}}, {Kind: duel.Read, N: 12}, {Kind: duel.Close, Side: 1},
		{Kind: duel.Tick, N: 1000}, {Kind: duel.Up, N: 2}, {Kind: duel.Down, Side: 1}, {Kind: duel.Deliver, Side: 1, N: 30},
		{Kind: duel.Drop, N: 4}, {Kind: duel.Again, Side: 1, N: 199}, {Kind: duel.Spoil, Side: 1, N: 7, Bit: 250, Mask: 0x90ab},
	}, []string{
		"write 1 00a9ff68", "read 0 12", "close 1", "tick 1000", "up 0 2", "down 1 0", "deliver 1 30", "drop 0 4", "again 1 199", "spoil 1 7 250 90ab",
	}
}

// edges are numbers about those that anything turns on.
func edges() []int {
	return []int{
		math.MinInt, math.MinInt + 1, -1 << 32, -1 << 31, -999999999, -10, -2, -1, 0, 1, 2, 3, 9, 10, 11, 12, 99, 100, 99999999, 100000000,
		999999998, 999999999, 1000000000, 1000000001, 1 << 31, 1<<32 - 1, 1 << 32, 1<<32 + 1, 9999999999, math.MaxInt - 1, math.MaxInt,
	}
}

// chance is a row of numbers that hangs on where it begins alone.
type chance uint64

func (c *chance) below(n int) int {
	*c = *c*6364136223846793005 + 1442695040888963407
	return int(uint64(*c)>>33) % n
}

// any is a step, now and then one that has no line.
func (c *chance) any() duel.Step {
	l, _ := each()
	s := l[c.below(len(l))]
	s.Side = c.below(2)
	if s.Kind == duel.Tick {
		s.Side = 0
	}
	if s.Kind != duel.Write && s.Kind != duel.Close {
		s.N = c.some()
	}
	if s.Kind == duel.Write {
		s.Data = make([]byte, 1+c.below(9))
		for i := range s.Data {
			s.Data[i] = byte(c.below(256))
		}
	}
	if s.Kind == duel.Spoil {
		s.Bit, s.Mask = c.some(), uint32(1+c.below(1<<31-1))>>c.below(20)
		s.Mask = max(s.Mask, 1)
	}
	return s
}

// some is a number that a line can tell.
func (c *chance) some() int {
	most := []int{2, 12, 300, 1000000, 1000000000}
	return c.below(most[c.below(len(most))])
}
