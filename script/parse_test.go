package script_test

import (
	"bytes"
	"fmt"
	"strings"
	"testing"

	"haulier/api"
	"haulier/duel"
	"haulier/script"
)

// The chapter's example.
func TestExample(t *testing.T) {
	right(t, "write 0 6869", duel.Step{Kind: duel.Write, Data: []byte("hi")})
}

// Each kind of line, by itself and all in one text, is its step.
func TestParseEachKind(t *testing.T) {
	l, lines := each()
	for i, line := range lines {
		right(t, line, l[i])
		right(t, line+"\n", l[i])
		right(t, line+"\n"+line, l[i], l[i])
	}
	right(t, strings.Join(lines, "\n"), l...)
	right(t, strings.Join(lines, "\n")+"\n", l...)
}

// A text without words has no steps.
func TestParseNothing(t *testing.T) {
	for _, text := range []string{"", " ", "  ", "\n", "\n\n", " \n", "\n ", " \n \n\n   ", strings.Repeat(" \n", 1000)} {
		right(t, text)
	}
}

// Lines without words between others, ahead of them and behind them, play no part; nor does whether byte 10 ends the last line.
func TestParseLines(t *testing.T) {
	up, tick := duel.Step{Kind: duel.Up, Side: 1, N: 2}, duel.Step{Kind: duel.Tick, N: 3}
	for _, between := range []string{"\n", "\n\n", "\n \n", "\n\n\n  \n\n", " \n "} {
		for _, ahead := range []string{"", "\n", " \n\n", "  "} {
			for _, behind := range []string{"", "\n", "\n\n", "\n ", "  ", " \n \n"} {
				right(t, ahead+"up 1 2"+between+"tick 3"+between+"up 1 2"+behind, up, tick, up)
			}
		}
	}
	// A line ends there alone: two in one are none, and one in two is none.
	wrong(t, "up 1 2 tick 3")
	wrong(t, "up 1\n2")
	wrong(t, "up\n1 2")
}

// Blanks may stand ahead of the first word, between words, as many as are, and behind the last one.
func TestParseBlanks(t *testing.T) {
	l, lines := each()
	for i, line := range lines {
		for _, ahead := range []string{"", " ", "   "} {
			for _, between := range []string{" ", "  ", "      "} {
				for _, behind := range []string{"", " ", "   "} {
					right(t, ahead+strings.ReplaceAll(line, " ", between)+behind, l[i])
				}
			}
		}
		// Where none is, the words are one.
		for at := range strings.Count(line, " ") {
			words := strings.Split(line, " ")
			words[at] += words[at+1]
			wrong(t, strings.Join(append(words[:at+1:at+1], words[at+2:]...), " "))
		}
	}
}

// Each word left out, twice, cut short, in capitals; one word more; two that change places.
func TestParseWords(t *testing.T) {
	_, lines := each()
	for _, line := range lines {
		for at := range strings.Split(line, " ") {
			words := func() []string { return strings.Split(line, " ") }
			changed := func(word string) string {
				w := words()
				w[at] = word
				return strings.Join(w, " ")
			}
			wrong(t, changed(""))
			wrong(t, changed(words()[at]+" "+words()[at]))
			wrong(t, changed(words()[at]+"x"))
			wrong(t, changed("x"+words()[at]))
			if at == 0 {
				wrong(t, changed(strings.ToUpper(words()[0])))
				wrong(t, changed(strings.ToUpper(words()[0][:1])+words()[0][1:]))
				for n := range len(words()[0]) {
					wrong(t, changed(words()[0][:n]))
					wrong(t, changed(words()[0][n+1:]))
				}
				wrong(t, strings.Join(append(words()[1:], words()[0]), " "))
			}
		}
		for _, more := range []string{"0", "1", "00", "x", "ff", "tick", line} {
			wrong(t, line+" "+more)
			wrong(t, more+" "+line)
		}
	}
	for _, word := range []string{"x", "0", "1", "wrote", "writes", "rea", "reads", "ticks", "ticked", "closed", "upp", "uP", "spoilt", "?", "#", "# tick 1", "//", "tick;"} {
		wrong(t, word)
		wrong(t, word+" 0")
		wrong(t, word+" 0 0")
		wrong(t, word+" 0 0 0 1")
	}
}

// S is 0 or 1, in one digit.
func TestParseSide(t *testing.T) {
	l, lines := each()
	for i, line := range lines {
		words := strings.Split(line, " ")
		if words[0] == "tick" {
			continue
		}
		for side := range 2 {
			l[i].Side = side
			words[1] = fmt.Sprint(side)
			right(t, strings.Join(words, " "), l[i])
		}
		for _, s := range []string{"2", "3", "9", "00", "01", "10", "11", "000", "-1", "-0", "+0", "+1", "0x0", "0.", "1e0", "a", "f", "x", "256", "4294967296", "18446744073709551616", "\u0661", "\uff11"} {
			words[1] = s
			wrong(t, strings.Join(words, " "))
		}
	}
}

// HEX is two digits a byte, of 0 to 9 and a to f, at least one byte.
func TestParseHex(t *testing.T) {
	for b := range 256 {
		right(t, fmt.Sprintf("write 0 %02x", b), duel.Step{Kind: duel.Write, Data: []byte{byte(b)}})
		right(t, fmt.Sprintf("write 1 41%02x00", b), duel.Step{Kind: duel.Write, Side: 1, Data: []byte{'A', byte(b), 0}})
	}
	for _, w := range []string{"", "0", "a", "000", "abc", "0g", "g0", "gg", "AB", "aB", "Ab", "A0", "0x", "0x00", "-1", "+1", "6 8", "68 69", "68 6", "00000", "zz", "'a", `"a`, "/0", ":0", "`0", "@0", "\u0660\u0660", "00\x00"} {
		wrong(t, "write 0 "+w)
	}
	for _, count := range []int{2, 63, 64, 65, 400, 4096, 4097, 100000} {
		data := bytes.Repeat([]byte{0x5a, 0xc3}, count)[:count]
		right(t, fmt.Sprintf("write 0 %x", data), duel.Step{Kind: duel.Write, Data: data})
		wrong(t, fmt.Sprintf("write 0 %x", data)[:8+2*count-1])
		wrong(t, fmt.Sprintf("write 0 %x0", data))
	}
}

// place is a number of a line: what stands ahead of it and behind it, and the step.
type place struct {
	ahead, behind string
	step          func(n int) duel.Step
}

func places() []place {
	var l []place
	for _, kind := range []int{duel.Read, duel.Up, duel.Down, duel.Deliver, duel.Drop, duel.Again} {
		l = append(l, place{word(kind) + " 1 ", "", func(n int) duel.Step { return duel.Step{Kind: kind, Side: 1, N: n} }})
	}
	return append(l,
		place{"tick ", "", func(n int) duel.Step { return duel.Step{Kind: duel.Tick, N: n} }},
		place{"spoil 0 ", " 5 1", func(n int) duel.Step { return duel.Step{Kind: duel.Spoil, N: n, Bit: 5, Mask: 1} }},
		place{"spoil 1 6 ", " a", func(n int) duel.Step { return duel.Step{Kind: duel.Spoil, Side: 1, N: 6, Bit: n, Mask: 10} }},
	)
}

// A number has from 1 to 9 digits, and no 0 ahead of others.
func TestParseNumber(t *testing.T) {
	for _, p := range places() {
		for _, n := range []int{0, 1, 2, 7, 9, 10, 11, 19, 90, 99, 100, 101, 1000, 1001, 12345, 65536, 7654321, 1048576, 99999999, 100000000, 123456789, 987654321, 999999999} {
			right(t, fmt.Sprint(p.ahead, n, p.behind), p.step(n))
		}
		for _, w := range []string{
			"", "00", "01", "000", "09", "010", "0000000001", "000000001", "012345678", "1000000000", "1234567890", "9999999999", "2147483648", "4294967296",
			"9223372036854775807", "9223372036854775808", "18446744073709551616", "340282366920938463463374607431768211456", strings.Repeat("1", 300), strings.Repeat("0", 300),
			"-1", "-0", "+1", "+0", "--1", "1-", "1+", "a", "f", "1a", "0a", "a1", "x", "0x1", "0b1", "0o1", "1_0", "1.0", "1e1", "1,0", "'1'", "/", ":", "\u0661", "\uff11", "\x00", "1\x00", "NaN",
		} {
			wrong(t, p.ahead+w+p.behind)
		}
	}
}

// MASK is 1 to 8 of 0 to 9 and a to f, no 0 ahead of others, and not 0.
func TestParseMask(t *testing.T) {
	for _, m := range []uint32{1, 2, 9, 10, 15, 16, 0x90, 0xa0, 0xff, 0x100, 0xabc, 0xdead, 0x12345, 0xfedcba, 0x1000000, 0xfffffff, 0x10000000, 0x12345678, 0x7fffffff, 0x80000000, 0xdeadbeef, 0xfffffffe, 0xffffffff} {
		for side := range 2 {
			right(t, fmt.Sprintf("spoil %d 3 4 %x", side, m), duel.Step{Kind: duel.Spoil, Side: side, N: 3, Bit: 4, Mask: m})
		}
	}
	for n := range 32 {
		right(t, fmt.Sprintf("spoil 0 0 0 %x", 1<<n), duel.Step{Kind: duel.Spoil, Mask: 1 << n})
	}
	for _, w := range []string{
		"", "0", "00", "01", "0f", "00000000", "00000001", "000000001", "100000000", "123456789", "fffffffff", "ffffffff0", "0ffffffff", "1000000000000000", "10000000000000001", strings.Repeat("f", 300),
		"F", "A", "aB", "FFFFFFFF", "fffffffF", "g", "z", "1g", "g1", "x", "0x1", "-1", "+1", "-f", "1_1", "1.", "'", "/", ":", "`", "@", "G", "\u0661", "\uff41", "\x00",
	} {
		wrong(t, "spoil 0 0 0 "+w)
		wrong(t, "spoil 1 2 30 "+w)
	}
}

// Byte 32 alone is a blank, and byte 10 alone ends a line: no other byte is either, nor is any other letter.
func TestParseOtherBlanks(t *testing.T) {
	var others []string
	for b := range 256 {
		if b != ' ' && b != '\n' {
			others = append(others, string([]byte{byte(b)}))
		}
	}
	others = append(others, "\r\n\r", "\t ", " \t", "\u00a0", "\u0085", "\u2003", "\u2028", "\u3000", "\ufeff", "\ufffd", "\xc0\xa0", "\u0120", "\u010a", "\U00010020")
	_, lines := each()
	for _, other := range others {
		wrong(t, other)
		for _, line := range lines {
			wrong(t, other+line)
			if l, e := checkParse(t, line+other); e == api.OK && !strings.ContainsAny(other, "0123456789abcdef") {
				t.Errorf("Parse(%q) = %v", line+other, l)
			}
			wrong(t, line+" "+other)
			if !strings.ContainsAny(other, " ") {
				wrong(t, strings.Replace(line, " ", other, 1))
			}
		}
	}
	for _, text := range []string{"tick 1\r\n", "tick 1\r\ntick 1", "tick 1\rtick 1", "tick\t1", "tick 1\t", "tick 1\v\n", "tick 1\f", "tick 1\x00", "tick 1\n\x00", "tick 1\n\t\n", "\r\n", "\t"} {
		if l, e := checkParse(t, text); e != api.ErrForm || len(l) != 0 {
			t.Errorf("Parse(%q) = %v, %d", text, l, e)
		}
	}
}

// Where one line is wrong there are no steps at all, be it the first, one between, or the last.
func TestParseOneWrong(t *testing.T) {
	_, lines := each()
	for _, bad := range []string{"x", "tick", "tick 01", "write 0", "close 2", "spoil 0 0 0 0", "Up 0 0", "up\t0 0"} {
		for at := range len(lines) + 1 {
			l := append(append(append([]string(nil), lines[:at]...), bad), lines[at:]...)
			for _, end := range []string{"", "\n", "\n \n"} {
				if got, e := checkParse(t, strings.Join(l, "\n")+end); e != api.ErrForm || len(got) != 0 {
					t.Errorf("%q as line %d: %v, %d", bad, at, got, e)
				}
			}
		}
	}
}

// Right lines with each byte turned to each other one, left out, put in.
func TestParseByteTurned(t *testing.T) {
	_, lines := each()
	for _, line := range append(lines, "write 0 0a", "spoil 0 0 0 1", "tick 0\n\nup 1 1 ", "tick 999999999", "spoil 1 0 100000000 ffffffff") {
		for at := range len(line) + 1 {
			for b := range 256 {
				checkParse(t, line[:at]+string([]byte{byte(b)})+line[at:])
				if at < len(line) {
					checkParse(t, line[:at]+string([]byte{byte(b)})+line[at+1:])
				}
			}
			if at < len(line) {
				checkParse(t, line[:at]+line[at+1:])
				checkParse(t, line[:at])
				checkParse(t, line[at:])
			}
		}
	}
}

// Any texts: of any bytes, of letters that lines have, of words that lines have, and of right lines of which some bytes are turned.
func TestParseAny(t *testing.T) {
	words := []string{"write", "read", "close", "tick", "up", "down", "deliver", "drop", "again", "spoil", "0", "0", "1", "1", "2", "12", "00", "ff", "6869", "a", "999999999", "1000000000", "-1"}
	for i := range 20000 {
		c := chance(i)
		var b []byte
		switch i % 4 {
		case 0:
			for range c.below(12) {
				b = append(b, byte(c.below(256)))
			}
		case 1:
			for range c.below(16) {
				b = append(b, "  \n\n01af29uptickclose\t\rU"[c.below(24)])
			}
		case 2:
			for range c.below(14) {
				b = append(append(b, words[c.below(len(words))]...), "  \n"[c.below(3)])
			}
		default:
			b = c.nearly()
		}
		checkParse(t, string(b))
	}
}

// nearly is the text of some steps, with few bytes turned, left out, put in.
func (c *chance) nearly() []byte {
	var b []byte
	for range 1 + c.below(5) {
		text, _ := script.Print(c.any())
		b = append(b, text...)
	}
	for range c.below(3) {
		at := c.below(len(b))
		switch one := " \n0189afgAF-+ux\t\r\x00\xff"[c.below(18)]; c.below(3) {
		case 0:
			b[at] = one
		case 1:
			b = append(b[:at], b[at+1:]...)
		default:
			b = append(b[:at], append([]byte{one}, b[at:]...)...)
		}
	}
	return b
}

// A long text is read as well, in time.
func TestParseLong(t *testing.T) {
	const count = 200000
	l, e := script.Parse(strings.Repeat(" tick 7 \n\n", count))
	if e != api.OK || len(l) != count || !same(l[0], l[count-1]) || l[count-1].N != 7 {
		t.Errorf("%d, %d", len(l), e)
	}
	if l, e := script.Parse(strings.Repeat("tick 7\n", count) + "x"); e != api.ErrForm || len(l) != 0 {
		t.Errorf("%d, %d", len(l), e)
	}
	if l, e := script.Parse(strings.Repeat(" ", count) + "tick" + strings.Repeat(" ", count) + "7" + strings.Repeat("\n", count)); e != api.OK || len(l) != 1 || l[0].N != 7 {
		t.Errorf("%v, %d", l, e)
	}
}
