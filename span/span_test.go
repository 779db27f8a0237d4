package span_test

import (
	"bytes"
	"math"
	"testing"

	"haulier/api"
	"haulier/span"
	"haulier/vint"
)

// sizes are lengths at which the length before the bytes takes one, two and four bytes, and those next to them.
func sizes() []int {
	return []int{0, 1, 2, 3, 62, 63, 64, 65, 255, 256, 16383, 16384, 16385}
}

// filled is that many bytes, next ones not the same.
func filled(size int) []byte {
	b := make([]byte, size)
	for i := range b {
		b[i] = byte(7*i + 1)
	}
	return b
}

// cat is the lists, one behind the other.
func cat(lists ...[]byte) []byte {
	return bytes.Join(lists, nil)
}

// roomy is b, and the memory it lies in: bytes that would be read as more fields are behind it.
func roomy(b []byte) (list, whole []byte) {
	whole = append(bytes.Clone(b), 1, 2, 3, 1, 2, 3, 1, 2, 3)
	return whole[:len(b)], whole
}

// badNumbers are bytes at whose beginning there is no number.
func badNumbers() map[string][]byte {
	return map[string][]byte{
		"no bytes":             nil,
		"an empty list":        {},
		"two, cut off":         {0x41},
		"four, cut off":        {0x80, 0, 0x40},
		"four, one there":      {0xbf},
		"eight, cut off":       {0xc0, 0, 0, 0, 0x40, 0, 0},
		"eight, one there":     {0xff},
		"two for one":          {0x40, 0x3f},
		"two for none":         {0x40, 0},
		"two for one, and on":  {0x40, 1, 'a', 'b'},
		"four for one":         {0x80, 0, 0, 1, 'a'},
		"four for two":         {0x80, 0, 0x3f, 0xff},
		"eight for one":        {0xc0, 0, 0, 0, 0, 0, 0, 1, 'a'},
		"eight for four":       {0xc0, 0, 0, 0, 0x3f, 0xff, 0xff, 0xff},
		"eight for two, and 0": {0xc0, 0, 0, 0, 0, 0, 0x3f, 0xff, 0},
	}
}

// overwrite writes to all of b's memory, behind its length as well.
func overwrite(b []byte) {
	b = b[:cap(b)]
	for i := range b {
		b[i] = 0xff
	}
}

func stands(t *testing.T, r *span.Reader, at, left int, bad bool) {
	t.Helper()
	if r.At() != at || r.Left() != left || r.Bad() != bad {
		t.Errorf("At, Left, Bad: %d, %d, %v, want %d, %d, %v", r.At(), r.Left(), r.Bad(), at, left, bad)
	}
}

func number(t *testing.T, r *span.Reader, want int) {
	t.Helper()
	if got := r.Number(); got != want {
		t.Errorf("Number() = %d, want %d", got, want)
	}
}

func taken(t *testing.T, r *span.Reader, most int, want string) {
	t.Helper()
	if got := r.Bytes(most); string(got) != want {
		t.Errorf("Bytes(%d) = %x, want %x", most, got, want)
	}
}

func one(t *testing.T, r *span.Reader, want byte) {
	t.Helper()
	if got := r.Byte(); got != want {
		t.Errorf("Byte() = %d, want %d", got, want)
	}
}

// gone sees to it that r is bad, and stays so, at its place, whatever it is asked for.
func gone(t *testing.T, r *span.Reader, at, left int) {
	t.Helper()
	for range 2 {
		stands(t, r, at, left, true)
		number(t, r, 0)
		stands(t, r, at, left, true)
		taken(t, r, math.MaxInt, "")
		taken(t, r, 0, "")
		taken(t, r, -1, "")
		stands(t, r, at, left, true)
		one(t, r, 0)
	}
	stands(t, r, at, left, true)
}

// P4.1
func TestPackWritten(t *testing.T) {
	for s, want := range map[string]string{
		"":     "\x00",
		"\x00": "\x01\x00",
		"a":    "\x01a",
		"abc":  "\x03abc",
	} {
		if got := span.Pack([]byte(s)); string(got) != want {
			t.Errorf("Pack(%q) = %x, want %x", s, got, want)
		}
	}
	for size, want := range map[int]string{
		63: "\x3f", 64: "\x40\x40", 300: "\x41\x2c", 16383: "\x7f\xff", 16384: "\x80\x00\x40\x00",
	} {
		if got := span.Pack(filled(size)); string(got) != want+string(filled(size)) {
			t.Errorf("Pack of %d bytes begins with %x, is %d long", size, got[:4], len(got))
		}
	}
	if got := span.Pack(nil); !bytes.Equal(got, []byte{0}) {
		t.Errorf("Pack(nil) = %x", got)
	}
}

// P4.1
func TestPackIsRead(t *testing.T) {
	for _, size := range sizes() {
		b := filled(size)
		packed := span.Pack(b)
		if want := cat(vint.Put(size), b); !bytes.Equal(packed, want) {
			t.Fatalf("Pack of %d bytes is not its length, and them", size)
		}
		for _, most := range []int{size, size + 1, math.MaxInt} {
			for _, behind := range []int{0, 1, 9} {
				r := span.New(cat(packed, filled(behind)))
				taken(t, r, most, string(b))
				stands(t, r, len(packed), behind, false)
			}
		}
	}
}

// P4.1
func TestNumber(t *testing.T) {
	for _, n := range []int{0, 1, 63, 64, 300, 16383, 16384, 1<<30 - 1, 1 << 30, 1 << 61, api.MaxVint - 1, api.MaxVint} {
		for _, behind := range []int{0, 1, 9} {
			size := vint.Size(n)
			r := span.New(cat(vint.Put(n), filled(behind)))
			stands(t, r, 0, size+behind, false)
			number(t, r, n)
			stands(t, r, size, behind, false)
		}
	}
}

// P4.1: each byte is read as it is, the last one too.
func TestByte(t *testing.T) {
	all := make([]byte, 256)
	for i := range all {
		all[i] = byte(i)
	}
	r := span.New(all)
	for i, c := range all {
		stands(t, r, i, 256-i, false)
		one(t, r, c)
	}
	stands(t, r, 256, 0, false)
	one(t, r, 0)
	gone(t, r, 256, 0)
}

// P4.1
func TestFieldByField(t *testing.T) {
	r := span.New(cat(vint.Put(300), span.Pack([]byte("abc")), []byte{9}, span.Pack(nil), vint.Put(1<<30), span.Pack(filled(70)), []byte{0}))
	stands(t, r, 0, 89, false)
	number(t, r, 300)
	stands(t, r, 2, 87, false)
	taken(t, r, 3, "abc")
	stands(t, r, 6, 83, false)
	one(t, r, 9)
	stands(t, r, 7, 82, false)
	taken(t, r, 0, "")
	stands(t, r, 8, 81, false)
	number(t, r, 1<<30)
	stands(t, r, 16, 73, false)
	taken(t, r, 70, string(filled(70)))
	stands(t, r, 88, 1, false)
	one(t, r, 0)
	stands(t, r, 89, 0, false)
}

// P4.1: what the fields are is told by those who ask, not by the bytes.
func TestOtherFieldsOfTheSame(t *testing.T) {
	b := []byte{2, 1, 5}
	r := span.New(b)
	taken(t, r, 2, "\x01\x05")
	stands(t, r, 3, 0, false)
	r = span.New(b)
	one(t, r, 2)
	taken(t, r, 1, "\x05")
	stands(t, r, 3, 0, false)
	r = span.New(b)
	number(t, r, 2)
	number(t, r, 1)
	number(t, r, 5)
	stands(t, r, 3, 0, false)
}

// P4.1: no bytes at all are not bad till they are asked for something.
func TestNoBytesAtAll(t *testing.T) {
	for _, none := range [][]byte{nil, {}} {
		stands(t, span.New(none), 0, 0, false)
		for name, ask := range asks() {
			r := span.New(none)
			if !ask(r) {
				t.Errorf("%s of no bytes is not zero", name)
			}
			gone(t, r, 0, 0)
		}
	}
}

// asks are the calls that read, and whether each told nothing.
func asks() map[string]func(r *span.Reader) bool {
	return map[string]func(r *span.Reader) bool{
		"Number": func(r *span.Reader) bool { return r.Number() == 0 },
		"Bytes":  func(r *span.Reader) bool { return len(r.Bytes(math.MaxInt)) == 0 },
		"Byte":   func(r *span.Reader) bool { return r.Byte() == 0 },
	}
}

// P4.1: the end is no field, and to stand there is not bad yet.
func TestTheEnd(t *testing.T) {
	for name, ask := range asks() {
		r := span.New([]byte{4, 7})
		number(t, r, 4)
		one(t, r, 7)
		stands(t, r, 2, 0, false)
		if !ask(r) {
			t.Errorf("%s at the end is not zero", name)
		}
		gone(t, r, 2, 0)
	}
}

// P4.1: a number that is cut off, or has more bytes than it needs, is none, at the beginning and behind other fields.
func TestBadNumber(t *testing.T) {
	for name, b := range badNumbers() {
		r := span.New(b)
		if got := r.Number(); got != 0 {
			t.Errorf("%s: Number() = %d", name, got)
		}
		gone(t, r, 0, len(b))
		r = span.New(cat(vint.Put(300), []byte{8}, b))
		number(t, r, 300)
		one(t, r, 8)
		number(t, r, 0)
		gone(t, r, 3, len(b))
	}
}

// P4.1: nor are there bytes behind a length that is no number.
func TestBadLength(t *testing.T) {
	for name, b := range badNumbers() {
		r := span.New(b)
		if got := r.Bytes(math.MaxInt); len(got) != 0 {
			t.Errorf("%s: Bytes() = %x", name, got)
		}
		gone(t, r, 0, len(b))
		r = span.New(cat(span.Pack([]byte("ab")), b))
		taken(t, r, 2, "ab")
		taken(t, r, math.MaxInt, "")
		gone(t, r, 3, len(b))
	}
}

// P4.1: bytes that are more than most are none, whatever lies behind them.
func TestMoreThanMost(t *testing.T) {
	for _, size := range sizes() {
		b := cat(span.Pack(filled(size)), filled(9))
		for _, most := range []int{size - 1, size - 2, -1, -2, math.MinInt, math.MinInt + 1} {
			if most < size {
				r := span.New(b)
				taken(t, r, most, "")
				gone(t, r, 0, len(b))
			}
		}
	}
	r := span.New([]byte{5, 3, 'a', 'b', 'c', 1})
	number(t, r, 5)
	taken(t, r, 2, "")
	gone(t, r, 1, 5)
}

// P4.1: no bytes are not of at most fewer than 0.
func TestMostBelowNone(t *testing.T) {
	for _, most := range []int{-1, -2, -64, math.MinInt} {
		r := span.New([]byte{0, 0, 0})
		taken(t, r, 0, "")
		taken(t, r, most, "")
		gone(t, r, 1, 2)
		r = span.New(nil)
		taken(t, r, most, "")
		gone(t, r, 0, 0)
	}
}

// P4.1
func TestBytesCutOff(t *testing.T) {
	for _, size := range sizes() {
		packed := span.Pack(filled(size))
		for _, have := range []int{len(packed) - 1, len(packed) - 2, vint.Size(size), 1, 0} {
			if have < 0 || have >= len(packed) {
				continue
			}
			for _, most := range []int{size, math.MaxInt} {
				// The rest lies behind the length: it must not be read.
				r := span.New(packed[:have])
				taken(t, r, most, "")
				gone(t, r, 0, have)
			}
		}
	}
}

// P4.1: lengths that no place could be reckoned of.
func TestGreatLength(t *testing.T) {
	for _, n := range []int{1 << 30, 1<<31 - 1, 1 << 31, 1 << 32, 1<<32 + 3, api.MaxVint - 8, api.MaxVint} {
		for _, most := range []int{n - 1, n, math.MaxInt} {
			r := span.New(cat([]byte{6}, vint.Put(n), []byte("abc")))
			one(t, r, 6)
			taken(t, r, most, "")
			gone(t, r, 1, vint.Size(n)+3)
		}
	}
}

// P4.1: what would be a field counts no more behind the first that was none.
func TestBehindTheFirstBad(t *testing.T) {
	b := []byte{3, 'a', 'b', 'c', 5, 6}
	r := span.New(b)
	taken(t, r, 2, "")
	taken(t, r, 3, "")
	number(t, r, 0)
	one(t, r, 0)
	gone(t, r, 0, 6)
	r = span.New(cat([]byte{1, 0x40, 1}, b))
	number(t, r, 1)
	number(t, r, 0)
	one(t, r, 0)
	taken(t, r, math.MaxInt, "")
	gone(t, r, 1, 8)
}

// P4.1: of each beginning of fields those that are whole are read, and the place of the first that is not is kept.
func TestEachBeginning(t *testing.T) {
	b := cat(vint.Put(300), span.Pack([]byte("abc")), []byte{9}, vint.Put(1<<20), span.Pack(nil))
	ends := []int{0, 2, 6, 7, 11, 12}
	for have := range len(b) + 1 {
		r := span.New(b[:have])
		r.Number()
		r.Bytes(3)
		r.Byte()
		r.Number()
		r.Bytes(0)
		at := 0
		for _, end := range ends {
			if end <= have {
				at = end
			}
		}
		stands(t, r, at, have-at, have < len(b))
	}
}

// R4: what is handed in is neither changed nor kept, nor does what lies behind its length count.
func TestMemoryHandedIn(t *testing.T) {
	list, whole := roomy([]byte{0x41, 0x2c, 3, 'a', 'b', 'c', 9})
	before := bytes.Clone(whole)
	r := span.New(list)
	number(t, r, 300)
	overwrite(r.Bytes(3))
	one(t, r, 9)
	one(t, r, 0)
	gone(t, r, 7, 0)
	overwrite(span.Pack(list))
	if !bytes.Equal(whole, before) {
		t.Errorf("what was handed in was changed: %x", whole)
	}
	r = span.New(list)
	packed := span.Pack(list)
	clear(whole)
	number(t, r, 300)
	taken(t, r, 3, "abc")
	one(t, r, 9)
	if !bytes.Equal(packed, cat([]byte{7}, before[:7])) {
		t.Errorf("what was handed in was kept: %x", packed)
	}
}

// R4: a list that is handed out is memory of its own.
func TestMemoryHandedOut(t *testing.T) {
	r := span.New([]byte{2, 'a', 'b', 2, 'c', 'd', 5})
	first := r.Bytes(2)
	overwrite(first)
	second := r.Bytes(2)
	if string(second) != "cd" {
		t.Errorf("Bytes(2) = %x behind a list that was written to", second)
	}
	overwrite(second)
	one(t, r, 5)
	stands(t, r, 7, 0, false)
	packed, other := span.Pack([]byte("ab")), span.Pack([]byte("ab"))
	overwrite(packed)
	if string(other) != "\x02ab" {
		t.Errorf("Pack's lists share memory: %x", other)
	}
}

// R4: nil and the empty list are the same.
func TestNilIsEmpty(t *testing.T) {
	if !bytes.Equal(span.Pack(nil), span.Pack([]byte{})) {
		t.Error("Pack of nil and of the empty list differ")
	}
}

// R5: each Reader goes its own way, over the same bytes as well.
func TestReadersAreApart(t *testing.T) {
	b := []byte{3, 'a', 'b', 'c', 7}
	first, second := span.New(b), span.New(b)
	taken(t, first, 2, "")
	gone(t, first, 0, 5)
	stands(t, second, 0, 5, false)
	taken(t, second, 3, "abc")
	one(t, second, 7)
	stands(t, second, 5, 0, false)
	stands(t, first, 0, 5, true)
}
