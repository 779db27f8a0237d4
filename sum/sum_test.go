package sum_test

import (
	"bytes"
	"encoding/binary"
	"hash/crc32"
	"math"
	"slices"
	"sync"
	"testing"

	"haulier/sum"
)

// written are bytes, and the sum of them.
func written() map[string]uint32 {
	return map[string]uint32{
		"":                 0,
		"\x00":             0xd202ef8d,
		"\xff":             0xff000000,
		"a":                0xe8b7be43,
		"abc":              0x352441c2,
		"123456789":        0xcbf43926,
		"\x00\x00\x00\x00": 0x2144df1c,
		"\xff\xff\xff\xff": 0xffffffff,
		"The quick brown fox jumps over the lazy dog": 0x414fa339,
	}
}

// samples are lists of many lengths, with all bytes in them.
func samples() [][]byte {
	list := [][]byte{nil, {}, {0}, {0xff}, {0, 0, 0, 0}, {0xff, 0xff, 0xff, 0xff}}
	for size := 1; size <= 300; size += 7 {
		b := make([]byte, size)
		for i := range b {
			b[i] = byte(i*i*7 + i*31 + size)
		}
		list = append(list, b)
	}
	return list
}

// roomy is b, with memory behind its length, and a look at all of that memory.
func roomy(b []byte) (list, whole []byte) {
	whole = append(bytes.Clone(b), 0xa5, 0x5a, 1, 2, 3, 4, 0xff, 0, 9, 9, 9, 9)
	return whole[:len(b)], whole
}

// P2.1
func TestTable(t *testing.T) {
	table := sum.Table()
	if !slices.Equal(table, crc32.IEEETable[:]) {
		t.Fatalf("Table() has %d entries: %x", len(table), table)
	}
	for i, want := range map[int]uint32{0: 0, 1: 0x77073096, 2: 0xee0e612c, 128: 0xedb88320, 254: 0x5a05df1b, 255: 0x2d02ef8d} {
		if table[i] != want {
			t.Errorf("Table()[%d] = %x, want %x", i, table[i], want)
		}
	}
}

// P2.1, R4
func TestTableIsAListOfItsOwn(t *testing.T) {
	b := []byte("123456789")
	whole, kept := sum.Table(), sum.Table()
	for i := range whole {
		whole[i] = uint32(i)
	}
	if !slices.Equal(kept, crc32.IEEETable[:]) || !slices.Equal(sum.Table(), crc32.IEEETable[:]) {
		t.Error("Table()'s lists share memory")
	}
	if got := sum.Seal(b); !bytes.Equal(got, []byte("123456789\x26\x39\xf4\xcb")) {
		t.Errorf("Seal after Table() was written to: %x", got)
	}
}

// P2.1
func TestOfWritten(t *testing.T) {
	for s, want := range written() {
		if got := sum.Of(sum.Table(), []byte(s)...); got != want {
			t.Errorf("Of(%q) = %x, want %x", s, got, want)
		}
	}
	if got := sum.Of(sum.Table()); got != 0 {
		t.Errorf("Of nothing = %x", got)
	}
	if got := sum.Of(sum.Table(), '1', '2', '3', '4', '5', '6', '7', '8', '9'); got != 0xcbf43926 {
		t.Errorf("Of bytes one by one = %x", got)
	}
}

// P2.1
func TestOf(t *testing.T) {
	for _, b := range samples() {
		if got, want := sum.Of(sum.Table(), b...), crc32.ChecksumIEEE(b); got != want {
			t.Errorf("Of(%x) = %x, want %x", b, got, want)
		}
	}
}

// P2.1: it is the table handed in that counts, whatever stands in it.
func TestOfAnotherTable(t *testing.T) {
	other := crc32.MakeTable(crc32.Castagnoli)
	for _, b := range samples() {
		if got, want := sum.Of(other[:], b...), crc32.Checksum(b, other); got != want {
			t.Errorf("Of by another table (%x) = %x, want %x", b, got, want)
		}
	}
	if got := sum.Of(make([]uint32, 256), 1, 2, 3); got != ^uint32(0xff) {
		t.Errorf("Of by a table of zeros = %x", got)
	}
}

// P2.1
func TestOfWrongTable(t *testing.T) {
	long := append(sum.Table(), sum.Table()...)
	for _, size := range []int{0, 1, 2, 16, 128, 254, 255, 257, 258, 512} {
		for _, table := range [][]uint32{long[:size], slices.Clone(long[:size])} {
			for _, b := range [][]byte{nil, {0}, {1}, {0xff}, []byte("123456789")} {
				if got := sum.Of(table, b...); got != 0 {
					t.Errorf("Of by a table of %d (%x) = %x, want 0", size, b, got)
				}
			}
		}
	}
	if got := sum.Of(nil, 1, 2, 3); got != 0 {
		t.Errorf("Of by no table = %x, want 0", got)
	}
}

// P2.2
func TestSealWritten(t *testing.T) {
	for s, want := range map[string]string{
		"":          "\x00\x00\x00\x00",
		"a":         "a\x43\xbe\xb7\xe8",
		"abc":       "abc\xc2\x41\x24\x35",
		"123456789": "123456789\x26\x39\xf4\xcb",
	} {
		if got := sum.Seal([]byte(s)); string(got) != want {
			t.Errorf("Seal(%q) = %x, want %x", s, got, want)
		}
	}
	if got := sum.Seal(nil); !bytes.Equal(got, []byte{0, 0, 0, 0}) {
		t.Errorf("Seal(nil) = %x", got)
	}
}

// P2.2
func TestSealAndOpen(t *testing.T) {
	for _, b := range samples() {
		sealed := sum.Seal(b)
		if want := binary.LittleEndian.AppendUint32(bytes.Clone(b), crc32.ChecksumIEEE(b)); !bytes.Equal(sealed, want) {
			t.Errorf("Seal(%x) = %x, want %x", b, sealed, want)
		}
		opened(t, sealed, b)
		opened(t, sum.Seal(sealed), sealed)
	}
}

func opened(t *testing.T, b, want []byte) {
	t.Helper()
	if got, ok := sum.Open(b); !ok || !bytes.Equal(got, want) {
		t.Errorf("Open(%x) = %x, %v, want %x, true", b, got, ok, want)
	}
}

func refused(t *testing.T, b []byte) {
	t.Helper()
	if got, ok := sum.Open(b); ok || len(got) != 0 {
		t.Errorf("Open(%x) = %x, %v, want none, false", b, got, ok)
	}
}

// P2.2, R3: bytes that are too few for a seal, whatever lies behind them.
func TestOpenTooFew(t *testing.T) {
	refused(t, nil)
	for size := range 4 {
		refused(t, make([]byte, size))
		refused(t, sum.Seal(nil)[:size])
		refused(t, sum.Seal([]byte("abc"))[:size])
		refused(t, bytes.Repeat([]byte{0xff}, size))
	}
}

// P2.2, R3
func TestOpenOfNoSeal(t *testing.T) {
	for _, b := range [][]byte{{0, 0, 0, 1}, {1, 0, 0, 0}, {1, 2, 3, 4}, {0xff, 0xff, 0xff, 0xff}, make([]byte, 5), []byte("123456789")} {
		refused(t, b)
	}
	for _, b := range samples() {
		sealed := sum.Seal(b)
		refused(t, append(bytes.Clone(sealed), 7))
		if len(b) > 0 {
			refused(t, sealed[:len(sealed)-1])
			refused(t, sealed[1:])
			refused(t, binary.LittleEndian.AppendUint32(bytes.Clone(b), ^crc32.ChecksumIEEE(b)))
			// A sum that reads the same from both sides has no other order.
			if turned := binary.BigEndian.AppendUint32(bytes.Clone(b), crc32.ChecksumIEEE(b)); !bytes.Equal(turned, sealed) {
				refused(t, turned)
			}
		}
	}
}

// P2.2: of each four bytes behind b just the Seal's are taken.
func TestOpenOfEachByte(t *testing.T) {
	sealed := sum.Seal([]byte("abc"))
	for at := range sealed {
		for digits := range 256 {
			b := bytes.Clone(sealed)
			b[at] = byte(digits)
			if bytes.Equal(b, sealed) {
				opened(t, b, []byte("abc"))
			} else {
				refused(t, b)
			}
		}
	}
}

// P2.2
func TestSpoilWritten(t *testing.T) {
	for _, r := range []struct {
		b    string
		bit  int
		mask uint32
		want string
	}{
		{"\x00\x00", 0, 1, "\x01\x00"},
		{"\x00\x00", 7, 1, "\x80\x00"},
		{"\x00\x00", 8, 1, "\x00\x01"},
		{"\x00\x00", 15, 1, "\x00\x80"},
		{"\x00\x00", 0, 0x8001, "\x01\x80"},
		{"\x00\x00", 6, 0x5, "\x40\x01"},
		{"\xff\xff", 6, 0x5, "\xbf\xfe"},
		{"\x0f\xf0", 4, 0xff, "\xff\xff"},
		{"\x00\x00\x00\x00\x00\x00", 8, 0x04030201, "\x00\x01\x02\x03\x04\x00"},
		{"\x00\x00\x00\x00\x00", 4, 0xffffffff, "\xf0\xff\xff\xff\x0f"},
		{"abc", 5, 0, "abc"},
	} {
		if got := sum.Spoil([]byte(r.b), r.bit, r.mask); string(got) != r.want {
			t.Errorf("Spoil(%x, %d, %x) = %x, want %x", r.b, r.bit, r.mask, got, r.want)
		}
	}
}

// P2.2: places before the first digit and behind the last one are not there.
func TestSpoilOutside(t *testing.T) {
	for _, r := range []struct {
		bit  int
		mask uint32
		want string
	}{
		{-1, 1, "\x00\x00"}, {-1, 2, "\x01\x00"}, {-1, 3, "\x01\x00"}, {-8, 0xffff, "\xff\x00"},
		{-31, 0x80000000, "\x01\x00"}, {-31, 0x7fffffff, "\x00\x00"}, {-32, 0xffffffff, "\x00\x00"}, {-33, 0xffffffff, "\x00\x00"},
		{15, 0xffffffff, "\x00\x80"}, {15, 0xfffffffe, "\x00\x00"}, {16, 0xffffffff, "\x00\x00"}, {17, 0xffffffff, "\x00\x00"},
		{-4, 0xffffffff, "\xff\xff"}, {12, 0xffff, "\x00\xf0"},
		{math.MaxInt, 0xffffffff, "\x00\x00"}, {math.MaxInt - 30, 0xffffffff, "\x00\x00"},
		{math.MinInt, 0xffffffff, "\x00\x00"}, {math.MinInt + 31, 0xffffffff, "\x00\x00"},
		{1 << 32, 0xffffffff, "\x00\x00"}, {-1 << 32, 0xffffffff, "\x00\x00"},
	} {
		if got := sum.Spoil([]byte{0, 0}, r.bit, r.mask); string(got) != r.want {
			t.Errorf("Spoil(0000, %d, %x) = %x, want %x", r.bit, r.mask, got, r.want)
		}
		for _, none := range [][]byte{nil, {}} {
			if got := sum.Spoil(none, r.bit, r.mask); len(got) != 0 {
				t.Errorf("Spoil of nothing (%d, %x) = %x", r.bit, r.mask, got)
			}
		}
	}
}

// masks are those of one digit, of runs of digits, and some mixed ones.
func masks() []uint32 {
	list := []uint32{0, 0x80000001, 0xc0000003, 0xaaaaaaaa, 0x55555555, 0xedb88320, 0x04c11db7, 0xdeadbeef, 0x00010001}
	for i := range 32 {
		list = append(list, 1<<i, math.MaxUint32>>i, math.MaxUint32<<i)
	}
	return list
}

// turned is Spoil, digit by digit of b.
func turned(b []byte, bit int, mask uint32) []byte {
	out := bytes.Clone(b)
	for place := range 8 * len(b) {
		if i := place - bit; i >= 0 && i < 32 && mask&(1<<i) != 0 {
			out[place/8] ^= 1 << (place % 8)
		}
	}
	return out
}

// P2.2
func TestSpoil(t *testing.T) {
	for size := range 9 {
		b := bytes.Repeat([]byte{0x3c}, size)
		for bit := -40; bit < 8*size+8; bit++ {
			for _, mask := range masks() {
				got := sum.Spoil(b, bit, mask)
				if want := turned(b, bit, mask); !bytes.Equal(got, want) {
					t.Fatalf("Spoil(%x, %d, %x) = %x, want %x", b, bit, mask, got, want)
				}
				if again := sum.Spoil(got, bit, mask); !bytes.Equal(again, b) {
					t.Fatalf("Spoil(%x, %d, %x) twice = %x", b, bit, mask, again)
				}
			}
		}
	}
}

// P2.3
func TestSpoiltSealIsNotOpened(t *testing.T) {
	for _, s := range []string{"", "\x00", "a", "\xff\xff\xff\xff", "123456789", "\x00\x00\x00\x00\x00\x00\x00"} {
		sealed := sum.Seal([]byte(s))
		for bit := -32; bit <= 8*len(sealed); bit++ {
			for _, mask := range masks() {
				spoilt := sum.Spoil(sealed, bit, mask)
				if bytes.Equal(spoilt, sealed) {
					opened(t, spoilt, []byte(s))
				} else {
					refused(t, spoilt)
				}
			}
		}
	}
}

// P2.3: all masks of 16 digits, at each place.
func TestSpoiltSealOfAllMasks(t *testing.T) {
	sealed := sum.Seal([]byte{0x5a})
	for bit := range 8 * len(sealed) {
		for mask := range uint32(1 << 16) {
			spoilt := sum.Spoil(sealed, bit, mask)
			if _, ok := sum.Open(spoilt); ok != bytes.Equal(spoilt, sealed) {
				t.Fatalf("Open(%x) = %v", spoilt, ok)
			}
		}
	}
}

// R4: what is handed in is not changed, nor what lies behind its length, and does not count.
func TestMemoryHandedIn(t *testing.T) {
	for _, b := range samples() {
		for _, handed := range [][]byte{b, sum.Seal(b)} {
			list, whole := roomy(handed)
			before := bytes.Clone(whole)
			table := sum.Table()
			if sum.Of(table, list...) != sum.Of(table, handed...) ||
				!bytes.Equal(sum.Seal(list), sum.Seal(handed)) ||
				!bytes.Equal(sum.Spoil(list, -3, math.MaxUint32), sum.Spoil(handed, -3, math.MaxUint32)) ||
				!bytes.Equal(sum.Spoil(list, 8*len(list)-3, math.MaxUint32), sum.Spoil(handed, 8*len(list)-3, math.MaxUint32)) {
				t.Errorf("%x: what lies behind the length counts", handed)
			}
			got, ok := sum.Open(list)
			if want, wanted := sum.Open(handed); ok != wanted || !bytes.Equal(got, want) {
				t.Errorf("Open(%x): what lies behind the length counts", handed)
			}
			if !bytes.Equal(whole, before) || !slices.Equal(table, sum.Table()) {
				t.Errorf("%x: what was handed in was changed: %x", before, whole)
			}
		}
	}
}

// R4: what is handed out is new memory.
func TestMemoryHandedOut(t *testing.T) {
	for _, b := range samples() {
		sealed := sum.Seal(b)
		inner, _ := sum.Open(sealed)
		same := sum.Spoil(b, 0, 0)
		for name, out := range map[string][]byte{"Seal": sum.Seal(b), "Open": inner, "Spoil": same} {
			handed, full := bytes.Clone(b), bytes.Clone(sealed)
			for i := range out {
				out[i] ^= 0xff
			}
			if !bytes.Equal(b, handed) || !bytes.Equal(sealed, full) {
				t.Fatalf("%s(%x) shares memory", name, handed)
			}
		}
		opened(t, sum.Seal(b), b)
	}
}

// R4: nothing that was handed in is kept.
func TestMemoryNotKept(t *testing.T) {
	b := []byte("123456789")
	sealed, spoilt := sum.Seal(b), sum.Spoil(b, 0, 1)
	inner, _ := sum.Open(sealed)
	clear(b)
	if string(sealed) != "123456789\x26\x39\xf4\xcb" || string(spoilt) != "023456789" {
		t.Errorf("the bytes handed in were kept: %x, %x", sealed, spoilt)
	}
	clear(sealed)
	if string(inner) != "123456789" {
		t.Errorf("the bytes handed in were kept: %x", inner)
	}
}

// R4: nil and the empty list are the same.
func TestNilIsEmpty(t *testing.T) {
	if !bytes.Equal(sum.Seal(nil), sum.Seal([]byte{})) || sum.Of(nil, []byte{}...) != sum.Of([]uint32{}, nil...) {
		t.Error("nil and the empty list differ")
	}
	opened(t, sum.Seal(nil), []byte{})
	opened(t, sum.Seal([]byte{}), nil)
}

// P2.2: many may call at once, the first time as well.
func TestAtOnce(t *testing.T) {
	var all sync.WaitGroup
	for _, b := range samples() {
		all.Go(func() {
			if got, ok := sum.Open(sum.Seal(b)); !ok || !bytes.Equal(got, b) {
				t.Errorf("Open(Seal(%x)) = %x, %v", b, got, ok)
			}
		})
	}
	all.Wait()
}
