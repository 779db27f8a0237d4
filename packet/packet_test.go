package packet_test

import (
	"bytes"
	"encoding/binary"
	"hash/crc32"
	"math"
	"slices"
	"testing"

	"haulier/api"
	"haulier/packet"
	"haulier/span"
	"haulier/sum"
)

// numberField is a field that is a number.
type numberField struct {
	name string
	at   func(p *api.Packet) *int
}

// numberFields are all of them, but Kind.
func numberFields() []numberField {
	return []numberField{
		{"Path", func(p *api.Packet) *int { return &p.Path }},
		{"Number", func(p *api.Packet) *int { return &p.Number }},
		{"Of", func(p *api.Packet) *int { return &p.Of }},
		{"From", func(p *api.Packet) *int { return &p.From }},
		{"Seen", func(p *api.Packet) *int { return &p.Seen }},
		{"Limit", func(p *api.Packet) *int { return &p.Limit }},
	}
}

// kinds are all there are, and of each field that is a number the greatest that it may be (-1: the kind has it not).
func kinds() map[int][]int {
	return map[int][]int{
		api.Join:   {2, 65535, -1, -1, -1, -1},
		api.Joined: {2, 65535, 65535, -1, -1, -1},
		api.Data:   {2, 65535, -1, 4096, -1, -1},
		api.Ack:    {2, 65535, 65535, -1, 4097, 4496},
	}
}

// numbers are any numbers at all: at the bounds of fields, of sizes of a vint, of kinds of integers, and between.
func numbers() []int {
	return []int{
		math.MinInt, math.MinInt + 1, -1 << 62, -1 << 32, -4096, -256, -64, -2, -1, 0, 1, 2, 3, 4, 5, 63, 64, 65, 255, 256, 257, 300,
		4032, 4033, 4095, 4096, 4097, 4098, 4495, 4496, 4497, 16383, 16384, 65534, 65535, 65536, 1<<30 - 1, 1 << 30,
		1 << 32, 1<<32 + 1, api.MaxVint, api.MaxVint + 1, math.MaxInt - 1, math.MaxInt,
	}
}

// filled is that many bytes, next ones not the same.
func filled(size int) []byte {
	b := make([]byte, size)
	for i := range b {
		b[i] = byte(7*i + 1)
	}
	return b
}

// cat is the lists, one behind the other.
func cat(lists ...[]byte) []byte {
	return bytes.Join(lists, nil)
}

// overwrite writes to all of b's memory, behind its length as well.
func overwrite(b []byte) {
	b = b[:cap(b)]
	for i := range b {
		b[i] = 0xa5
	}
}

// sealed is b, and its sum, made by another's means.
func sealed(b ...byte) []byte {
	return binary.LittleEndian.AppendUint32(bytes.Clone(b), crc32.ChecksumIEEE(b))
}

// alike tells whether all fields are, without a call of the package.
func alike(a, b api.Packet) bool {
	same := a.Kind == b.Kind && bytes.Equal(a.Data, b.Data) && a.Fin == b.Fin
	for _, f := range numberFields() {
		same = same && *f.at(&a) == *f.at(&b)
	}
	return same
}

// may tells whether a packet may be, field by field, as the tables above have it.
func may(p api.Packet) bool {
	greatest, ok := kinds()[p.Kind]
	if !ok {
		return false
	}
	for i, f := range numberFields() {
		if n := *f.at(&p); n < 0 || n > max(greatest[i], 0) {
			return false
		}
	}
	if p.Kind != api.Data {
		return len(p.Data) == 0 && !p.Fin
	}
	return len(p.Data) <= 64 && p.From <= 4096-len(p.Data)
}

// row is a packet, and its bytes.
type row struct {
	p     api.Packet
	plain string
}

// written are packets of each kind, at their bounds as well.
func written() []row {
	whole := filled(api.MaxChunk)
	return []row{
		{api.Packet{Kind: api.Join}, "\x01\x00\x00"},
		{api.Packet{Kind: api.Join, Path: 1, Number: 2}, "\x01\x01\x02"},
		{api.Packet{Kind: api.Join, Path: 2, Number: 65535}, "\x01\x02\x80\x00\xff\xff"},
		{api.Packet{Kind: api.Joined}, "\x02\x00\x00\x00"},
		{api.Packet{Kind: api.Joined, Path: 1, Number: 63, Of: 64}, "\x02\x01\x3f\x40\x40"},
		{api.Packet{Kind: api.Joined, Path: 2, Number: 65535, Of: 65535}, "\x02\x02\x80\x00\xff\xff\x80\x00\xff\xff"},
		{api.Packet{Kind: api.Data}, "\x03\x00\x00\x00\x00\x00"},
		{api.Packet{Kind: api.Data, Fin: true}, "\x03\x00\x00\x00\x00\x01"},
		{api.Packet{Kind: api.Data, Path: 1, Number: 300, From: 100, Data: []byte("abc")}, "\x03\x01\x41\x2c\x40\x64\x03abc\x00"},
		{api.Packet{Kind: api.Data, Path: 2, Number: 5, From: 7, Data: []byte{0}, Fin: true}, "\x03\x02\x05\x07\x01\x00\x01"},
		{api.Packet{Kind: api.Data, Data: whole}, "\x03\x00\x00\x00\x40\x40" + string(whole) + "\x00"},
		{api.Packet{Kind: api.Data, From: 4032, Data: whole, Fin: true}, "\x03\x00\x00\x4f\xc0\x40\x40" + string(whole) + "\x01"},
		{api.Packet{Kind: api.Data, From: 4095, Data: []byte{9}}, "\x03\x00\x00\x4f\xff\x01\x09\x00"},
		{api.Packet{Kind: api.Data, From: 4096}, "\x03\x00\x00\x50\x00\x00\x00"},
		{api.Packet{Kind: api.Data, From: 4096, Fin: true}, "\x03\x00\x00\x50\x00\x00\x01"},
		{api.Packet{Kind: api.Ack}, "\x04\x00\x00\x00\x00\x00"},
		{api.Packet{Kind: api.Ack, Path: 1, Number: 2, Of: 3, Seen: 4, Limit: 5}, "\x04\x01\x02\x03\x04\x05"},
		{api.Packet{Kind: api.Ack, Number: 16383, Of: 16384, Seen: 4097, Limit: 4496}, "\x04\x00\x7f\xff\x80\x00\x40\x00\x50\x01\x51\x90"},
	}
}

// refused sees to it that p is told to be none by each call, and nothing beside.
func refused(t *testing.T, p api.Packet) {
	t.Helper()
	if got := packet.Check(p); got != api.ErrArg {
		t.Errorf("Check(%v) = %d", p, got)
	}
	if b, e := packet.Plain(p); e != api.ErrArg || len(b) != 0 {
		t.Errorf("Plain(%v) = %x, %d", p, b, e)
	}
	if b, e := packet.Pack(p); e != api.ErrArg || len(b) != 0 {
		t.Errorf("Pack(%v) = %x, %d", p, b, e)
	}
}

// packed sees to it that p may be, and that its bytes are read as it is.
func packed(t *testing.T, p api.Packet) {
	t.Helper()
	if got := packet.Check(p); got != api.OK {
		t.Errorf("Check(%v) = %d", p, got)
	}
	plain, e := packet.Plain(p)
	if e != api.OK {
		t.Errorf("Plain(%v): %d", p, e)
	}
	r := span.New(plain)
	if got, ok := packet.Take(r); !ok || !alike(got, p) || r.At() != len(plain) || r.Bad() {
		t.Errorf("Take of Plain(%v) = %v, %v, at %d", p, got, ok, r.At())
	}
	b, e := packet.Pack(p)
	if e != api.OK || !bytes.Equal(b, sealed(plain...)) {
		t.Errorf("Pack(%v) = %x, %d", p, b, e)
	}
	unpacked(t, b, p)
}

func unpacked(t *testing.T, b []byte, want api.Packet) {
	t.Helper()
	if got, e := packet.Unpack(b); e != api.OK || !alike(got, want) {
		t.Errorf("Unpack(%x) = %v, %d, want %v", b, got, e, want)
	}
}

// noPack sees to it that b is told to be no Pack, and nothing beside.
func noPack(t *testing.T, b []byte) {
	t.Helper()
	if got, e := packet.Unpack(b); e != api.ErrForm || !alike(got, api.Packet{}) {
		t.Errorf("Unpack(%x) = %v, %d", b, got, e)
	}
}

// notTaken sees to it that there is no packet at the beginning of b, plain or sealed.
func notTaken(t *testing.T, b []byte) {
	t.Helper()
	if got, ok := packet.Take(span.New(b)); ok || !alike(got, api.Packet{}) {
		t.Errorf("Take of %x = %v, %v", b, got, ok)
	}
	noPack(t, sealed(b...))
}

// P6.1, P6.2
func TestWritten(t *testing.T) {
	for _, row := range written() {
		packed(t, row.p)
		if got, e := packet.Plain(row.p); e != api.OK || string(got) != row.plain {
			t.Errorf("Plain(%v) = %x, %d, want %x", row.p, got, e, row.plain)
		}
		unpacked(t, sealed([]byte(row.plain)...), row.p)
	}
}

// P6.2: the chapter's example.
func TestExample(t *testing.T) {
	got, e := packet.Pack(api.Packet{Kind: api.Join, Path: 1, Number: 2})
	if e != api.OK || len(got) != 7 || !bytes.Equal(got[:3], []byte{1, 1, 2}) || !bytes.Equal(got, sum.Seal([]byte{1, 1, 2})) {
		t.Errorf("Pack = %x, %d", got, e)
	}
}

// P6.1: no other Kind is one, whatever else the packet has: not one either whose lowest byte is one.
func TestNoKind(t *testing.T) {
	for _, n := range numbers() {
		p := api.Packet{Kind: n}
		if n >= 1 && n <= 4 {
			packed(t, p)
			continue
		}
		refused(t, p)
		refused(t, api.Packet{Kind: n, Path: 1, Number: 2, Of: 3, Seen: 4, Limit: 5})
		refused(t, api.Packet{Kind: n, From: 1, Data: []byte("a"), Fin: true})
	}
}

// P6.1: each field's bounds, of each kind; one that a kind has not is 0.
func TestBounds(t *testing.T) {
	for kind, greatest := range kinds() {
		for i, f := range numberFields() {
			for _, n := range []int{0, 1, greatest[i] - 1, greatest[i], -1, greatest[i] + 1, -2, greatest[i] + 2} {
				p := api.Packet{Kind: kind}
				*f.at(&p) = n
				if n == 0 || n > 0 && n <= greatest[i] {
					packed(t, p)
				} else {
					refused(t, p)
				}
			}
		}
	}
}

// P6.1: what a kind has not, of all sorts, and beside what it has.
func TestWhatAKindHasNot(t *testing.T) {
	for kind, greatest := range kinds() {
		whole := api.Packet{Kind: kind}
		for i, f := range numberFields() {
			*f.at(&whole) = max(greatest[i], 0)
		}
		packed(t, whole)
		for i, f := range numberFields() {
			if greatest[i] < 0 {
				p := whole
				*f.at(&p) = 1
				refused(t, p)
			}
		}
		if kind == api.Data {
			continue
		}
		for _, extra := range []api.Packet{{Fin: true}, {Data: []byte{0}}, {Data: []byte{1, 2}}, {Data: []byte("a"), Fin: true}} {
			p := whole
			p.Data, p.Fin = extra.Data, extra.Fin
			refused(t, p)
		}
	}
}

// P6.1: how many bytes, and where they lie.
func TestDataAndFrom(t *testing.T) {
	for _, size := range []int{0, 1, 2, 62, 63, 64, 65, 66, 128, 256, 320, 4096, 4097, 65536} {
		for _, from := range append([]int{4096 - size - 1, 4096 - size, 4096 - size + 1}, numbers()...) {
			for _, fin := range []bool{false, true} {
				p := api.Packet{Kind: api.Data, From: from, Data: filled(size), Fin: fin}
				if size <= 64 && from >= 0 && from <= 4096 && from+size <= 4096 {
					packed(t, p)
				} else {
					refused(t, p)
				}
			}
		}
	}
}

// P6.1: any numbers at all in every field, one alone, and two at a time.
func TestAnyNumbers(t *testing.T) {
	for kind := range 7 {
		for _, f := range numberFields() {
			for _, g := range numberFields() {
				for _, n := range numbers() {
					for _, m := range numbers() {
						p := api.Packet{Kind: kind - 1, Data: filled(kind % 3)}
						*f.at(&p) = n
						*g.at(&p) = m
						if may(p) {
							packed(t, p)
						} else {
							refused(t, p)
						}
					}
				}
			}
		}
	}
}

// P6.1: no kind has all fields: the same number in all of them is a packet's only if it is 0.
func TestTheSameNumberInAllFields(t *testing.T) {
	for _, n := range numbers() {
		for _, fin := range []bool{false, true} {
			for _, data := range [][]byte{nil, {}, {1}} {
				p := api.Packet{Kind: n, Path: n, Number: n, Of: n, From: n, Data: data, Fin: fin, Seen: n, Limit: n}
				refused(t, p)
				for kind := range kinds() {
					p.Kind = kind
					if may(p) {
						packed(t, p)
					} else {
						refused(t, p)
					}
				}
			}
		}
	}
}

// P6.2: nothing of a packet that ends too early is one; nor of a Reader that was bad ahead of it.
func TestTakeOfWhatEnds(t *testing.T) {
	for _, row := range written() {
		for have := range len(row.plain) {
			// The rest lies behind the length: it must not be read.
			notTaken(t, []byte(row.plain)[:have])
			r := span.New([]byte("\x07" + row.plain[:have]))
			r.Byte()
			if got, ok := packet.Take(r); ok || !alike(got, api.Packet{}) {
				t.Errorf("Take of %x = %v, %v", row.plain[:have], got, ok)
			}
		}
		r := span.New([]byte(row.plain))
		if r.Bytes(-1); !r.Bad() {
			t.Fatal("the Reader is not bad")
		}
		for range 2 {
			if got, ok := packet.Take(r); ok || !alike(got, api.Packet{}) || r.At() != 0 || !r.Bad() {
				t.Errorf("Take of a bad Reader = %v, %v, at %d", got, ok, r.At())
			}
		}
	}
	notTaken(t, nil)
}

// P6.2: what lies behind a packet is left, and is read next; for Unpack there may be nothing.
func TestTakeOneBehindTheOther(t *testing.T) {
	var all []byte
	for _, row := range written() {
		all = append(append(all, row.plain...), 8)
		for _, behind := range []string{"\x00", "\x01", "\xff", "\x01\x01\x02", row.plain} {
			r := span.New([]byte(row.plain + behind))
			got, ok := packet.Take(r)
			if !ok || !alike(got, row.p) || r.At() != len(row.plain) || r.Left() != len(behind) || r.Bad() {
				t.Errorf("Take of %x, %x = %v, %v, at %d", row.plain, behind, got, ok, r.At())
			}
			noPack(t, sealed([]byte(row.plain+behind)...))
		}
	}
	r := span.New(all)
	for _, row := range written() {
		if got, ok := packet.Take(r); !ok || !alike(got, row.p) || r.Byte() != 8 {
			t.Errorf("Take = %v, %v, want %v", got, ok, row.p)
		}
	}
	if r.Left() != 0 || r.Bad() {
		t.Errorf("%d bytes are left", r.Left())
	}
}

// P6.2: the byte at the end of a Data is 1 or 0.
func TestFinIsOneOrNone(t *testing.T) {
	for c := range 256 {
		b := []byte{3, 1, 2, 4, 2, 'a', 'b', byte(c)}
		if c > 1 {
			notTaken(t, b)
			continue
		}
		unpacked(t, sealed(b...), api.Packet{Kind: api.Data, Path: 1, Number: 2, From: 4, Data: []byte("ab"), Fin: c == 1})
	}
}

// P6.2: of what Check refuses, and of numbers in more bytes than they need, no bytes are a packet's.
func TestTakeOfOtherBytes(t *testing.T) {
	chunk := string(filled(65))
	for _, b := range []string{
		"\x00\x00\x00", "\x00\x00\x00\x00\x00\x00", "\x05\x00\x00", "\x05\x00\x00\x00\x00\x00", "\x40\x01\x00\x00", "\xff\x00\x00", // Kind
		"\x01\x03\x00", "\x02\x03\x00\x00", "\x03\x03\x00\x00\x00\x00", "\x04\x03\x00\x00\x00\x00", "\x01\xff\xff\xff\xff\xff\xff\xff\xff\x00", // Path
		"\x01\x00\x80\x01\x00\x00", "\x02\x00\x80\x01\x00\x00\x00", "\x03\x00\x80\x01\x00\x00\x00\x00\x00", "\x04\x00\x80\x01\x00\x00\x00\x00\x00", // Number
		"\x02\x00\x00\x80\x01\x00\x00", "\x04\x00\x00\x80\x01\x00\x00\x00\x00", // Of
		"\x03\x00\x00\x50\x01\x00\x00", "\x03\x00\x00\xff\xff\xff\xff\xff\xff\xff\xff\x00\x00", "\x03\x00\x00\xff\xff\xff\xff\xff\xff\xff\xff\x01a\x00", // From
		"\x03\x00\x00\x50\x00\x01a\x00", "\x03\x00\x00\x4f\xff\x02ab\x01", "\x03\x00\x00\x4f\xc1\x40\x40" + chunk[:64] + "\x00", // From, and bytes
		"\x03\x00\x00\x00\x40\x41" + chunk + "\x00", "\x03\x00\x00\x00\x03ab\x00", "\x03\x00\x00\x00\xff\xff\xff\xff\xff\xff\xff\xff\x00", // Data
		"\x04\x00\x00\x00\x50\x02\x00", "\x04\x00\x00\x00\x00\x51\x91", "\x04\x00\x00\x00\xff\xff\xff\xff\xff\xff\xff\xff\x00", "\x04\x00\x00\x00\x00\xff\xff\xff\xff\xff\xff\xff\xff", // Seen, Limit
		"\x01\x40\x01\x02", "\x01\x01\x40\x02", "\x01\x80\x00\x00\x01\x02", "\x01\x00\xc0\x00\x00\x00\x00\x00\x00\x00", // more bytes than they need
		"\x02\x00\x00\x40\x00", "\x02\x00\x00\x80\x00\x3f\xff", "\x03\x00\x00\x40\x00\x00\x00", "\x03\x00\x00\x00\x40\x00\x00", "\x03\x00\x00\x00\x40\x01a\x00", "\x03\x00\x00\x00\x80\x00\x00\x40" + chunk[:64] + "\x00",
		"\x04\x00\x00\x40\x00\x00\x00", "\x04\x00\x00\x00\x40\x00\x00", "\x04\x00\x00\x00\x00\x40\x00", "\x04\x00\x00\x00\x00\x80\x00\x11\x90",
	} {
		notTaken(t, []byte(b))
	}
}

// P6.2: of each few bytes what is taken is just what Plain makes of it again.
func TestEachFewBytes(t *testing.T) {
	letters := []byte{0, 1, 2, 3, 4, 5, 0x40, 0x50, 0x80, 0xff}
	taken := 0
	var from func(b []byte)
	from = func(b []byte) {
		r := span.New(b)
		p, ok := packet.Take(r)
		if plain, e := packet.Plain(p); ok && (e != api.OK || !bytes.Equal(plain, b[:r.At()])) || !ok && !alike(p, api.Packet{}) {
			t.Fatalf("Take of %x = %v, %v, at %d", b, p, ok, r.At())
		}
		if ok {
			taken++
			return
		}
		if len(b) < 7 && (len(b) != 1 || kinds()[int(b[0])] != nil) {
			for _, c := range letters {
				from(append(bytes.Clone(b), c))
			}
		}
	}
	from(nil)
	if taken < 1000 {
		t.Errorf("only %d packets", taken)
	}
}

// P6.2: a Seal that is cut, or has more behind it.
func TestUnpackOfACutSeal(t *testing.T) {
	for _, row := range written() {
		b := sealed([]byte(row.plain)...)
		for have := range len(b) {
			noPack(t, b[:have])
		}
		for from := 1; from < len(b); from++ {
			noPack(t, b[from:])
		}
		noPack(t, []byte(row.plain))
		noPack(t, append(bytes.Clone(b), 0))
		noPack(t, cat(b, b))
		noPack(t, sealed(b...))
	}
	noPack(t, nil)
	noPack(t, sealed())
}

// P6.2: a Seal of which digits are turned, one alone, and some that lie near.
func TestUnpackOfASpoiltSeal(t *testing.T) {
	for _, row := range written() {
		b := sealed([]byte(row.plain)...)
		for bit := range 8 * len(b) {
			for _, mask := range []uint32{1, 3, 5, 0x81, 0xff, 0x10001, 0x80000001, 0xedb88320, 0xffffffff} {
				// Where the mask reaches behind the end nothing may be turned.
				if spoilt := sum.Spoil(b, bit, mask); !bytes.Equal(spoilt, b) {
					noPack(t, spoilt)
				}
			}
		}
	}
}

// P6.2: one field that is not alike is enough, and it does not count whether such a packet may be.
func TestSame(t *testing.T) {
	for _, base := range []api.Packet{{}, {Kind: 4, Path: 1, Number: 2, Of: 3, From: 4, Data: []byte("abc"), Fin: true, Seen: 5, Limit: 6}, {Kind: -1, Path: math.MinInt, From: math.MaxInt}} {
		same(t, base, base, true)
		for _, n := range numbers() {
			p := base
			p.Kind = n
			same(t, p, base, n == base.Kind)
			for _, f := range numberFields() {
				p := base
				*f.at(&p) = n
				same(t, p, base, n == *f.at(&base))
			}
		}
		p := base
		p.Fin = !base.Fin
		same(t, p, base, false)
		for _, data := range []string{"", "a", "ab", "abc", "abd", "abcd", "cba", "\x00abc"} {
			p := base
			p.Data = []byte(data)
			same(t, p, base, data == string(base.Data))
		}
	}
}

func same(t *testing.T, a, b api.Packet, want bool) {
	t.Helper()
	if packet.Same(a, b) != want || packet.Same(b, a) != want {
		t.Errorf("Same(%v, %v) is not %v", a, b, want)
	}
}

// P6.2: of all written each is only as itself.
func TestSameOfTwo(t *testing.T) {
	for i, a := range written() {
		for k, b := range written() {
			same(t, a.p, b.p, i == k)
		}
	}
}

// R4: nil and the empty list are the same.
func TestNilIsEmpty(t *testing.T) {
	for _, row := range written() {
		if len(row.p.Data) > 0 {
			continue
		}
		null, empty := row.p, row.p
		null.Data, empty.Data = nil, []byte{}
		same(t, null, empty, true)
		packed(t, null)
		packed(t, empty)
		first, _ := packet.Pack(null)
		if second, _ := packet.Pack(empty); !bytes.Equal(first, second) {
			t.Errorf("Pack: %x, %x", first, second)
		}
	}
}

// R4: a packet that is handed in is neither changed nor kept, nor does what lies behind its Data's length count.
func TestDataHandedIn(t *testing.T) {
	whole := filled(200)
	for _, size := range []int{0, 1, 63, 64} {
		p := api.Packet{Kind: api.Data, From: 9, Data: whole[:size], Fin: true}
		own := p
		own.Data = filled(size)
		packed(t, p)
		same(t, p, own, true)
		plain, _ := packet.Plain(p)
		b, _ := packet.Pack(p)
		want := cat(plain)
		overwrite(p.Data)
		if !bytes.Equal(plain, want) || !bytes.Equal(b, sealed(want...)) {
			t.Errorf("what was handed in was kept: %x, %x", plain, b)
		}
		copy(whole, filled(200))
		overwrite(plain)
		overwrite(b)
		if !bytes.Equal(whole, filled(200)) {
			t.Errorf("what was handed in was changed: %x", whole)
		}
	}
}

// R4: bytes that are handed in are neither changed nor kept.
func TestBytesHandedIn(t *testing.T) {
	want := api.Packet{Kind: api.Data, Number: 1, From: 2, Data: []byte("abc")}
	b, _ := packet.Pack(want)
	whole := cat(b, []byte("behind"))
	list := whole[:len(b)]
	p, e := packet.Unpack(list)
	if e != api.OK || string(whole) != string(b)+"behind" {
		t.Errorf("%d, %x", e, whole)
	}
	overwrite(list)
	same(t, p, want, true)
	whole = cat(b, []byte("behind"))
	p, _ = packet.Unpack(whole[:len(b)])
	overwrite(p.Data)
	if string(whole) != string(b)+"behind" {
		t.Errorf("what was handed in was changed: %x", whole)
	}
}

// R4: what is handed out is memory of its own, each time.
func TestListsHandedOut(t *testing.T) {
	p := api.Packet{Kind: api.Data, Number: 1, From: 2, Data: []byte("abc"), Fin: true}
	plain := "\x03\x00\x01\x02\x03abc\x01"
	r := span.New([]byte(plain + plain))
	first, _ := packet.Take(r)
	overwrite(first.Data)
	second, _ := packet.Take(r)
	same(t, second, p, true)
	for _, form := range []func(p api.Packet) ([]byte, api.Errno){packet.Plain, packet.Pack} {
		a, _ := form(p)
		b, _ := form(p)
		want := slices.Clone(b)
		overwrite(a)
		if c, _ := form(p); !bytes.Equal(b, want) || !bytes.Equal(c, want) {
			t.Errorf("two lists share memory: %x, %x", b, c)
		}
	}
	b := sealed([]byte(plain)...)
	first, _ = packet.Unpack(b)
	second, _ = packet.Unpack(b)
	overwrite(first.Data)
	same(t, second, p, true)
	unpacked(t, b, p)
}

// R5: each call goes by what it is handed, not by what was handed in ahead of it.
func TestCallsAreApart(t *testing.T) {
	for _, a := range written() {
		for _, b := range written() {
			r := span.New([]byte(a.plain))
			packet.Take(span.New([]byte(b.plain)))
			packet.Unpack([]byte(b.plain))
			packet.Pack(b.p)
			if got, ok := packet.Take(r); !ok || !alike(got, a.p) {
				t.Errorf("Take of %x = %v, %v", a.plain, got, ok)
			}
		}
	}
}
