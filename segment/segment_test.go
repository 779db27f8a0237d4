package segment_test

import (
	"bytes"
	"encoding/binary"
	"fmt"
	"hash/crc32"
	"math"
	"math/rand/v2"
	"slices"
	"testing"

	"haulier/api"
	"haulier/segment"
)

// longest is how many bytes a record has at most.
const longest = api.MaxBytes + 64

// numbers are any numbers at all: at the bounds, at those of sizes of a vint and of kinds of integers, and between.
func numbers() []int {
	return []int{
		math.MinInt, math.MinInt + 1, -api.MaxVint - 1, -api.MaxVint, -1 << 32, -300, -64, -2, -1, 0, 1, 2, 3, 62, 63, 64, 65, 127, 128,
		255, 256, 300, 16383, 16384, 65535, 65536, 1<<30 - 1, 1 << 30, 1<<31 - 1, 1 << 31, 1<<32 + 1, 1<<61 - 1, 1 << 61,
		api.MaxVint - 1, api.MaxVint, api.MaxVint + 1, math.MaxInt - 1, math.MaxInt,
	}
}

// filled is that many bytes, next ones not the same.
func filled(size int) []byte {
	b := make([]byte, size)
	for i := range b {
		b[i] = byte(7*i + 1)
	}
	return b
}

// cat is the lists, one behind the other.
func cat(lists ...[]byte) []byte {
	return bytes.Join(lists, nil)
}

// overwrite writes to all of b's memory, behind its length as well.
func overwrite(b []byte) {
	b = b[:cap(b)]
	for i := range b {
		b[i] = 0xa5
	}
}

// number is n as a vint, made by another's means.
func number(n int) []byte {
	for shift := range 4 {
		bits := 8 << shift
		if n < 1<<(bits-2) {
			all := binary.BigEndian.AppendUint64(nil, uint64(n)|uint64(shift)<<(bits-2))
			return all[8-bits/8:]
		}
	}
	panic("too great")
}

// wide is n as a vint of eight bytes, needlessly long below 1 << 30.
func wide(n int) []byte {
	return binary.BigEndian.AppendUint64(nil, uint64(n)|3<<62)
}

// sealed is b, and its sum, made by another's means.
func sealed(b ...byte) []byte {
	return binary.LittleEndian.AppendUint32(bytes.Clone(b), crc32.ChecksumIEEE(b))
}

// packed is b with its length ahead.
func packed(b []byte) []byte {
	return cat(number(len(b)), b)
}

// unit is the lists one behind the other, sealed and packed.
func unit(lists ...[]byte) []byte {
	return packed(sealed(cat(lists...)...))
}

func head(n int) []byte {
	return unit([]byte{1}, number(n))
}

func record(b string) []byte {
	return unit([]byte{2}, []byte(b))
}

func foot(n, records int) []byte {
	return unit([]byte{3}, number(n), number(records))
}

// spoilt is b with the lowest digit of its last byte turned.
func spoilt(b []byte) []byte {
	b = bytes.Clone(b)
	b[len(b)-1] ^= 1
	return b
}

// numberOf is the vint at the beginning of b, read by another's means.
func numberOf(b []byte) (n, size int, ok bool) {
	if len(b) == 0 || len(b) < 1<<(b[0]>>6) {
		return 0, 0, false
	}
	size = 1 << (b[0] >> 6)
	whole := append(make([]byte, 8-size), b[:size]...)
	n = int(binary.BigEndian.Uint64(whole) &^ (3 << (8*size - 2)))
	return n, size, bytes.Equal(number(n), b[:size])
}

// unitOf is what was sealed and packed at the beginning of b, and how many bytes it has there.
func unitOf(b []byte) (body []byte, size int, ok bool) {
	n, size, ok := numberOf(b)
	if !ok || n < 4 || n > len(b)-size {
		return nil, 0, false
	}
	body = b[size : size+n-4]
	return body, size + n, bytes.Equal(sealed(body...), b[size:size+n])
}

// model is what b is as a segment, told unit by unit.
func model(b []byte) (s segment.Found) {
	body, size, ok := unitOf(b)
	if !ok || len(body) == 0 || body[0] != 1 {
		return s
	}
	n, numberSize, ok := numberOf(body[1:])
	if !ok || n == 0 || 1+numberSize != len(body) {
		return s
	}
	s = segment.Found{Number: n, Whole: size}
	for {
		body, size, ok := unitOf(b[s.Whole:])
		if !ok || len(body) == 0 {
			return s
		}
		if bytes.Equal(body, cat([]byte{3}, number(n), number(len(s.Records)))) {
			s.Whole += size
			s.Sealed = s.Whole == len(b)
			return s
		}
		if body[0] != 2 || len(body) > 1+longest {
			return s
		}
		s.Records = append(s.Records, body[1:])
		s.Whole += size
	}
}

// told is all of s as a text.
func told(s segment.Found) string {
	return fmt.Sprintf("%d %x %d %v", s.Number, s.Records, s.Whole, s.Sealed)
}

// short is the first bytes of b, as many as a message bears.
func short(b []byte) string {
	return fmt.Sprintf("%d bytes, %x", len(b), b[:min(len(b), 100)])
}

// scans sees to it that Scan(b) is that.
func scans(t *testing.T, what any, b []byte, want segment.Found) {
	t.Helper()
	if got := segment.Scan(b); told(got) != told(want) {
		t.Errorf("%v: Scan of %s is %s, not %s", what, short(b), short([]byte(told(got))), short([]byte(told(want))))
	}
}

// modelled sees to it that Scan(b) is what the model tells.
func modelled(t *testing.T, what any, b []byte) {
	t.Helper()
	scans(t, what, b, model(b))
}

// found is what a row of a head and those records is, up to the place whole.
func found(n, whole int, sealed bool, records ...string) segment.Found {
	s := segment.Found{Number: n, Whole: whole, Sealed: sealed}
	for _, b := range records {
		s.Records = append(s.Records, []byte(b))
	}
	return s
}

// P9.1: the bytes of each part, written out.
func TestWritten(t *testing.T) {
	for _, r := range []struct {
		got  []byte
		want string
	}{
		{segment.Head(1), "\x06\x01\x01\x28\x13\xc5\x2f"},
		{segment.Head(300), "\x07\x01\x41\x2c\x82\xa1\x39\x25"},
		{segment.Record(nil), "\x05\x02\xa1\x8e\x0c\x3c"},
		{segment.Record([]byte("ab")), "\x07\x02ab\xee\x57\x9f\x23"},
		{segment.Foot(1, 0), "\x07\x03\x01\x00\x0a\x56\x1c\xe4"},
	} {
		if string(r.got) != r.want {
			t.Errorf("%x, not %x", r.got, r.want)
		}
	}
}

// part sees to it that got is the unit of those lists, or nothing.
func part(t *testing.T, what string, got []byte, ok bool, want func() []byte) {
	t.Helper()
	switch {
	case !ok && len(got) > 0:
		t.Errorf("%s is %s, not nothing", what, short(got))
	case ok && !bytes.Equal(got, want()):
		t.Errorf("%s is %s, not %s", what, short(got), short(want()))
	}
}

// P9.1: Head and Foot of any numbers: of a head and a foot from 1 to MaxVint, of records from 0 on.
func TestAnyNumbers(t *testing.T) {
	for _, n := range numbers() {
		right := n >= 1 && n <= api.MaxVint
		part(t, fmt.Sprintf("Head(%d)", n), segment.Head(n), right, func() []byte { return head(n) })
		for _, records := range numbers() {
			both := right && records >= 0 && records <= api.MaxVint
			part(t, fmt.Sprintf("Foot(%d, %d)", n, records), segment.Foot(n, records), both, func() []byte { return foot(n, records) })
		}
	}
}

// sizes are of records, at the bounds, at those of the sizes of a length, and between.
func sizes() []int {
	return []int{0, 1, 2, 57, 58, 59, 60, 63, 64, 400, 1024, api.MaxBytes, api.MaxBytes + 1, longest - 2, longest - 1, longest, longest + 1, longest + 2, 16377, 16378, 16379, 16380, 1 << 17}
}

// P9.1: Record of each size: more than MaxBytes + 64 bytes are none.
func TestRecordSizes(t *testing.T) {
	for _, size := range sizes() {
		b := filled(size)
		part(t, fmt.Sprintf("Record of %d", size), segment.Record(b), size <= longest, func() []byte { return record(string(b)) })
	}
}

// P9.2: what was made is found again, as it was.
func TestMadeIsFound(t *testing.T) {
	for _, n := range numbers() {
		if n < 1 || n > api.MaxVint {
			continue
		}
		b := segment.Head(n)
		scans(t, "head", b, found(n, len(b), false))
		var records []string
		for _, size := range []int{0, 1, 58, 59, 400, longest, 0} {
			records = append(records, string(filled(size)))
			b = append(b, segment.Record(filled(size))...)
			scans(t, "record", b, found(n, len(b), false, records...))
		}
		b = append(b, segment.Foot(n, len(records))...)
		scans(t, "foot", b, found(n, len(b), true, records...))
	}
}

// P9.2: many records, at the bounds of a vint's sizes: the foot has their number.
func TestManyRecords(t *testing.T) {
	for _, n := range []int{0, 1, 62, 63, 64, 65, 255, 256, 16383, 16384} {
		rows := cat(head(5), bytes.Repeat(record(""), n))
		records := make([]string, n)
		scans(t, n, rows, found(5, len(rows), false, records...))
		whole := cat(rows, foot(5, n))
		scans(t, n, whole, found(5, len(whole), true, records...))
		for _, other := range []int{0, n - 1, n + 1, n - 256, n + 256, n + 1<<16} {
			if other != n && other >= 0 {
				scans(t, n, cat(rows, foot(5, other)), found(5, len(rows), false, records...))
			}
		}
	}
}

// P9.2: of nothing, and of what has no whole head, all is zero.
func TestNoHead(t *testing.T) {
	h := head(7)
	behind := cat(record("a"), foot(7, 1))
	for what, b := range map[string][]byte{
		"nothing":                  nil,
		"one byte":                 {6},
		"zeros":                    make([]byte, 20),
		"a record":                 record("a"),
		"a foot":                   foot(7, 0),
		"a spoilt one":             spoilt(h),
		"of number 0":              head(0),
		"without a number":         unit([]byte{1}),
		"a byte behind its number": unit([]byte{1, 7, 0}),
		"two numbers":              unit([]byte{1, 7, 7}),
		"a number cut":             unit([]byte{1, 0x41}),
		"a number needlessly long": unit([]byte{1, 0x40, 7}),
		"one of eight bytes":       unit([]byte{1}, wide(7)),
		"of no kind":               unit([]byte{0, 7}),
		"of kind 4":                unit([]byte{4, 7}),
		"without any byte":         unit(),
		"a length needlessly long": cat([]byte{0x40}, h),
		"a length of eight bytes":  cat(wide(6), h[1:]),
		"a length one too great":   cat([]byte{7}, h[1:]),
		"a length one too small":   cat([]byte{5}, h[1:]),
		"not sealed":               packed([]byte{1, 7}),
		"not packed":               sealed(1, 7),
		"a byte ahead of it":       cat([]byte{0}, h),
	} {
		scans(t, what, b, segment.Found{})
		if len(b) > 0 {
			scans(t, what+", and more", cat(b, behind), segment.Found{})
			scans(t, what+", and a head", cat(b, h, behind), segment.Found{})
		}
	}
	for i := range h {
		scans(t, "cut", h[:i], segment.Found{})
	}
}

// wrongUnits are those that are no record, wherever they stand, and no foot of the number 7 and of one record or two.
func wrongUnits() map[string][]byte {
	a, f := record("abc"), foot(7, 1)
	return map[string][]byte{
		"the head again":                  head(7),
		"another head":                    head(8),
		"a spoilt record":                 spoilt(a),
		"no kind":                         unit([]byte{0, 'a'}),
		"kind 4":                          unit([]byte{4, 'a'}),
		"kind 255":                        unit([]byte{255, 'a'}),
		"kind 2 as a vint of two bytes":   unit([]byte{0x40, 2, 'a'}),
		"no byte":                         unit(),
		"no sum":                          packed([]byte{2, 'a'}),
		"nothing packed":                  {0},
		"three bytes packed":              packed([]byte{2, 'a', 'b'}),
		"one byte too many":               record(string(filled(longest + 1))),
		"some bytes too many":             record(string(filled(2 * longest))),
		"a length needlessly long":        cat([]byte{0x40}, a),
		"a length of eight bytes":         cat(wide(int(a[0])), a[1:]),
		"a length one too great":          cat([]byte{a[0] + 1}, a[1:]),
		"a length one too small":          cat([]byte{a[0] - 1}, a[1:]),
		"a length of all there can be":    cat(wide(api.MaxVint), a[1:]),
		"a length that is cut":            {0x40},
		"a great length that is cut":      {0xc0, 0, 0, 1},
		"a foot of another number":        foot(8, 1),
		"a foot of number 0":              foot(0, 1),
		"a foot of number and count 0":    foot(0, 0),
		"a foot of another count":         foot(7, 3),
		"a foot of count 0":               foot(7, 0),
		"a foot of the greatest":          foot(api.MaxVint, api.MaxVint),
		"a foot, its numbers turned":      foot(1, 7),
		"a spoilt foot":                   spoilt(f),
		"a foot without numbers":          unit([]byte{3}),
		"a foot without a count":          unit([]byte{3, 7}),
		"a foot, its count cut":           unit([]byte{3, 7, 0x40}),
		"a foot, a byte behind its count": unit([]byte{3, 7, 1, 0}),
		"a foot, three numbers":           unit([]byte{3, 7, 1, 1}),
		"a foot, needlessly long number":  unit([]byte{3, 0x40, 7, 1}),
		"a foot, needlessly long count":   unit([]byte{3, 7, 0x40, 1}),
		"a foot, wide number":             unit([]byte{3}, wide(7), number(1)),
		"a foot, wide count":              unit([]byte{3}, number(7), wide(1)),
		"a foot, length needlessly long":  cat([]byte{0x40}, f),
		"a foot, not sealed":              packed([]byte{3, 7, 1}),
		"a foot, not packed":              sealed(3, 7, 1),
	}
}

// P9.2: a row ends ahead of the first unit that is not right, whatever stands behind it.
func TestWrongUnits(t *testing.T) {
	for what, wrong := range wrongUnits() {
		for _, records := range [][]string{{"a"}, {"", "abc"}} {
			b := head(7)
			for _, r := range records {
				b = append(b, record(r)...)
			}
			want := found(7, len(b), false, records...)
			scans(t, what, cat(b, wrong), want)
			scans(t, what+", a record", cat(b, wrong, record("x")), want)
			scans(t, what+", a right foot", cat(b, wrong, foot(7, len(records))), want)
			scans(t, what+", a foot of one more", cat(b, wrong, foot(7, len(records)+1)), want)
			scans(t, what+", a segment", cat(b, wrong, b, foot(7, len(records))), want)
		}
	}
}

// P9.2: a foot right behind the head is of no records.
func TestFootBehindHead(t *testing.T) {
	h := head(7)
	whole := cat(h, foot(7, 0))
	scans(t, "no records", whole, found(7, len(whole), true))
	for _, n := range []int{1, 2, 7, api.MaxVint} {
		scans(t, n, cat(h, foot(7, n)), found(7, len(h), false))
	}
	scans(t, "another's", cat(h, foot(8, 0)), found(7, len(h), false))
	scans(t, "one is all there is", foot(7, 0), segment.Found{})
}

// P9.2: behind a foot nothing counts, whole or not: it is no end then.
func TestBehindFoot(t *testing.T) {
	for _, records := range [][]string{nil, {"a"}, {"", "abc"}} {
		b := head(7)
		for _, r := range records {
			b = append(b, record(r)...)
		}
		b = append(b, foot(7, len(records))...)
		scans(t, "an end", b, found(7, len(b), true, records...))
		for what, behind := range map[string][]byte{
			"a zero":               {0},
			"a byte":               {5},
			"a record":             record("a"),
			"a record of nothing":  record(""),
			"a cut record":         record("abc")[:6],
			"a head":               head(7),
			"the next head":        head(8),
			"the foot again":       foot(7, len(records)),
			"a foot of one more":   foot(7, len(records)+1),
			"a record and a foot":  cat(record("a"), foot(7, len(records)+1)),
			"a record, foot as is": cat(record("a"), foot(7, len(records))),
			"the segment again":    b,
			"zeros":                make([]byte, 4000),
		} {
			scans(t, what, cat(b, behind), found(7, len(b), false, records...))
		}
	}
}

// P9.2: a record whose bytes are of one length too many is none, though all else is right.
func TestTooLongRecord(t *testing.T) {
	h := head(7)
	for _, size := range sizes() {
		b := string(filled(size))
		row := cat(h, record(b), record("x"), foot(7, 2))
		want := found(7, len(row), true, b, "x")
		if size > longest {
			want = found(7, len(h), false)
		}
		scans(t, size, row, want)
	}
}

// rows are whole segments, and the places where their units end.
func rows() (all [][]byte, ends [][]int) {
	for _, units := range [][][]byte{
		{head(1), foot(1, 0)},
		{head(7), record(""), foot(7, 1)},
		{head(300), record("abc"), record(""), record("\x02"), foot(300, 3)},
		{head(api.MaxVint), record(string(filled(70))), record(string(head(1))), foot(api.MaxVint, 2)},
	} {
		var b []byte
		var places []int
		for _, u := range units {
			b = append(b, u...)
			places = append(places, len(b))
		}
		all = append(all, b)
		ends = append(ends, places)
	}
	return all, ends
}

// wholeUpTo is what the row b is when nothing from the place at on is right.
func wholeUpTo(b []byte, ends []int, at int) segment.Found {
	s := segment.Scan(b)
	units := 0
	for units < len(ends) && ends[units] <= at {
		units++
	}
	if units == 0 {
		return segment.Found{}
	}
	records := min(units-1, len(s.Records))
	return segment.Found{Number: s.Number, Records: s.Records[:records], Whole: ends[units-1], Sealed: units == len(ends)}
}

// P9.2: each cut of a row of units: what is whole ahead of it is found.
func TestEachCut(t *testing.T) {
	all, ends := rows()
	for i, b := range all {
		for at := range len(b) + 1 {
			want := wholeUpTo(b, ends[i], at)
			scans(t, at, b[:at], want)
			scans(t, at, cat(b[:at]), want)
			modelled(t, at, b[:at])
		}
	}
}

// P9.2: each digit of a row turned: nothing from the unit on that it is in.
func TestEachDigitTurned(t *testing.T) {
	all, ends := rows()
	for i, b := range all {
		for bit := range 8 * len(b) {
			turned := bytes.Clone(b)
			turned[bit/8] ^= 1 << (bit % 8)
			scans(t, bit, turned, wholeUpTo(b, ends[i], bit/8))
			modelled(t, bit, turned)
		}
	}
}

// P9.2: each byte of a row left out, or doubled.
func TestEachByteLeftOut(t *testing.T) {
	all, _ := rows()
	for _, b := range all {
		for i := range b {
			modelled(t, i, cat(b[:i], b[i+1:]))
			modelled(t, i, cat(b[:i+1], b[i:]))
		}
	}
}

// P9.2: each row of up to five units over thirteen.
func TestEachRow(t *testing.T) {
	units := [][]byte{
		head(1), head(2), head(0), record(""), record("a"), foot(1, 0), foot(1, 1), foot(1, 2), foot(2, 1),
		spoilt(record("a")), unit([]byte{4}), unit(), {0},
	}
	sealed := 0
	var grow func(b []byte, left int)
	grow = func(b []byte, left int) {
		modelled(t, "row", b)
		if segment.Scan(b).Sealed {
			sealed++
		}
		if left == 0 {
			return
		}
		for _, u := range units {
			grow(cat(b, u), left-1)
		}
	}
	for _, u := range units[:4] {
		grow(u, 4)
	}
	// A head of 1, and none, one (of two) or two records, and the foot; a head of 2 and one record.
	if sealed != 1+2+4+2 {
		t.Errorf("%d rows are sealed", sealed)
	}
}

// P9.2: each few bytes, sealed, as a head, behind one, and behind a record.
func TestEachFewBytes(t *testing.T) {
	values := []byte{0, 1, 2, 3, 4, 7, 0x3f, 0x40, 0x41, 0x80, 0xc0, 0xff}
	h, r := head(1), record("a")
	var grow func(b []byte, left int)
	grow = func(b []byte, left int) {
		u := unit(b)
		modelled(t, "few", u)
		modelled(t, "few", cat(u, r))
		modelled(t, "few", cat(h, u))
		modelled(t, "few", cat(h, r, u))
		modelled(t, "few", b)
		if left == 0 {
			return
		}
		for _, v := range values {
			grow(append(bytes.Clone(b), v), left-1)
		}
	}
	grow(nil, 4)
}

// P9.2: each two bytes as the number of a head, and as the numbers of a foot.
func TestEachTwoBytes(t *testing.T) {
	h := head(5)
	for n := range 1 << 16 {
		b := []byte{byte(n >> 8), byte(n)}
		modelled(t, "head", unit([]byte{1}, b))
		modelled(t, "foot", cat(h, unit([]byte{3}, b)))
	}
}

// P9.2: any numbers as a head's and a foot's: the foot must be of the head's number, and of the count.
func TestAnyFoot(t *testing.T) {
	var all []int
	for _, n := range numbers() {
		if n >= 0 && n <= api.MaxVint {
			all = append(all, n)
		}
	}
	for _, n := range all {
		for _, m := range all {
			for _, count := range all {
				b := cat(head(n), record("a"), record(""))
				want := found(n, len(b), false, "a", "")
				whole := cat(b, foot(m, count))
				if m == n && count == 2 {
					want = found(n, len(whole), true, "a", "")
				}
				if n == 0 {
					want = segment.Found{}
				}
				scans(t, "foot", whole, want)
			}
		}
	}
}

// P9.2: a length that is needlessly long, that is more than there is, that is no number: of a head, a record, a foot.
func TestLengths(t *testing.T) {
	h, r, f := head(7), record("abc"), foot(7, 1)
	for _, units := range [][2][]byte{{nil, h}, {h, r}, {cat(h, r), f}} {
		ahead, u := units[0], units[1]
		for first := range 256 {
			b := cat(ahead, []byte{byte(first)}, u[1:])
			want := segment.Scan(ahead)
			if byte(first) == u[0] {
				want = model(b)
			}
			scans(t, first, b, want)
			modelled(t, first, cat(b, make([]byte, 300)))
		}
		for _, n := range numbers() {
			if n >= 0 && n <= api.MaxVint {
				scans(t, n, cat(ahead, wide(n), u[1:]), segment.Scan(ahead))
			}
		}
		for _, length := range []string{"", "\x40", "\x80\x00\x00", "\xc0\x00\x00\x00\x00\x00\x00", "\xff", "\xff\xff\xff\xff\xff\xff\xff\xff"} {
			scans(t, length, cat(ahead, []byte(length)), segment.Scan(ahead))
		}
	}
}

// anyUnit is one that is right, or that is not.
func anyUnit(r *rand.Rand, n, records int) []byte {
	b := filled(r.IntN(90))
	switch r.IntN(12) {
	case 0:
		return foot(n, records)
	case 1:
		return foot(r.IntN(3), r.IntN(3))
	case 2:
		return head(r.IntN(3))
	case 3:
		return unit(b)
	case 4:
		return packed(b)
	case 5:
		return b
	}
	return record(string(b))
}

// P9.2: any bytes at all, and rows of units of which some are spoilt, cut, doubled or changed.
func TestAnyBytes(t *testing.T) {
	r := rand.New(rand.NewPCG(9, 9))
	for round := range 60000 {
		n := 1 + r.IntN(3)
		b := head(n)
		for records := range r.IntN(6) {
			b = append(b, anyUnit(r, n, records)...)
		}
		switch r.IntN(6) {
		case 0:
			b[r.IntN(len(b))] = byte(r.Uint32())
		case 1:
			b = b[:r.IntN(len(b)+1)]
		case 2:
			from := r.IntN(len(b))
			b = slices.Delete(b, from, from+r.IntN(len(b)-from+1))
		case 3:
			b = slices.Insert(b, r.IntN(len(b)+1), anyUnit(r, n, r.IntN(4))...)
		case 4:
			b = make([]byte, r.IntN(60))
			for i := range b {
				b[i] = byte(r.Uint32() >> r.IntN(32))
			}
		}
		modelled(t, round, b)
	}
}

// P9.2: what Scan calls whole is found in it alone as well; only a foot that was no end becomes one.
func TestWholeAlone(t *testing.T) {
	all, _ := rows()
	for _, b := range all {
		for i := range b {
			turned := bytes.Clone(b)
			turned[i] ^= 0x80
			for _, row := range [][]byte{turned, b[:i], cat(b, turned)} {
				got := segment.Scan(row)
				want := got
				want.Sealed = bytes.HasPrefix(row, b)
				scans(t, i, row[:got.Whole], want)
			}
		}
	}
}

// P9.2: a long row of bytes ends as well.
func TestLongRow(t *testing.T) {
	b := cat(head(1), bytes.Repeat(record(string(filled(longest))), 200))
	s := segment.Scan(b)
	if s.Number != 1 || len(s.Records) != 200 || s.Whole != len(b) || s.Sealed {
		t.Errorf("%d, %d, %d, %v", s.Number, len(s.Records), s.Whole, s.Sealed)
	}
	scans(t, "one unit of all", packed(make([]byte, 1<<20)), segment.Found{})
	scans(t, "bytes of no form", bytes.Repeat([]byte{0xff}, 1<<20), segment.Found{})
}

// R4: nil and the empty list are the same.
func TestNilIsEmpty(t *testing.T) {
	if !bytes.Equal(segment.Record(nil), segment.Record([]byte{})) {
		t.Error("Record")
	}
	scans(t, "nil", nil, segment.Found{})
	scans(t, "empty", []byte{}, segment.Found{})
}

// R4: what is handed in is neither changed nor kept, and what lies behind its length does not count.
func TestListsHandedIn(t *testing.T) {
	for _, size := range []int{0, 1, 58, 59, 400, longest, longest + 1} {
		whole := filled(size + 20)
		got := segment.Record(whole[:size])
		if !bytes.Equal(whole, filled(size+20)) {
			t.Errorf("Record changed its %d bytes", size)
		}
		overwrite(whole)
		part(t, "Record", got, size <= longest, func() []byte { return record(string(filled(size))) })
	}
	b := cat(head(7), record("abc"), record(""), foot(7, 2))
	for at := range len(b) + 1 {
		want := told(model(bytes.Clone(b[:at])))
		whole := bytes.Clone(b)
		got := segment.Scan(whole[:at])
		if !bytes.Equal(whole, b) {
			t.Errorf("Scan changed its bytes: %x", whole)
		}
		overwrite(whole)
		if told(got) != want {
			t.Errorf("Scan kept its bytes, or looked behind them: %s, not %s", told(got), want)
		}
	}
}

// R4: each list handed out is new memory, lists within it as well.
func TestListsHandedOut(t *testing.T) {
	for what, part := range map[string]func() []byte{
		"Head":    func() []byte { return segment.Head(300) },
		"Record":  func() []byte { return segment.Record([]byte("abc")) },
		"nothing": func() []byte { return segment.Record(nil) },
		"Foot":    func() []byte { return segment.Foot(300, 4) },
	} {
		first, second := part(), part()
		want := bytes.Clone(second)
		overwrite(first)
		if third := part(); !bytes.Equal(second, want) || !bytes.Equal(third, want) {
			t.Errorf("%s: %x, %x, not %x", what, second, third, want)
		}
	}
	records := []string{"abc", "", "x", "", "abc", string(filled(300))}
	b := head(7)
	for _, r := range records {
		b = append(b, record(r)...)
	}
	b = append(b, foot(7, len(records))...)
	kept := bytes.Clone(b)
	for i := range records {
		first, second := segment.Scan(b), segment.Scan(b)
		overwrite(first.Records[i])
		_ = append(first.Records[i], "behind"...)
		first.Records[i] = []byte(records[i])
		if told(first) != told(second) || !bytes.Equal(b, kept) {
			t.Errorf("the record %d shares memory: %s", i, told(first))
		}
		first.Records = append(first.Records[:0], first.Records[1:]...)
		scans(t, i, b, second)
	}
}

// R5: each call goes by what it is handed, not by what was handed in ahead of it.
func TestCallsAreApart(t *testing.T) {
	all, _ := rows()
	for _, a := range all {
		want := told(segment.Scan(a))
		for _, b := range all {
			segment.Scan(b[:len(b)-1])
			segment.Head(9)
			segment.Foot(9, 9)
			segment.Record([]byte("other"))
			if got := told(segment.Scan(a)); got != want {
				t.Errorf("%s, not %s", got, want)
			}
		}
	}
}
