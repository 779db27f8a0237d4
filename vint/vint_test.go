package vint_test

import (
	"bytes"
	"math"
	"testing"

	"haulier/api"
	"haulier/vint"
)

// form is n in that many bytes, needed or not.
func form(n, size int) []byte {
	b := make([]byte, size)
	for i := range b {
		b[i] = byte(n >> (8 * (size - 1 - i)))
	}
	b[0] |= map[int]byte{1: 0x00, 2: 0x40, 4: 0x80, 8: 0xc0}[size]
	return b
}

// holds tells whether n has a form in that many bytes.
func holds(n, size int) bool {
	return n>>(8*size-2) == 0
}

// sizes are numbers, and how many bytes the chapter gives them.
func sizes() map[int]int {
	return map[int]int{
		0: 1, 1: 1, 37: 1, 62: 1, 63: 1,
		64: 2, 65: 2, 255: 2, 256: 2, 300: 2, 16382: 2, 16383: 2,
		16384: 4, 16385: 4, 65535: 4, 65536: 4, 1<<24 + 5: 4, 1<<30 - 2: 4, 1<<30 - 1: 4,
		1 << 30: 8, 1<<30 + 1: 8, 1 << 32: 8, 0x0102030405060708: 8, 1<<61 - 1: 8, 1 << 61: 8,
		api.MaxVint - 1: 8, api.MaxVint: 8,
	}
}

// outside are numbers that have no bytes.
func outside() []int {
	return []int{-1, -2, -63, -64, -300, -1 << 30, -api.MaxVint, -api.MaxVint - 1, math.MinInt,
		api.MaxVint + 1, api.MaxVint + 2, 1<<62 + 300, math.MaxInt}
}

func refused(t *testing.T, b []byte) {
	t.Helper()
	if n, size, ok := vint.Take(b); n != 0 || size != 0 || ok {
		t.Errorf("Take(%x) = %d, %d, %v", b, n, size, ok)
	}
}

func taken(t *testing.T, b []byte, wantN, wantSize int) {
	t.Helper()
	if n, size, ok := vint.Take(b); n != wantN || size != wantSize || !ok {
		t.Errorf("Take(%x) = %d, %d, %v, want %d, %d, true", b, n, size, ok, wantN, wantSize)
	}
}

// P1.1
func TestSize(t *testing.T) {
	for n, want := range sizes() {
		if got := vint.Size(n); got != want {
			t.Errorf("Size(%d) = %d, want %d", n, got, want)
		}
	}
	for _, n := range outside() {
		if got := vint.Size(n); got != 0 {
			t.Errorf("Size(%d) = %d, want 0", n, got)
		}
	}
}

// P1.1
func TestPutWritten(t *testing.T) {
	for n, want := range map[int]string{
		0:                  "\x00",
		63:                 "\x3f",
		64:                 "\x40\x40",
		300:                "\x41\x2c",
		16383:              "\x7f\xff",
		16384:              "\x80\x00\x40\x00",
		0x01020304:         "\x81\x02\x03\x04",
		1<<30 - 1:          "\xbf\xff\xff\xff",
		1 << 30:            "\xc0\x00\x00\x00\x40\x00\x00\x00",
		0x0102030405060708: "\xc1\x02\x03\x04\x05\x06\x07\x08",
		api.MaxVint:        "\xff\xff\xff\xff\xff\xff\xff\xff",
	} {
		if got := vint.Put(n); string(got) != want {
			t.Errorf("Put(%d) = %x, want %x", n, got, want)
		}
	}
}

// P1.1
func TestPut(t *testing.T) {
	for n, size := range sizes() {
		if got := vint.Put(n); !bytes.Equal(got, form(n, size)) {
			t.Errorf("Put(%d) = %x, want %x", n, got, form(n, size))
		}
	}
	for _, n := range outside() {
		if got := vint.Put(n); len(got) != 0 {
			t.Errorf("Put(%d) = %x, want none", n, got)
		}
	}
}

// P1.1
func TestTake(t *testing.T) {
	for n, size := range sizes() {
		b := form(n, size)
		taken(t, b, n, size)
		taken(t, append(bytes.Clone(b), 0), n, size)
		taken(t, append(bytes.Clone(b), 0xff, 0, 0x80), n, size)
	}
	for n := range 1 << 16 {
		taken(t, vint.Put(n), n, vint.Size(n))
	}
}

// P1.1
func TestTakeTooShort(t *testing.T) {
	refused(t, nil)
	refused(t, []byte{})
	for n, size := range sizes() {
		for have := range size {
			// The rest lies behind the length: it must not be read.
			refused(t, form(n, size)[:have])
			refused(t, bytes.Clone(form(n, size)[:have]))
		}
	}
}

// P1.1
func TestTakeNeedlessBytes(t *testing.T) {
	for n, need := range sizes() {
		for _, size := range []int{1, 2, 4, 8} {
			if size > need && holds(n, size) {
				refused(t, form(n, size))
				refused(t, append(form(n, size), 7))
			}
		}
	}
}

// P1.1: of all beginnings of two bytes just those are taken that Put makes.
func TestTakeOfAllPairs(t *testing.T) {
	for first := range 256 {
		for second := range 256 {
			b := []byte{byte(first), byte(second)}
			n := (first&0x3f)<<8 | second
			switch {
			case first < 0x40:
				taken(t, b, first, 1)
			case first < 0x80 && n >= 64:
				taken(t, b, n, 2)
			default:
				refused(t, b)
			}
		}
	}
}

// R4
func TestMemory(t *testing.T) {
	for n, size := range sizes() {
		whole := append(form(n, size), 1, 2, 3)
		before := bytes.Clone(whole)
		vint.Take(whole[:size])
		if !bytes.Equal(whole, before) {
			t.Errorf("Take(%x) changed its bytes: %x", before, whole)
		}
		one, other := vint.Put(n), vint.Put(n)
		for i := range one {
			one[i] ^= 0xff
		}
		if !bytes.Equal(other, form(n, size)) || !bytes.Equal(vint.Put(n), other) {
			t.Errorf("Put(%d) shares memory", n)
		}
	}
}

// pairs are numbers, and their Zigs.
func pairs() map[int]int {
	return map[int]int{
		0: 0, -1: 1, 1: 2, -2: 3, 2: 4, -3: 5, 3: 6, 150: 300, -151: 301,
		1<<30 - 1: 1<<31 - 2, 1 << 30: 1 << 31, -1 << 30: 1<<31 - 1, -1<<30 - 1: 1<<31 + 1,
		1 << 60: 1 << 61, -1 << 60: 1<<61 - 1,
		1<<61 - 2: api.MaxVint - 3, -1<<61 + 1: api.MaxVint - 2,
		1<<61 - 1: api.MaxVint - 1, -1 << 61: api.MaxVint,
	}
}

// P1.2
func TestZig(t *testing.T) {
	for n, want := range pairs() {
		if got := vint.Zig(n); got != want {
			t.Errorf("Zig(%d) = %d, want %d", n, got, want)
		}
	}
	for _, n := range []int{1 << 61, 1<<61 + 1, 1 << 62, math.MaxInt, -1<<61 - 1, -1<<61 - 2, -1 << 62, math.MinInt} {
		if got := vint.Zig(n); got != -1 {
			t.Errorf("Zig(%d) = %d, want -1", n, got)
		}
	}
}

// P1.2
func TestZag(t *testing.T) {
	for want, m := range pairs() {
		if got := vint.Zag(m); got != want {
			t.Errorf("Zag(%d) = %d, want %d", m, got, want)
		}
	}
	for _, m := range outside() {
		if got := vint.Zag(m); got != 0 {
			t.Errorf("Zag(%d) = %d, want 0", m, got)
		}
	}
}

// P1.2
func TestZagOfZig(t *testing.T) {
	for m := range 1 << 12 {
		if got := vint.Zig(vint.Zag(m)); got != m {
			t.Errorf("Zig(Zag(%d)) = %d", m, got)
		}
	}
	for n := -1 << 11; n < 1<<11; n++ {
		if got := vint.Zag(vint.Zig(n)); got != n {
			t.Errorf("Zag(Zig(%d)) = %d", n, got)
		}
	}
}
