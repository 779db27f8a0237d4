// Package vint: numbers in one, two, four or eight bytes.
package vint

import (
	"haulier/api"
)

// The numbers below these have one, two and four bytes.
const (
	oneByte   = 1 << 6
	twoBytes  = 1 << 14
	fourBytes = 1 << 30
)

// Two digits of the first byte tell the size; the others are the number's.
const (
	sizeShift  = 6
	digitsMask = 1<<sizeShift - 1
)

// The numbers that have a Zig.
const (
	leastZig    = -1 << 61
	greatestZig = 1<<61 - 1
)

// Put is n as bytes, the greatest first (no number of ours: none).
func Put(n int) []byte {
	size := Size(n)
	if size == 0 {
		return nil
	}
	b := make([]byte, size)
	rest := n
	for i := size - 1; i >= 0; i-- {
		b[i] = byte(rest & 0xff)
		rest >>= 8
	}
	b[0] |= mark(size) << sizeShift
	return b
}

// Take is the number at the beginning of b, and how many bytes it has there.
func Take(b []byte) (n, size int, ok bool) {
	if len(b) == 0 {
		return 0, 0, false
	}
	size = 1 << (b[0] >> sizeShift)
	if len(b) < size {
		return 0, 0, false
	}
	n = int(b[0] & digitsMask)
	for _, digits := range b[1:size] {
		n = n<<8 | int(digits)
	}
	// Each number has one form only: more bytes than it needs are not its own.
	if Size(n) != size {
		return 0, 0, false
	}
	return n, size, true
}

// Size is how many bytes n has (no number of ours: 0).
func Size(n int) int {
	switch {
	case n < 0 || n > api.MaxVint:
		return 0
	case n < oneByte:
		return 1
	case n < twoBytes:
		return 2
	case n < fourBytes:
		return 4
	}
	return 8
}

// mark is what the first two digits are for that size.
func mark(size int) byte {
	switch size {
	case 2:
		return 1
	case 4:
		return 2
	case 8:
		return 3
	}
	return 0
}

// Zig makes a number from 0 on of n, small ones of those near 0 (none: -1).
func Zig(n int) int {
	switch {
	case n < leastZig || n > greatestZig:
		return -1
	case n < 0:
		return -2*n - 1
	}
	return 2 * n
}

// Zag is the number of which m is the Zig (none: 0).
func Zag(m int) int {
	switch {
	case m < 0 || m > api.MaxVint:
		return 0
	case m%2 == 1:
		return -(m / 2) - 1
	}
	return m / 2
}
