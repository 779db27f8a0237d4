package sum

import (
	"bytes"
	"slices"
	"sync"
	"testing"
)

// forget lets the table be made anew, and puts it back as it is when the test has ended.
func forget(t *testing.T) {
	making, made = sync.Once{}, nil
	t.Cleanup(func() {
		making, made = sync.Once{}, nil
		Seal(nil)
	})
}

// Way of chapter 2: the table is made once, by Seal or by Open.
func TestTableIsMadeOnce(t *testing.T) {
	for name, call := range map[string]func(){
		"Seal": func() { Seal([]byte("123456789")) },
		"Open": func() { Open([]byte("123456789\x26\x39\xf4\xcb")) },
	} {
		forget(t)
		call()
		first := made
		if !slices.Equal(first, Table()) {
			t.Fatalf("%s: the table is not Table's", name)
		}
		Open(Seal([]byte("abc")))
		Of(first, 1, 2, 3)
		if &made[0] != &first[0] || !slices.Equal(made, Table()) {
			t.Errorf("%s: the table was made again, or changed", name)
		}
	}
}

// P2.1, R4: the table that is kept is not handed out.
func TestTableIsNotTheKeptOne(t *testing.T) {
	Seal(nil)
	if mine := Table(); &mine[0] == &made[0] {
		t.Error("Table hands out the table that is kept")
	}
}

// P2.2: no answer is worked out by way of the table that is kept.
func TestKeptTableAnswersNothing(t *testing.T) {
	forget(t)
	Seal(nil)
	for _, kept := range [][]uint32{nil, {1}, make([]uint32, entries), slices.Repeat([]uint32{7}, entries)} {
		made = kept
		sealed := Seal([]byte("123456789"))
		if want := []byte("123456789\x26\x39\xf4\xcb"); !bytes.Equal(sealed, want) {
			t.Errorf("Seal = %x, want %x", sealed, want)
		}
		if b, ok := Open(sealed); !ok || string(b) != "123456789" {
			t.Errorf("Open = %q, %v", b, ok)
		}
		if b, ok := Open([]byte("123456789")); ok || len(b) != 0 {
			t.Errorf("Open of no Seal = %q, %v", b, ok)
		}
		if table := Table(); Of(table, []byte("123456789")...) != 0xcbf43926 || table[255] != 0x2d02ef8d {
			t.Errorf("Table = %x", table)
		}
	}
}

// P2.1, P2.2: what Seal works out is Of by Table.
func TestWorkedIsOfByTable(t *testing.T) {
	b := make([]byte, 0, 300)
	for i := range cap(b) {
		if got, want := worked(b), Of(Table(), b...); got != want {
			t.Fatalf("of %x: %x, want %x", b, got, want)
		}
		b = append(b, byte(i*i*7+i*31))
	}
	for i := range entries {
		if got, want := worked([]byte{byte(i)}), Of(Table(), byte(i)); got != want {
			t.Errorf("of the byte %x: %x, want %x", i, got, want)
		}
	}
}
