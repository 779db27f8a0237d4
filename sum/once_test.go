package sum

import (
	"slices"
	"testing"
)

// Way of chapter 2: Seal and Open make their table once, and use it from then on.
func TestTableIsMadeOnce(t *testing.T) {
	first := shared()
	if !slices.Equal(first, Table()) {
		t.Fatal("the table of Seal and Open is not Table's")
	}
	Open(Seal([]byte("123456789")))
	Of(first, 1, 2, 3)
	if again := shared(); &again[0] != &first[0] || !slices.Equal(again, Table()) {
		t.Error("the table of Seal and Open was made again, or changed")
	}
}

// P2.1, R4: the table that Seal and Open use is not handed out.
func TestTableIsNotTheSharedOne(t *testing.T) {
	if mine := Table(); &mine[0] == &shared()[0] {
		t.Error("Table hands out the table of Seal and Open")
	}
}
