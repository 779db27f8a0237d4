package cwnd_test

import (
	"math"
	"strings"
	"testing"

	"haulier/api"
	"haulier/cwnd"
)

// In a row of steps 'a' stands for an Ack, 'l' for a Loss, 'c' for a Clone, with which the row goes on.

// made is a Window that New(most) made, behind the steps.
func made(most int, steps string) *cwnd.Window {
	w := cwnd.New(most)
	for _, s := range []byte(steps) {
		w = step(w, s)
	}
	return w
}

func step(w *cwnd.Window, s byte) *cwnd.Window {
	switch s {
	case 'a':
		w.Ack()
	case 'l':
		w.Loss()
	case 'c':
		return w.Clone()
	}
	return w
}

// sized sees to it that w's Size is size, and its Room is for as many, and that both are so again when they are asked again.
func sized(t *testing.T, w *cwnd.Window, size int) {
	t.Helper()
	for range 2 {
		if got := w.Size(); got != size {
			t.Fatalf("Size() = %d, want %d", got, size)
		}
		for _, out := range []int{size - 1, size, size + 1} {
			if got := w.Room(out); got != (out < size) {
				t.Fatalf("size %d: Room(%d) = %t", size, out, got)
			}
		}
	}
}

// row sees to it that the sizes behind New(most), and behind each one of the steps, are these.
func row(t *testing.T, most int, steps string, sizes ...int) {
	t.Helper()
	if len(sizes) != len(steps)+1 {
		t.Fatalf("%q: %d sizes", steps, len(sizes))
	}
	w := cwnd.New(most)
	t.Logf("New(%d)", most)
	sized(t, w, sizes[0])
	for i := range steps {
		t.Logf("New(%d), %s", most, steps[:i+1])
		w = step(w, steps[i])
		sized(t, w, sizes[i+1])
	}
}

func TestSizeOfANewOne(t *testing.T) {
	for _, r := range []struct{ most, size int }{
		{math.MinInt, 1}, {math.MinInt + 1, 1}, {-1 << 32, 1}, {-1<<32 + 3, 1}, {-16, 1}, {-2, 1}, {-1, 1}, {0, 1}, {1, 1},
		{2, 2}, {3, 2}, {4, 2}, {15, 2}, {16, 2}, {17, 2}, {1 << 31, 2}, {1 << 32, 2}, {1<<32 + 1, 2}, {math.MaxInt - 1, 2}, {math.MaxInt, 2},
	} {
		t.Log(r)
		sized(t, cwnd.New(r.most), r.size)
	}
}

// The most that the size comes to, and stays at: as most says, or the least or the greatest that it may be.
func TestMost(t *testing.T) {
	for _, r := range []struct{ most, size int }{
		{math.MinInt, 1}, {-1 << 32, 1}, {-1, 1}, {0, 1}, {1, 1}, {2, 2}, {3, 3}, {4, 4}, {5, 5}, {6, 6}, {7, 7}, {8, 8}, {9, 9}, {10, 10},
		{11, 11}, {12, 12}, {13, 13}, {14, 14}, {15, 15}, {16, 16}, {17, 16}, {18, 16}, {32, 16}, {1 << 31, 16}, {1<<32 + 1, 16}, {math.MaxInt, 16},
	} {
		t.Log(r)
		w := cwnd.New(r.most)
		for range r.size {
			w.Ack()
		}
		for range 300 {
			sized(t, w, r.size)
			w.Ack()
		}
		// It comes to it by the slow way as well.
		w.Loss()
		for range 300 {
			w.Ack()
		}
		sized(t, w, r.size)
	}
}

// Ahead of any Loss the turn is most: each Ack is one more, up to it.
func TestAckBelowTheTurn(t *testing.T) {
	row(t, 1, "aaaa", 1, 1, 1, 1, 1)
	row(t, 2, "aaaaa", 2, 2, 2, 2, 2, 2)
	row(t, 3, "aaaaaaa", 2, 3, 3, 3, 3, 3, 3, 3)
	row(t, 4, "aaaaaaaaaa", 2, 3, 4, 4, 4, 4, 4, 4, 4, 4, 4)
	row(t, 16, strings.Repeat("a", 17), 2, 3, 4, 5, 6, 7, 8, 9, 10, 11, 12, 13, 14, 15, 16, 16, 16, 16)
	row(t, 17, strings.Repeat("a", 17), 2, 3, 4, 5, 6, 7, 8, 9, 10, 11, 12, 13, 14, 15, 16, 16, 16, 16)
}

// Behind a Loss the size is at its turn: as many Acks as it is make it one more, and the count begins anew with each.
func TestAckFromTheTurnOn(t *testing.T) {
	row(t, 5, "l"+strings.Repeat("a", 1+2+3+4+6), 2, 1, 2, 2, 3, 3, 3, 4, 4, 4, 4, 5, 5, 5, 5, 5, 5, 5)
	row(t, 16, "aaaaaaaa"+"l"+strings.Repeat("a", 5+6+7), 2, 3, 4, 5, 6, 7, 8, 9, 10, 5,
		5, 5, 5, 5, 6, 6, 6, 6, 6, 6, 7, 7, 7, 7, 7, 7, 7, 8)
}

// From each turn on, through all sizes up to most: as many Acks less one as the size is, that many, and one more.
func TestAckThroughTheSizes(t *testing.T) {
	for most := 2; most <= api.MaxMost; most++ {
		for top := 2; top <= most; top++ {
			w := made(most, strings.Repeat("a", top-2))
			sized(t, w, top)
			w.Loss()
			for size := top / 2; size < most; size++ {
				for range size {
					sized(t, w, size)
					w.Ack()
				}
			}
			for range 3 * most {
				sized(t, w, most)
				w.Ack()
			}
		}
	}
}

func TestLoss(t *testing.T) {
	// Of a new one: with most 1 its turn is not 0.
	row(t, 1, "laal", 1, 1, 1, 1, 1)
	row(t, 2, "llal", 2, 1, 1, 2, 1)
	row(t, 3, "lalaaal", 2, 1, 2, 1, 2, 2, 3, 1)
	row(t, 16, "l", 2, 1)
	// Of each size, odd and even, at most and below it; then once more.
	for size, half := range []int{2: 1, 3: 1, 4: 2, 5: 2, 6: 3, 7: 3, 8: 4, 9: 4, 10: 5, 11: 5, 12: 6, 13: 6, 14: 7, 15: 7, 16: 8} {
		for most := size; size > 1 && most <= api.MaxMost; most++ {
			w := made(most, strings.Repeat("a", size-2))
			sized(t, w, size)
			w.Loss()
			sized(t, w, half)
			w.Loss()
			sized(t, w, max(half/2, 1))
			w.Loss()
			sized(t, w, max(half/4, 1))
			w.Loss()
			w.Loss()
			sized(t, w, 1)
		}
	}
}

// What was counted ahead of a Loss counts no more behind it.
func TestLossBeginsTheCountAnew(t *testing.T) {
	// At size 4, most: one, two, three counted; at 2 then two more are needed.
	for _, counted := range []string{"", "a", "aa", "aaa", "aaaa", "aaaaa"} {
		w := made(4, "aa"+counted)
		sized(t, w, 4)
		w.Loss()
		sized(t, w, 2)
		w.Ack()
		sized(t, w, 2)
		w.Ack()
		sized(t, w, 3)
	}
	// At size 5, below most.
	for counted := range 5 {
		w := made(16, "aaaaaaaal"+strings.Repeat("a", counted))
		sized(t, w, 5)
		w.Loss()
		sized(t, w, 2)
		w.Ack()
		sized(t, w, 2)
		w.Ack()
		sized(t, w, 3)
	}
	// A Loss that leaves the size as it is, 1, leaves no count of another: size 3, two counted, twice.
	row(t, 3, "laaaaallaaa", 2, 1, 2, 2, 3, 3, 3, 1, 1, 2, 2, 3)
}

// The turn of a Loss is that of the half, not most, nor the turn ahead of it: no Ack behind it is one more at once, but at size 1.
func TestTurnOfALoss(t *testing.T) {
	row(t, 16, "aal"+"aaaaa"+"l"+"aaa", 2, 3, 4, 2, 2, 3, 3, 3, 4, 2, 2, 3, 3)
	row(t, 16, "aaaaaalaaaallaa", 2, 3, 4, 5, 6, 7, 8, 4, 4, 4, 4, 5, 2, 1, 2, 2)
}

func TestRoom(t *testing.T) {
	for _, steps := range []string{"", "a", "aa", "l", "aal", "aalaa", strings.Repeat("a", 20), "aac", "lca"} {
		w := made(16, steps)
		size := w.Size()
		for _, out := range []int{math.MinInt, math.MinInt + 1, -1 << 32, -1 << 31, -17, -2, -1, 0} {
			if !w.Room(out) {
				t.Errorf("%q: Room(%d) is false", steps, out)
			}
		}
		for out := range 40 {
			if w.Room(out) != (out < size) {
				t.Errorf("%q, size %d: Room(%d) is %t", steps, size, out, w.Room(out))
			}
		}
		for _, out := range []int{1 << 8, 1 << 16, 1<<31 - 1, 1 << 31, 1 << 32, 1<<32 + 1, 1 << 62, math.MaxInt - 1, math.MaxInt} {
			if w.Room(out) {
				t.Errorf("%q: Room(%d) is true", steps, out)
			}
		}
		sized(t, w, size)
	}
}

// model works out the size of a Window that New(most) made anew of all steps: below the first Loss each Ack is one more; behind one only the Acks from it on count.
func model(most int, steps string) int {
	switch {
	case most < 1:
		most = 1
	case most > 16:
		most = 16
	}
	steps = strings.ReplaceAll(steps, "c", "")
	parts := strings.Split(steps, "l")
	size := 2 + len(parts[0])
	if size > most {
		size = most
	}
	for _, acks := range parts[1:] {
		size = size >> 1
		if size == 0 {
			size = 1
		}
		for left := len(acks); left >= size && size < most; {
			left -= size
			size++
		}
	}
	return size
}

// like sees to it that w is as New(most) and the steps make one.
func like(t *testing.T, w *cwnd.Window, most int, steps string) {
	t.Helper()
	want := model(most, steps)
	if got := w.Size(); got != want {
		t.Fatalf("New(%d), %s: Size() = %d, want %d", most, steps, got, want)
	}
	if !w.Room(want-1) || w.Room(want) {
		t.Fatalf("New(%d), %s: no Room for %d, or Room beside as many", most, steps, want)
	}
}

// Each row of up to nine steps, each step taken on a Clone of what is behind the steps ahead of it.
func TestRows(t *testing.T) {
	var walk func(w *cwnd.Window, most int, steps string, more int)
	walk = func(w *cwnd.Window, most int, steps string, more int) {
		like(t, w, most, steps)
		if more == 0 {
			return
		}
		for _, s := range []byte("alc") {
			walk(step(w.Clone(), s), most, steps+string(s), more-1)
			like(t, w, most, steps)
		}
	}
	for _, most := range []int{math.MinInt, -1, 0, 1, 2, 3, 4, 5, 7, 16, 17, math.MaxInt} {
		walk(cwnd.New(most), most, "", 9)
	}
}

// chance is a row of numbers that looks like any, and is the same each time.
type chance uint64

func (c *chance) below(n int) int {
	*c = *c*6364136223846793005 + 1442695040888963407
	return int(uint64(*c) >> 33 % uint64(n))
}

// step is a step: a Loss once in some seldom times, else an Ack, or, as seldom, a Clone.
func (c *chance) step(seldom int) byte {
	switch c.below(seldom) {
	case 0:
		return 'l'
	case 1:
		return 'c'
	}
	return 'a'
}

func TestLongRows(t *testing.T) {
	c := chance(1)
	for i := range 400 {
		most := c.below(20) - 1
		w, steps := cwnd.New(most), ""
		for range 200 {
			s := c.step(3 + i%60)
			w, steps = step(w, s), steps+string(s)
			like(t, w, most, steps)
		}
	}
}

// Up to four Windows, each but the first a Clone of another as it was then; each goes its own way.
func TestClones(t *testing.T) {
	c := chance(7)
	for most := range 40 {
		windows, steps := []*cwnd.Window{cwnd.New(most % 20)}, []string{""}
		for range 100 {
			i := c.below(len(windows))
			if s := c.step(9); len(windows) < 4 && s == 'c' {
				windows, steps = append(windows, windows[i].Clone()), append(steps, steps[i])
			} else {
				windows[i], steps[i] = step(windows[i], s), steps[i]+string(s)
			}
			for i, w := range windows {
				like(t, w, most%20, steps[i])
			}
		}
	}
}

// ways is what is done to a Clone, or to what it was made of, and the sizes behind New(4), Ack, Ack, Loss, Ack, and then one more Ack each.
var ways = []struct {
	name  string
	do    func(w *cwnd.Window)
	sizes [4]int
}{
	{"nothing", func(w *cwnd.Window) {}, [4]int{2, 3, 3, 3}},
	{"Ack", func(w *cwnd.Window) { w.Ack() }, [4]int{3, 3, 3, 4}},
	{"Loss", func(w *cwnd.Window) { w.Loss() }, [4]int{1, 2, 2, 3}},
	{"Ack and Loss", func(w *cwnd.Window) { w.Ack(); w.Loss() }, [4]int{1, 2, 2, 3}},
	{"Size and Room", func(w *cwnd.Window) { w.Size(); w.Room(1) }, [4]int{2, 3, 3, 3}},
	{"a Clone's Ack", func(w *cwnd.Window) { w.Clone().Ack() }, [4]int{2, 3, 3, 3}},
	{"a Clone's Loss", func(w *cwnd.Window) { w.Clone().Loss() }, [4]int{2, 3, 3, 3}},
}

// goes sees to it that w's sizes are these, with one Ack between.
func goes(t *testing.T, w *cwnd.Window, sizes [4]int) {
	t.Helper()
	for _, size := range sizes {
		sized(t, w, size)
		w.Ack()
	}
}

func TestEachWayOfAClone(t *testing.T) {
	for _, a := range ways {
		for _, b := range ways {
			t.Log(a.name, b.name)
			w := made(4, "aala")
			x := w.Clone()
			a.do(w)
			sized(t, x, 2)
			b.do(x)
			goes(t, w, a.sizes)
			goes(t, x, b.sizes)
			// The Clone's way ahead of the other's.
			w = made(4, "aala")
			x = w.Clone()
			b.do(x)
			sized(t, w, 2)
			a.do(w)
			goes(t, x, b.sizes)
			goes(t, w, a.sizes)
		}
	}
}

// A Clone of a new one has its turn and its most.
func TestCloneOfANewOne(t *testing.T) {
	for _, most := range []int{-1, 0, 1, 2, 3, 4, 16, 17} {
		w := cwnd.New(most)
		x := w.Clone()
		for i := range 20 {
			like(t, x, most, strings.Repeat("a", i))
			like(t, w, most, "")
			x.Ack()
		}
	}
}

// Two that New made have nothing in common.
func TestTwoWindows(t *testing.T) {
	w, x := cwnd.New(6), cwnd.New(6)
	w.Ack()
	w.Ack()
	sized(t, x, 2)
	x.Loss()
	sized(t, w, 4)
	sized(t, x, 1)
	w.Ack()
	sized(t, w, 5)
	sized(t, cwnd.New(6), 2)
}
