package store_test

import (
	"bytes"
	"fmt"
	"maps"
	"math"
	"math/rand/v2"
	"slices"
	"strings"
	"testing"

	"haulier/api"
	"haulier/store"
)

// told is all that a store tells: its blocks, and whether it is dead.
func told(s *store.Store) string {
	var out strings.Builder
	for _, block := range s.Blocks() {
		b, ok := s.Read(block)
		fmt.Fprintf(&out, " %d:%s", block, b)
		if !ok {
			out.WriteString("?")
		}
	}
	if s.Dead() {
		out.WriteString(" dead")
	}
	return out.String()
}

// tells sees to it that a store tells just that.
func tells(t *testing.T, what string, s *store.Store, want string) {
	t.Helper()
	if got := told(s); got != want {
		t.Errorf("%s: there is%s, want%s", what, got, want)
	}
}

// answered sees to it that an act answers just that.
func answered(t *testing.T, what string, got, want api.Errno) {
	t.Helper()
	if got != want {
		t.Errorf("%s: %d, want %d", what, got, want)
	}
}

// act is one, with its arguments.
type act struct {
	what string
	do   func(s *store.Store) api.Errno
}

func add(block int, b string) act {
	return act{fmt.Sprintf("Append(%d, %q)", block, b), func(s *store.Store) api.Errno { return s.Append(block, []byte(b)) }}
}

func sync(block int) act {
	return act{fmt.Sprintf("Sync(%d)", block), func(s *store.Store) api.Errno { return s.Sync(block) }}
}

func cut(block, n int) act {
	return act{fmt.Sprintf("Cut(%d, %d)", block, n), func(s *store.Store) api.Errno { return s.Cut(block, n) }}
}

func drop(block int) act {
	return act{fmt.Sprintf("Drop(%d)", block), func(s *store.Store) api.Errno { return s.Drop(block) }}
}

// made is a store on which acts were done, all of them right.
func made(t *testing.T, acts ...act) *store.Store {
	t.Helper()
	s := store.New()
	for _, a := range acts {
		answered(t, a.what, a.do(s), api.OK)
	}
	return s
}

// numbers are any numbers at all.
func numbers() []int {
	return []int{
		math.MinInt, math.MinInt + 1, -1 << 32, -1<<31 - 1, -1 << 31, -256, -2, -1, 0, 1, 2, 3, 4, 5, 6, 255, 256, 257,
		1<<31 - 1, 1 << 31, 1<<32 - 1, 1 << 32, 1<<32 + 1, api.MaxVint, math.MaxInt - 1, math.MaxInt,
	}
}

// overwrite writes to all of b's memory, behind its length as well.
func overwrite(b []byte) {
	b = b[:cap(b)]
	for i := range b {
		b[i] = 0xa5
	}
}

// P8.1, P8.2: a new one has no blocks, and is not dead.
func TestNew(t *testing.T) {
	s := store.New()
	if l := s.Blocks(); len(l) != 0 {
		t.Errorf("Blocks() = %v", l)
	}
	for _, n := range numbers() {
		if b, ok := s.Read(n); len(b) != 0 || ok {
			t.Errorf("Read(%d) = %q, %v", n, b, ok)
		}
		s.Crash(n)
		tells(t, "behind a Crash", s, "")
	}
	tells(t, "a Clone", s.Clone(), "")
}

// P8.1: each act that is right, and what is there then.
func TestRightActs(t *testing.T) {
	s := store.New()
	for _, c := range []struct {
		do   act
		want string
	}{
		{add(2, "ab"), " 2:ab"},
		{add(2, "c"), " 2:abc"},
		{add(2, ""), " 2:abc"},
		{add(1, ""), " 1: 2:abc"},
		{add(1, "x"), " 1:x 2:abc"},
		{add(10, "\x00"), " 1:x 2:abc 10:\x00"},
		{sync(2), " 1:x 2:abc 10:\x00"},
		{sync(2), " 1:x 2:abc 10:\x00"},
		{add(2, "de"), " 1:x 2:abcde 10:\x00"},
		{cut(2, 5), " 1:x 2:abcde 10:\x00"},
		{cut(2, 4), " 1:x 2:abcd 10:\x00"},
		{cut(2, 1), " 1:x 2:a 10:\x00"},
		{add(2, "yz"), " 1:x 2:ayz 10:\x00"},
		{cut(1, 0), " 1: 2:ayz 10:\x00"},
		{cut(1, 0), " 1: 2:ayz 10:\x00"},
		{add(1, "w"), " 1:w 2:ayz 10:\x00"},
		{drop(2), " 1:w 10:\x00"},
		{add(2, "v"), " 1:w 2:v 10:\x00"},
		{drop(10), " 1:w 2:v"},
		{drop(1), " 2:v"},
		{drop(2), ""},
		{add(2, ""), " 2:"},
		{drop(2), ""},
	} {
		answered(t, c.do.what, c.do.do(s), api.OK)
		tells(t, c.do.what, s, c.want)
	}
}

// P8.1: each act that is not right, and nothing is changed: neither what is there, nor what is synced, nor a Fuse.
func TestWrongActs(t *testing.T) {
	for _, c := range []struct {
		do   act
		want api.Errno
	}{
		{add(0, "x"), api.ErrArg}, {add(0, ""), api.ErrArg}, {add(-1, "x"), api.ErrArg}, {add(math.MinInt, "x"), api.ErrArg},
		{sync(0), api.ErrArg}, {sync(-1), api.ErrArg}, {sync(math.MinInt), api.ErrArg},
		{sync(3), api.ErrNone}, {sync(math.MaxInt), api.ErrNone},
		{cut(0, 0), api.ErrArg}, {cut(-1, 0), api.ErrArg}, {cut(0, -1), api.ErrArg}, {cut(math.MinInt, 9), api.ErrArg},
		{cut(3, 0), api.ErrNone}, {cut(3, 1), api.ErrNone}, {cut(3, -1), api.ErrNone}, {cut(math.MaxInt, math.MaxInt), api.ErrNone},
		{cut(1, -1), api.ErrArg}, {cut(1, 5), api.ErrArg}, {cut(1, math.MinInt), api.ErrArg}, {cut(1, math.MaxInt), api.ErrArg},
		{cut(2, -1), api.ErrArg}, {cut(2, 1), api.ErrArg},
		{drop(0), api.ErrArg}, {drop(-1), api.ErrArg}, {drop(math.MinInt), api.ErrArg},
		{drop(3), api.ErrNone}, {drop(math.MaxInt), api.ErrNone},
	} {
		s := made(t, add(1, "ab"), sync(1), add(1, "cd"), add(2, ""), add(4, "e"))
		s.Fuse(1)
		for range 3 {
			answered(t, c.do.what, c.do.do(s), c.want)
			tells(t, c.do.what, s, " 1:abcd 2: 4:e")
		}
		answered(t, "the last act before the Fuse is at its end", s.Append(1, nil), api.OK)
		for range 3 {
			answered(t, c.do.what+" at the Fuse's end", c.do.do(s), c.want)
			tells(t, c.do.what, s, " 1:abcd 2: 4:e")
		}
		answered(t, "one more", s.Append(1, nil), api.ErrCrash)
		s.Crash(0)
		tells(t, c.do.what+", then Crash", s, " 1:ab")
	}
}

// P8.1: a block that was dropped is none for each act but Append.
func TestDropped(t *testing.T) {
	s := made(t, add(1, "ab"), add(2, "c"), sync(1), drop(1))
	for _, a := range []act{sync(1), cut(1, 0), cut(1, 1), cut(1, -1), drop(1)} {
		answered(t, a.what, a.do(s), api.ErrNone)
	}
	if b, ok := s.Read(1); len(b) != 0 || ok {
		t.Errorf("Read = %q, %v", b, ok)
	}
	tells(t, "dropped", s, " 2:c")
	s.Crash(9)
	tells(t, "a Crash brings nothing back", s, " 2:c")
}

// P8.2: Read tells of each number whether such a block is there, one without bytes as well.
func TestRead(t *testing.T) {
	want := map[int]string{1: "", 3: "abc", 256: "x", math.MaxInt: "last"}
	s := store.New()
	for block, b := range want {
		answered(t, "Append", s.Append(block, []byte(b)), api.OK)
	}
	for _, n := range numbers() {
		b, is := want[n]
		if got, ok := s.Read(n); string(got) != b || ok != is {
			t.Errorf("Read(%d) = %q, %v, want %q, %v", n, got, ok, b, is)
		}
	}
}

// P8.2: Blocks is rising, whatever the order in which they were made.
func TestBlocksRising(t *testing.T) {
	const many = 1000
	s := store.New()
	var want []int
	for i := range many {
		block := (i*617)%many*3 + 1
		answered(t, "Append", s.Append(block, []byte{byte(i)}), api.OK)
		want = append(want, i*3+1)
	}
	for range 5 {
		if got := s.Blocks(); !slices.Equal(got, want) {
			t.Fatalf("Blocks() = %v", got)
		}
		if got := s.Clone().Blocks(); !slices.Equal(got, want) {
			t.Fatalf("the Clone's Blocks() = %v", got)
		}
	}
	for i := range many / 2 {
		answered(t, "Drop", s.Drop(want[i]), api.OK)
	}
	if got := s.Blocks(); !slices.Equal(got, want[many/2:]) {
		t.Errorf("Blocks() = %v", got)
	}
}

// P8.1, P8.2: any numbers at all as a block: from 1 on each is a block of its own, all others are none.
func TestAnyBlocks(t *testing.T) {
	s := store.New()
	there := 0
	for i, n := range numbers() {
		b := []byte{byte(i)}
		if n < 1 {
			for _, a := range []act{add(n, "x"), sync(n), cut(n, 0), cut(n, 1), drop(n)} {
				answered(t, a.what, a.do(s), api.ErrArg)
			}
		} else {
			for _, a := range []act{sync(n), cut(n, 0), cut(n, 1), drop(n)} {
				answered(t, a.what, a.do(s), api.ErrNone)
			}
			answered(t, "Append", s.Append(n, b), api.OK)
			there++
		}
		if got, ok := s.Read(n); ok != (n >= 1) || ok && !bytes.Equal(got, b) || !ok && len(got) != 0 {
			t.Errorf("Read(%d) = %q, %v", n, got, ok)
		}
	}
	if l := s.Blocks(); len(l) != there || !slices.IsSorted(l) {
		t.Errorf("Blocks() = %v", l)
	}
}

// P8.1: any numbers at all as a length.
func TestAnyCut(t *testing.T) {
	for _, n := range numbers() {
		s := made(t, add(1, "abcd"))
		want, left := api.ErrArg, "abcd"
		if n >= 0 && n <= 4 {
			want, left = api.OK, left[:n]
		}
		answered(t, fmt.Sprint("Cut to ", n), s.Cut(1, n), want)
		tells(t, fmt.Sprint("Cut to ", n), s, " 1:"+left)
	}
}

// P8.1, P8.2: what is left behind a Cut is synced, whatever was synced ahead of it; what is added then is not.
func TestSyncedBehindCut(t *testing.T) {
	for synced := 0; synced <= 4; synced++ {
		for n := 0; n <= 4; n++ {
			whole := "abcd"
			s := made(t, add(1, whole[:synced]), sync(1), add(1, whole[synced:]), cut(1, n))
			c := s.Clone()
			c.Crash(0)
			tells(t, fmt.Sprintf("%d synced, Cut to %d", synced, n), c, " 1:"+whole[:n])
			answered(t, "Append", s.Append(1, []byte("xyz")), api.OK)
			c = s.Clone()
			c.Crash(0)
			tells(t, fmt.Sprintf("%d synced, Cut to %d, Append", synced, n), c, " 1:"+whole[:n])
			c = s.Clone()
			c.Crash(2)
			tells(t, fmt.Sprintf("%d synced, Cut to %d, Append, 2 kept", synced, n), c, " 1:"+whole[:n]+"xy")
			answered(t, "Sync", s.Sync(1), api.OK)
			s.Crash(0)
			tells(t, fmt.Sprintf("%d synced, Cut to %d, Append, Sync", synced, n), s, " 1:"+whole[:n]+"xyz")
		}
	}
}

// P8.1, P8.2: of nothing Append syncs nothing, and unsyncs nothing; it makes a block that a crash takes.
func TestAppendOfNothing(t *testing.T) {
	for _, b := range [][]byte{nil, {}} {
		s := made(t, add(1, "ab"), sync(1), add(1, "cd"))
		answered(t, "Append to one that is there", s.Append(1, b), api.OK)
		answered(t, "Append to one that is not", s.Append(2, b), api.OK)
		answered(t, "Append to it again", s.Append(2, b), api.OK)
		tells(t, "Append of nothing", s, " 1:abcd 2:")
		s.Crash(1)
		tells(t, "behind a Crash", s, " 1:abc")
		s.Fuse(1)
		answered(t, "Append of nothing is an act", s.Append(1, b), api.OK)
		answered(t, "Append of nothing behind the Fuse", s.Append(1, b), api.ErrCrash)
		tells(t, "behind the Fuse", s, " 1:abc dead")
	}
}

// P8.2: what a Crash keeps of bytes of which none, some, all are synced.
func TestCrashKeeps(t *testing.T) {
	for _, keep := range numbers() {
		for synced := 0; synced <= 5; synced++ {
			s := store.New()
			want := ""
			for block := 1; block <= 6; block++ {
				// Each block has another number of bytes that are not synced.
				whole := "abcdefghijk"[:synced+block-1]
				for _, a := range []act{add(block, whole[:synced]), sync(block), add(block, whole[synced:])} {
					answered(t, a.what, a.do(s), api.OK)
				}
				want += fmt.Sprintf(" %d:%s", block, whole[:synced+min(max(keep, 0), block-1)])
			}
			s.Crash(keep)
			tells(t, fmt.Sprintf("%d synced, Crash(%d)", synced, keep), s, want)
		}
	}
}

// P8.2: behind a Crash all that is there is synced, and what is added then is not.
func TestSyncedBehindCrash(t *testing.T) {
	s := made(t, add(1, "abcd"), sync(1), add(1, "efgh"), add(2, "xyz"))
	s.Crash(2)
	tells(t, "2 kept", s, " 1:abcdef 2:xy")
	for _, keep := range []int{0, -1, 1, 9} {
		s.Crash(keep)
		tells(t, "twice over", s, " 1:abcdef 2:xy")
	}
	for _, a := range []act{add(1, "ijk"), add(2, "z"), add(3, "q")} {
		answered(t, a.what, a.do(s), api.OK)
	}
	s.Crash(1)
	tells(t, "1 kept", s, " 1:abcdefi 2:xyz 3:q")
	s.Crash(0)
	tells(t, "at last", s, " 1:abcdefi 2:xyz 3:q")
}

// P8.2: a block without any bytes is there behind a Crash, if it was synced or cut, and only then.
func TestCrashOfBlocksWithoutBytes(t *testing.T) {
	for _, c := range []struct {
		name string
		acts []act
		want map[int]string // by what is kept
	}{
		{"neither, of nothing", []act{add(1, "")}, map[int]string{-1: "", 0: "", 1: "", math.MaxInt: ""}},
		{"neither, of bytes", []act{add(1, "ab")}, map[int]string{math.MinInt: "", -1: "", 0: "", 1: " 1:a", 2: " 1:ab", 3: " 1:ab"}},
		{"neither, of bytes and nothing", []act{add(1, ""), add(1, "a"), add(1, "")}, map[int]string{0: "", 1: " 1:a"}},
		{"synced without bytes", []act{add(1, ""), sync(1)}, map[int]string{-1: " 1:", 0: " 1:", 1: " 1:"}},
		{"synced without bytes, then bytes", []act{add(1, ""), sync(1), add(1, "ab")}, map[int]string{-1: " 1:", 0: " 1:", 1: " 1:a", 2: " 1:ab"}},
		{"synced with bytes", []act{add(1, "ab"), sync(1)}, map[int]string{-1: " 1:ab", 0: " 1:ab", 1: " 1:ab"}},
		{"cut to nothing", []act{add(1, "ab"), cut(1, 0)}, map[int]string{-1: " 1:", 0: " 1:", 1: " 1:"}},
		{"cut of nothing", []act{add(1, ""), cut(1, 0)}, map[int]string{0: " 1:", 1: " 1:"}},
		{"cut to nothing, then bytes", []act{add(1, "ab"), cut(1, 0), add(1, "c")}, map[int]string{0: " 1:", 1: " 1:c"}},
		{"cut to some", []act{add(1, "ab"), cut(1, 1)}, map[int]string{0: " 1:a", 1: " 1:a"}},
		{"synced, then cut to nothing", []act{add(1, "ab"), sync(1), cut(1, 0)}, map[int]string{0: " 1:", 1: " 1:"}},
		{"cut amiss", []act{add(1, "ab")}, map[int]string{0: "", 1: " 1:a"}},
		{"dropped", []act{add(1, "ab"), sync(1), drop(1)}, map[int]string{0: "", 9: ""}},
		{"synced, dropped, made again", []act{add(1, "ab"), sync(1), drop(1), add(1, "cd")}, map[int]string{-1: "", 0: "", 1: " 1:c", 9: " 1:cd"}},
		{"cut, dropped, made again", []act{add(1, "ab"), cut(1, 0), drop(1), add(1, "")}, map[int]string{0: "", 9: ""}},
		{"dropped, made again, synced", []act{add(1, "ab"), drop(1), add(1, ""), sync(1)}, map[int]string{0: " 1:", 9: " 1:"}},
		{"synced, another one is not", []act{add(1, ""), add(2, ""), sync(2)}, map[int]string{0: " 2:", 9: " 2:"}},
		{"cut, another one is not", []act{add(1, "a"), add(2, "b"), cut(2, 0)}, map[int]string{0: " 2:", 1: " 1:a 2:"}},
	} {
		for keep, want := range c.want {
			s := made(t, c.acts...)
			if c.name == "cut amiss" {
				answered(t, "Cut past the end", s.Cut(1, 3), api.ErrArg)
			}
			for _, next := range []int{keep, 0, -1} {
				s.Crash(next)
				tells(t, fmt.Sprintf("%s, Crash(%d)", c.name, keep), s, want)
			}
		}
	}
}

// P8.2: a block that a Crash took is none, and made again it is as a new one.
func TestMadeAgainBehindCrash(t *testing.T) {
	s := made(t, add(1, "ab"))
	s.Crash(0)
	for _, a := range []act{sync(1), cut(1, 0), drop(1)} {
		answered(t, a.what, a.do(s), api.ErrNone)
	}
	answered(t, "Append", s.Append(1, []byte("c")), api.OK)
	tells(t, "made again", s, " 1:c")
	s.Crash(0)
	tells(t, "not synced yet", s, "")
}

// rights are acts of each kind that are right on a store made of add(1, "ab"), one behind the other as often as you like.
func rights() []act {
	return []act{add(1, "c"), add(1, ""), add(2, "d"), sync(1), cut(1, 0), cut(1, 1), cut(1, 2)}
}

// P8.2: as many acts as the Fuse has are done, the next one is not, and kills the store.
func TestFuse(t *testing.T) {
	for _, last := range append(rights(), drop(1)) {
		for n := -2; n <= 9; n++ {
			s := made(t, add(1, "ab"))
			s.Fuse(n)
			for i := range max(n, 0) {
				a := add(3, fmt.Sprint(i))
				answered(t, a.what, a.do(s), api.OK)
			}
			want := told(s)
			if s.Dead() {
				t.Error("dead ahead of time")
			}
			for range 2 {
				answered(t, last.what, last.do(s), api.ErrCrash)
				tells(t, last.what, s, want+" dead")
			}
		}
	}
}

// P8.2: each kind of act counts as one, and what it did is done; the one that kills has done nothing: it synced nothing, cut nothing.
func TestEachActCounts(t *testing.T) {
	for _, a := range append(rights(), drop(1)) {
		s := made(t, add(1, "ab"))
		s.Fuse(1)
		c := made(t, add(1, "ab"))
		answered(t, a.what, a.do(s), api.OK)
		answered(t, a.what, a.do(c), api.OK)
		tells(t, a.what, s, told(c))
		answered(t, "one more", s.Append(7, nil), api.ErrCrash)
		tells(t, a.what+", dead", s, told(c)+" dead")
	}
	for _, a := range append(rights(), drop(1)) {
		s := made(t, add(1, "ab"))
		s.Fuse(0)
		answered(t, a.what, a.do(s), api.ErrCrash)
		tells(t, a.what, s, " 1:ab dead")
		s.Crash(0)
		tells(t, a.what+", then Crash", s, "")
		s = made(t, add(1, "ab"), sync(1), add(1, "cd"))
		s.Fuse(0)
		answered(t, a.what, a.do(s), api.ErrCrash)
		tells(t, a.what, s, " 1:abcd dead")
		s.Crash(1)
		tells(t, a.what+", then Crash", s, " 1:abc")
	}
}

// P8.2: acts that are not right, and calls that are no acts, don't count.
func TestWhatDoesNotCount(t *testing.T) {
	s := made(t, add(1, "ab"))
	s.Fuse(2)
	idle := func() {
		answered(t, "Append", s.Append(0, []byte("x")), api.ErrArg)
		answered(t, "Sync", s.Sync(0), api.ErrArg)
		answered(t, "Sync", s.Sync(9), api.ErrNone)
		answered(t, "Cut", s.Cut(1, 9), api.ErrArg)
		answered(t, "Cut", s.Cut(1, -1), api.ErrArg)
		answered(t, "Cut", s.Cut(9, 0), api.ErrNone)
		answered(t, "Cut", s.Cut(-1, 0), api.ErrArg)
		answered(t, "Drop", s.Drop(9), api.ErrNone)
		answered(t, "Drop", s.Drop(-9), api.ErrArg)
		s.Read(1)
		s.Read(9)
		s.Blocks()
		s.Clone()
		if s.Dead() {
			t.Error("dead")
		}
	}
	idle()
	answered(t, "first", s.Append(1, []byte("c")), api.OK)
	idle()
	answered(t, "second", s.Sync(1), api.OK)
	idle()
	answered(t, "third", s.Cut(1, 0), api.ErrCrash)
	tells(t, "at the end", s, " 1:abc dead")
}

// P8.2: without a Fuse a store never dies.
func TestNoFuse(t *testing.T) {
	s := store.New()
	for i := range 1000 {
		answered(t, "Append", s.Append(1, []byte("a")), api.OK)
		if i%10 == 0 {
			answered(t, "Sync", s.Sync(1), api.OK)
		}
	}
	if s.Dead() {
		t.Error("dead")
	}
}

// P8.2: any numbers at all as a Fuse: below 0 it is as 0, and one that is great is not at its end soon.
func TestAnyFuse(t *testing.T) {
	for _, n := range numbers() {
		s := store.New()
		s.Fuse(n)
		for i := range 300 {
			want := api.OK
			if i >= n {
				want = api.ErrCrash
			}
			answered(t, fmt.Sprintf("Fuse(%d), act %d", n, i), s.Append(1, []byte("a")), want)
		}
		if b, _ := s.Read(1); len(b) != min(max(n, 0), 300) || s.Dead() != (n < 300) {
			t.Errorf("Fuse(%d): %d bytes, %v", n, len(b), s.Dead())
		}
	}
}

// P8.2: a Fuse is in the place of one that was there.
func TestFuseAgain(t *testing.T) {
	s := store.New()
	for range 5 {
		s.Fuse(1)
		answered(t, "Append", s.Append(1, []byte("a")), api.OK)
	}
	s.Fuse(9)
	s.Fuse(0)
	answered(t, "behind Fuse(0)", s.Append(1, []byte("b")), api.ErrCrash)
	tells(t, "at the end", s, " 1:aaaaa dead")
}

// P8.1: each act on a dead store, with right arguments and wrong ones; what it tells stays as it was.
func TestDead(t *testing.T) {
	s := made(t, add(1, "ab"), sync(1), add(1, "cd"), add(2, ""))
	s.Fuse(0)
	answered(t, "the one that kills", s.Drop(1), api.ErrCrash)
	for _, n := range numbers() {
		for _, a := range []act{add(n, "x"), add(n, ""), sync(n), cut(n, 0), cut(n, -1), cut(n, 9), cut(1, n), cut(0, n), drop(n)} {
			answered(t, a.what, a.do(s), api.ErrCrash)
		}
	}
	tells(t, "dead", s, " 1:abcd 2: dead")
	if b, ok := s.Read(3); len(b) != 0 || ok {
		t.Errorf("Read = %q, %v", b, ok)
	}
	s.Crash(1)
	tells(t, "alive", s, " 1:abc")
}

// P8.2: a Fuse makes no dead store alive, and is gone behind a Crash.
func TestFuseOfDead(t *testing.T) {
	for _, n := range numbers() {
		s := made(t, add(1, "ab"))
		s.Fuse(0)
		answered(t, "the one that kills", s.Sync(1), api.ErrCrash)
		s.Fuse(n)
		if !s.Dead() {
			t.Errorf("Fuse(%d): alive", n)
		}
		answered(t, "one more", s.Sync(1), api.ErrCrash)
		s.Crash(9)
		for range 10 {
			answered(t, "alive", s.Append(1, []byte("c")), api.OK)
		}
		tells(t, "alive", s, " 1:ab"+strings.Repeat("c", 10))
	}
}

// P8.2: behind a Crash there is no Fuse and the store is not dead, whether the Fuse was at its end, or not yet.
func TestCrashTakesFuse(t *testing.T) {
	for n := range 4 {
		for acts := range 6 {
			s := store.New()
			s.Fuse(n)
			for i := range acts {
				want := api.OK
				if i >= n {
					want = api.ErrCrash
				}
				answered(t, "Append", s.Append(1, []byte("a")), want)
			}
			if s.Dead() != (acts > n) {
				t.Errorf("Fuse(%d), %d acts: Dead() = %v", n, acts, s.Dead())
			}
			s.Crash(9)
			tells(t, "behind a Crash", s, told(made(t, slices.Repeat([]act{add(1, "a")}, min(acts, n))...)))
			for range 10 {
				answered(t, "Append", s.Append(2, []byte("b")), api.OK)
			}
			s.Fuse(1)
			answered(t, "a new Fuse", s.Drop(2), api.OK)
			answered(t, "a new Fuse's end", s.Append(2, nil), api.ErrCrash)
			if !s.Dead() {
				t.Error("not dead")
			}
		}
	}
}

// R4: a Clone is as the store is, its Fuse and all, and each goes its own way.
func TestClone(t *testing.T) {
	s := made(t, add(1, "ab"), sync(1), add(1, "cd"), add(2, "ef"), add(3, ""), add(4, "g"), cut(4, 0))
	s.Fuse(2)
	c := s.Clone()
	d := c.Clone()
	tells(t, "a Clone", c, told(s))
	answered(t, "Append", c.Append(1, []byte("xx")), api.OK)
	answered(t, "Append", s.Append(1, []byte("yyy")), api.OK)
	answered(t, "Drop", d.Drop(1), api.OK)
	tells(t, "Append", s, " 1:abcdyyy 2:ef 3: 4:")
	tells(t, "Append", c, " 1:abcdxx 2:ef 3: 4:")
	tells(t, "Drop", d, " 2:ef 3: 4:")
	answered(t, "Sync", s.Sync(2), api.OK)
	answered(t, "Cut", c.Cut(2, 1), api.OK)
	answered(t, "Append", d.Append(5, []byte("h")), api.OK)
	answered(t, "the Fuse's end", c.Append(2, []byte("z")), api.ErrCrash)
	if s.Dead() || !c.Dead() || d.Dead() {
		t.Errorf("dead: %v, %v, %v", s.Dead(), c.Dead(), d.Dead())
	}
	e := c.Clone()
	answered(t, "a dead one's Clone", e.Sync(1), api.ErrCrash)
	e.Crash(0)
	tells(t, "alive", e, " 1:ab 2:e 4:")
	tells(t, "still dead", c, " 1:abcdxx 2:e 3: 4: dead")
	answered(t, "the Fuse's end", s.Drop(2), api.ErrCrash)
	answered(t, "the Fuse's end", d.Drop(2), api.ErrCrash)
	s.Crash(1)
	tells(t, "crashed", s, " 1:abc 2:ef 4:")
	tells(t, "not crashed", d, " 2:ef 3: 4: 5:h dead")
}

// R4: what both have written to since they were one is no memory of both.
func TestClonesGrowApart(t *testing.T) {
	for size := range 40 {
		whole := strings.Repeat("w", size)
		// The Cut leaves memory behind the block's bytes to be written to.
		s := made(t, add(1, whole+"zzz"), cut(1, size))
		c := s.Clone()
		answered(t, "Append", s.Append(1, []byte("a")), api.OK)
		answered(t, "Append", c.Append(1, []byte("b")), api.OK)
		answered(t, "Append", s.Append(1, []byte("c")), api.OK)
		tells(t, "the store", s, " 1:"+whole+"ac")
		tells(t, "the Clone", c, " 1:"+whole+"b")
	}
}

// R4: what is handed in is neither changed nor kept, and what lies behind its length is not read.
func TestListsHandedIn(t *testing.T) {
	for size := range 70 {
		memory := bytes.Repeat([]byte("m"), size+8)
		b := memory[:size]
		s := store.New()
		answered(t, "Append", s.Append(1, b), api.OK)
		answered(t, "Append", s.Append(1, b), api.OK)
		answered(t, "Append", s.Append(2, b), api.OK)
		answered(t, "Append", s.Append(2, []byte("xy")), api.OK)
		answered(t, "Cut", s.Cut(1, size), api.OK)
		answered(t, "Append", s.Append(1, []byte("xy")), api.OK)
		if !bytes.Equal(memory, bytes.Repeat([]byte("m"), size+8)) {
			t.Errorf("what was handed in was changed: %q", memory)
		}
		overwrite(b)
		want := strings.Repeat("m", size) + "xy"
		tells(t, "overwritten", s, " 1:"+want+" 2:"+want)
	}
}

// R4: what is handed out is memory of its own, behind its length as well.
func TestListsHandedOut(t *testing.T) {
	for size := range 70 {
		whole := strings.Repeat("w", size)
		s := made(t, add(1, whole+"zzz"), cut(1, size), add(2, ""), add(9, "x"))
		for range 2 {
			first, _ := s.Read(1)
			second, _ := s.Read(1)
			overwrite(first)
			if string(second) != whole {
				t.Errorf("two lists share memory: %q", second)
			}
			blocks, others := s.Blocks(), s.Blocks()
			blocks = blocks[:cap(blocks)]
			for i := range blocks {
				blocks[i] = -7
			}
			if !slices.Equal(others, []int{1, 2, 9}) {
				t.Errorf("two lists share memory: %v", others)
			}
			tells(t, "overwritten", s, " 1:"+whole+" 2: 9:x")
		}
		kept, _ := s.Read(1)
		listed := s.Blocks()
		answered(t, "Append", s.Append(1, []byte("abc")), api.OK)
		answered(t, "Cut", s.Cut(1, 0), api.OK)
		answered(t, "Append", s.Append(1, []byte(whole+"def")), api.OK)
		answered(t, "Append", s.Append(1, []byte("ghi")), api.OK)
		answered(t, "Drop", s.Drop(2), api.OK)
		if string(kept) != whole || !slices.Equal(listed, []int{1, 2, 9}) {
			t.Errorf("what was handed out was changed: %q, %v", kept, listed)
		}
		answered(t, "what was handed out is handed in", s.Append(1, kept), api.OK)
		overwrite(kept)
		tells(t, "at the end", s, " 1:"+whole+"defghi"+whole+" 9:x")
	}
}

// R5: stores are apart.
func TestStoresAreApart(t *testing.T) {
	a, b := store.New(), store.New()
	answered(t, "Append", a.Append(1, []byte("a")), api.OK)
	a.Fuse(0)
	answered(t, "Sync", a.Sync(1), api.ErrCrash)
	tells(t, "the other one", b, "")
	answered(t, "Append", b.Append(1, []byte("b")), api.OK)
	b.Crash(0)
	tells(t, "one", a, " 1:a dead")
	tells(t, "the other one", b, "")
}

// spot is a byte of a model's block, and whether it is synced.
type spot struct {
	b      byte
	synced bool
}

// model is a store as the chapter tells of it: each byte tells for itself whether it is synced.
type model struct {
	blocks map[int][]spot
	firm   map[int]bool // was synced or cut since it was made
	fuse   int          // -1: there is none
	dead   bool
}

func newModel() *model {
	return &model{map[int][]spot{}, map[int]bool{}, -1, false}
}

func (m *model) clone() *model {
	c := &model{maps.Clone(m.blocks), maps.Clone(m.firm), m.fuse, m.dead}
	for block, l := range c.blocks {
		c.blocks[block] = slices.Clone(l)
	}
	return c
}

// act is what a model answers to an act, of which needs tells whether the block has to be there, and n is a length that it has to have.
func (m *model) act(block int, needs bool, n int, do func(l []spot)) api.Errno {
	l, there := m.blocks[block]
	if m.dead {
		return api.ErrCrash
	}
	if block <= 0 {
		return api.ErrArg
	}
	if needs && !there {
		return api.ErrNone
	}
	if needs && (n > len(l) || n < 0) {
		return api.ErrArg
	}
	if m.fuse == 0 {
		m.dead = true
		return api.ErrCrash
	}
	if m.fuse > 0 {
		m.fuse--
	}
	do(l)
	return api.OK
}

func (m *model) append(block int, b string) api.Errno {
	return m.act(block, false, 0, func(l []spot) {
		for i := range len(b) {
			l = append(l, spot{b[i], false})
		}
		m.blocks[block] = l
	})
}

func (m *model) firmly(block int, l []spot) {
	for i := range l {
		l[i].synced = true
	}
	m.blocks[block], m.firm[block] = l, true
}

func (m *model) sync(block int) api.Errno {
	return m.act(block, true, 0, func(l []spot) { m.firmly(block, l) })
}

func (m *model) cut(block, n int) api.Errno {
	return m.act(block, true, n, func(l []spot) { m.firmly(block, slices.Clone(l[:n])) })
}

func (m *model) drop(block int) api.Errno {
	return m.act(block, true, 0, func([]spot) {
		delete(m.blocks, block)
		delete(m.firm, block)
	})
}

func (m *model) crash(keep int) {
	after := newModel()
	for block, l := range m.blocks {
		kept := 0
		var left []spot
		for _, one := range l {
			if !one.synced && kept < keep {
				kept++
				one.synced = true
			}
			if one.synced {
				left = append(left, one)
			}
		}
		if len(left) > 0 || m.firm[block] {
			after.blocks[block], after.firm[block] = left, true
		}
	}
	*m = *after
}

func (m *model) told() string {
	out := ""
	for _, block := range slices.Sorted(maps.Keys(m.blocks)) {
		out += fmt.Sprint(" ", block, ":")
		for _, one := range m.blocks[block] {
			out += string(rune(one.b))
		}
	}
	if m.dead {
		out += " dead"
	}
	return out
}

// step is something that is done to a store and to a model, and tells whether both answered the same.
type step func(s *store.Store, m *model) bool

func appends(block int, b string) step {
	return func(s *store.Store, m *model) bool { return s.Append(block, []byte(b)) == m.append(block, b) }
}

func syncs(block int) step {
	return func(s *store.Store, m *model) bool { return s.Sync(block) == m.sync(block) }
}

func cuts(block, n int) step {
	return func(s *store.Store, m *model) bool { return s.Cut(block, n) == m.cut(block, n) }
}

func drops(block int) step {
	return func(s *store.Store, m *model) bool { return s.Drop(block) == m.drop(block) }
}

func fuses(n int) step {
	return func(s *store.Store, m *model) bool {
		s.Fuse(n)
		m.fuse = max(n, 0)
		return true
	}
}

func crashes(keep int) step {
	return func(s *store.Store, m *model) bool {
		s.Crash(keep)
		m.crash(keep)
		return true
	}
}

// both sees to it that a store is as a model: told, and once more behind a Crash of a Clone.
func both(t *testing.T, what any, s *store.Store, m *model) {
	t.Helper()
	if got, want := told(s), m.told(); got != want {
		t.Fatalf("%v: there is%s, want%s", what, got, want)
	}
	s, m = s.Clone(), m.clone()
	s.Crash(1)
	m.crash(1)
	if got, want := told(s), m.told(); got != want {
		t.Fatalf("%v, Crash: there is%s, want%s", what, got, want)
	}
}

// P8.1, P8.2, R4: each row of a few steps, each step on a Clone: what was cloned stays as it was.
func TestEachRow(t *testing.T) {
	steps := []step{
		appends(1, "ab"), appends(1, ""), appends(2, "c"), syncs(1), cuts(1, 0), cuts(1, 1), cuts(1, 2), drops(1),
		fuses(0), fuses(1), crashes(0), crashes(1),
	}
	var from func(row []int, s *store.Store, m *model)
	from = func(row []int, s *store.Store, m *model) {
		if len(row) == 4 {
			return
		}
		for i, do := range steps {
			next := append(slices.Clone(row), i)
			c, d := s.Clone(), m.clone()
			if !do(c, d) {
				t.Fatal(next, "another answer")
			}
			both(t, next, c, d)
			from(next, c, d)
		}
		both(t, row, s, m)
	}
	from(nil, store.New(), newModel())
}

// anyStep is one that hangs on numbers by chance.
func anyStep(r *rand.Rand) step {
	block := r.IntN(6) - 1
	n := r.IntN(9) - 1
	switch r.IntN(16) {
	case 0, 1, 2, 3, 4:
		return appends(block, "abcdefghij"[:r.IntN(8)])
	case 5, 6, 7:
		return syncs(block)
	case 8, 9, 10:
		return cuts(block, n)
	case 11, 12:
		return drops(block)
	case 13:
		return fuses(4*n - 2)
	case 14:
		return fuses(n)
	}
	return crashes(n)
}

// P8.1, P8.2: long rows of any steps, without a Clone between.
func TestLongRows(t *testing.T) {
	for seed := range uint64(300) {
		r := rand.New(rand.NewPCG(seed, 8))
		s, m := store.New(), newModel()
		for i := range 200 {
			if !anyStep(r)(s, m) {
				t.Fatal(seed, i, "another answer")
			}
			if got, want := told(s), m.told(); got != want {
				t.Fatalf("%d, %d: there is%s, want%s", seed, i, got, want)
			}
		}
	}
}

// R4: a Clone somewhere in a long row, and then rows of any steps on both, by turns.
func TestCloneAheadOfRows(t *testing.T) {
	for seed := range uint64(300) {
		r := rand.New(rand.NewPCG(seed, 9))
		s, m := store.New(), newModel()
		for range r.IntN(40) {
			anyStep(r)(s, m)
		}
		c, d := s.Clone(), m.clone()
		both(t, seed, c, d)
		for i := range 100 {
			one, other := s, m
			if r.IntN(2) == 1 {
				one, other = c, d
			}
			if !anyStep(r)(one, other) {
				t.Fatal(seed, i, "another answer")
			}
			both(t, seed, s, m)
			both(t, seed, c, d)
		}
	}
}
