package end_test

import (
	"bytes"
	"slices"
	"testing"

	"haulier/api"
	"haulier/packet"
	"haulier/sum"
)

// mostUnderWay is how many packets may be under way to a side; what comes behind is gone.
const mostUnderWay = 200

// talk is two ends, and what is under way to each.
type talk struct {
	c       api.Config
	pairs   [2]pair
	under   [2][][]byte
	offered [2][]byte // what is left to be written
	got     [2][]byte
	chance  *chance
}

func newTalk(t *testing.T, c api.Config, size int, by *chance) *talk {
	t.Helper()
	k := &talk{c: c, chance: by}
	for side := range 2 {
		k.pairs[side] = newPair(t, c, side)
		k.offered[side] = filled(100*side, size)
	}
	return k
}

// pass puts what both ends have said under way, and sees to it that what each was handed is a beginning of what the other one wrote (T1).
func (k *talk) pass(t *testing.T) {
	t.Helper()
	for side, p := range k.pairs {
		for _, x := range p.take(t) {
			b, e := packet.Pack(x)
			if e != api.OK {
				t.Fatalf("%v: %d", x, e)
			}
			if len(k.under[1-side]) < mostUnderWay {
				k.under[1-side] = append(k.under[1-side], b)
			}
		}
	}
	for side := range 2 {
		if !bytes.HasPrefix(k.pairs[1-side].e.Written(), k.got[side]) {
			t.Fatalf("side %d was handed %q, and %q was written", side, k.got[side], k.pairs[1-side].e.Written())
		}
	}
}

// deliver hands the packet at that place to its side, if it is not spoilt.
func (k *talk) deliver(t *testing.T, to, at int) {
	t.Helper()
	b := k.under[to][at]
	k.under[to] = slices.Delete(k.under[to], at, at+1)
	if x, e := packet.Unpack(b); e == api.OK {
		k.pairs[to].come(t, x)
	}
	k.pass(t)
}

func (k *talk) write(t *testing.T, side, n int) {
	t.Helper()
	n = k.pairs[side].write(t, k.offered[side][:min(n, len(k.offered[side]))])
	k.offered[side] = k.offered[side][n:]
	k.pass(t)
}

func (k *talk) read(t *testing.T, side, n int) {
	t.Helper()
	k.got[side] = append(k.got[side], k.pairs[side].read(t, n)...)
	k.pass(t)
}

// act is a step: something is written, read, or delivered, or lost, doubled, spoilt; time goes on; a path goes down or up.
func (k *talk) act(t *testing.T) {
	t.Helper()
	c, side := k.chance, k.chance.below(2)
	p, n := k.pairs[side], len(k.under[side])
	kind := c.below(24)
	switch {
	case kind < 3:
		k.write(t, side, c.below(30))
	case kind < 6:
		k.read(t, side, c.below(30))
	case kind < 8:
		now := 1 + c.below(4)
		for _, p := range k.pairs {
			p.tick(t, p.m.now+now)
		}
	case kind == 8:
		p.up(t, c.below(3))
	case kind == 9 && c.below(6) == 0:
		p.down(t, c.below(3))
	case kind == 10 && c.below(30) == 0:
		p.close(t)
		k.offered[side] = nil // nothing more will be written
	case n == 0:
	case kind < 15:
		k.deliver(t, side, 0)
	case kind < 20:
		k.deliver(t, side, c.below(n))
	case kind == 20:
		at := c.below(n)
		k.under[side] = slices.Delete(k.under[side], at, at+1)
	case kind == 21 && n < mostUnderWay:
		k.under[side] = append(k.under[side], bytes.Clone(k.under[side][c.below(n)]))
	case kind == 22:
		at := c.below(n)
		k.under[side][at] = sum.Spoil(k.under[side][at], c.below(60), uint32(1+c.below(1000)))
	}
	k.pass(t)
}

// round is one of duel's: time goes on, what is under way comes, and what came is read. Meanwhile the rest is written.
func (k *talk) round(t *testing.T, n int) {
	t.Helper()
	for side, p := range k.pairs {
		p.tick(t, p.m.now+n)
		k.write(t, side, api.MaxBytes)
		if len(k.offered[side]) == 0 {
			p.close(t)
		}
	}
	k.pass(t)
	for _, to := range []int{1, 0} {
		for range len(k.under[to]) {
			k.deliver(t, to, 0)
		}
	}
	k.read(t, 1, api.MaxBytes)
	k.read(t, 0, api.MaxBytes)
}

// finish sees to it that, with one path up at both ends, and nothing lost any more, all comes, and both ends are done (T5).
func (k *talk) finish(t *testing.T, path, ticks int) {
	t.Helper()
	for _, p := range k.pairs {
		p.up(t, path)
	}
	k.pass(t)
	for range 6000 {
		if k.pairs[0].e.Done() && k.pairs[1].e.Done() {
			break
		}
		k.round(t, ticks)
	}
	for side, p := range k.pairs {
		if !p.e.Done() || len(k.offered[side]) > 0 || !bytes.Equal(k.got[side], k.pairs[1-side].e.Written()) {
			t.Fatalf("%v, side %d: %v, handed %d bytes, %d were written, %d are left", k.c, side, p.e.State(), len(k.got[side]), len(k.pairs[1-side].e.Written()), len(k.offered[side]))
		}
	}
}

// hold sees to it that both logs hold what the whole promises.
func (k *talk) hold(t *testing.T, every int) {
	t.Helper()
	a, b := k.pairs[0].e.Events(), k.pairs[1].e.Events()
	lawful(t, k.c, 0, a)
	lawful(t, k.c, 1, b)
	joined(t, a, b)
	for side, p := range k.pairs {
		p.like(t)
		repeated(t, k.c, side, p.e, every)
		stored(t, p.e.Events())
	}
}

// Two ends, and a bad way between: lost, doubled, spoilt, turned round, paths that fail; and then rounds to the end.
func TestTalk(t *testing.T) {
	for i := range 250 {
		c := chance(i)
		k := newTalk(t, c.anyConfig(), c.below(300), &c)
		for range c.below(600) {
			k.act(t)
		}
		k.hold(t, 40)
		k.finish(t, c.below(k.c.Paths), 1+c.below(9))
		k.hold(t, 200)
	}
}

// The greatest and the least configurations, up to MaxBytes each way.
func TestTalkMost(t *testing.T) {
	for kind := api.Quickest; kind <= api.Redundant; kind++ {
		c := chance(70 + kind)
		k := newTalk(t, api.Config{Paths: 3, Buffer: 400, Window: 400, Chunk: 64, Most: 16, First: 64, Sched: kind}, 5000, &c)
		k.offered[1] = k.offered[1][:api.MaxBytes]
		for range 1500 {
			k.act(t)
		}
		k.offered[0] = k.offered[0][:max(len(k.offered[0])-5000+api.MaxBytes, 0)] // the rest of MaxBytes
		k.finish(t, kind-1, 2)
		if len(k.got[0]) > api.MaxBytes || len(k.got[1]) > api.MaxBytes {
			t.Fatal(len(k.got[0]), len(k.got[1]))
		}
		k.hold(t, 3000)
		k = newTalk(t, api.Config{Paths: 1, Buffer: 1, Window: 1, Chunk: 1, Most: 1, First: 1, Sched: kind}, 40, &c)
		for range 300 {
			k.act(t)
		}
		k.finish(t, 0, 1)
		k.hold(t, 50)
	}
}

// Beside the path that is up at both ends others may be up at one.
func TestTalkHalf(t *testing.T) {
	for i := range 40 {
		c := chance(200 + i)
		conf := c.anyConfig()
		conf.Paths = 3
		k := newTalk(t, conf, 60, &c)
		for range 200 {
			k.act(t)
		}
		for path := range 3 {
			k.pairs[path%2].up(t, path)
			k.pairs[1-path%2].down(t, path)
		}
		k.finish(t, i%3, 1+i%4)
		k.hold(t, 300)
	}
}

// A talk word by word: Data ahead of the Joined is refused, an Ack is lost, and what it answered is sent again.
func TestTalkWords(t *testing.T) {
	a, b := newPair(t, config(), 0), newPair(t, config(), 1)
	a.row(t, "up 0 => yes, join 0.0")
	b.row(t, "up 0 => yes", "join 0.0 => yes, joined 0.0 0", "write abcdef => 6, data 0.1 0 abcd, data 0.2 4 ef")
	a.row(t, "data 0.1 0 abcd => no", "joined 0.0 0 => yes", "data 0.2 4 ef => yes, ack 0.1 2 0 100")
	b.row(t, "ack 0.1 2 0 100 => yes", "tick 1 => yes, data 0.3 0 abcd")
	a.row(t, "data 0.3 0 abcd => yes, ack 0.2 3 6 100", "read 9 => abcdef")
	b.row(t, "tick 2 => yes", "tick 3 => yes, data 0.4 0 abcd")
	a.row(t, "data 0.4 0 abcd => yes, ack 0.3 4 6 106", "read 9 =>")
	b.row(t, "ack 0.3 4 6 106 => yes", "close => yes, data 0.5 6 .")
	a.row(t, "data 0.5 6 . => yes, ack 0.4 5 7 106", "done => no", "close => yes, data 0.5 0 .", "done => no")
	b.row(t, "ack 0.4 5 7 106 => yes", "done => no", "data 0.5 0 . => yes, ack 0.6 5 1 100", "done => yes")
	a.row(t, "ack 0.6 5 1 100 => yes", "done => yes")
	lawful(t, config(), 0, a.e.Events())
	lawful(t, config(), 1, b.e.Events())
	joined(t, a.e.Events(), b.e.Events())
}
