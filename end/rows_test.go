package end_test

import (
	"strconv"
	"testing"

	"haulier/api"
)

// walk goes over each row of at most so many of the steps, behind a beginning; each is held against the model at its end.
func walk(t *testing.T, c api.Config, side int, begin string, steps []string, most int) {
	t.Helper()
	made(t, c, side, begin)
	var more func(row []string, most int)
	more = func(row []string, most int) {
		p := newPair(t, c, side)
		for _, s := range row {
			p.do(t, s)
		}
		p.like(t)
		p.take(t)
		for i := 0; i < len(steps) && most > 0; i++ {
			more(append(row, steps[i]), most-1)
		}
	}
	more(split(begin), most)
}

func TestRowsOfOne(t *testing.T) {
	steps := []string{"write abc", "write defghijkl", "close", "read 3", "on 1", "on 4", "up 1", "down 0", "join 1.0", "data 0.5 0 xyz", "data 1.6 3 pq.", "ack 0.1 1 4 100", "ack 0.2 2 8 12", "ack 1.1 1 3 20"}
	walk(t, narrow(), 1, "", append(steps, "up 0", "join 0.0"), 3)
	walk(t, narrow(), 1, alone, steps, 4)
	for kind := api.Quickest; kind <= api.Redundant; kind++ {
		c := with(func(c *api.Config) { c.Window, c.Sched, c.First = 9, kind, 2 })
		walk(t, c, 1, answered, steps, 3)
		walk(t, c, 1, answered+"; write abcdefghijk; on 1", steps, 3)
	}
}

func TestRowsOfNought(t *testing.T) {
	steps := []string{"write abc", "write defghijkl", "close", "read 3", "on 1", "on 4", "up 0", "up 1", "down 1", "joined 1.0 0", "data 1.5 0 xyz.", "ack 0.1 1 4 100", "ack 1.1 1 8 12", "ack 1.2 2 3 20"}
	walk(t, narrow(), 0, "", append(steps, "joined 0.0 0"), 3)
	walk(t, narrow(), 0, "up 1; write mnopqrstuv", steps, 4)
	for kind := api.Quickest; kind <= api.Redundant; kind++ {
		c := with(func(c *api.Config) { c.Window, c.Sched, c.First = 9, kind, 2 })
		walk(t, c, 0, "up 0; joined 0.0 0; up 1; write abcdefghijk", steps, 3)
		walk(t, c, 0, asked+"; write abcdefghijk; on 2", steps, 3)
	}
}

// anyConfig is one that may be, of few paths and small numbers.
func (c *chance) anyConfig() api.Config {
	return api.Config{Paths: 1 + c.below(3), Buffer: 1 + c.below(40), Window: 1 + c.below(40), Chunk: 1 + c.below(9), Most: 1 + c.below(8), First: 1 + c.below(9), Sched: 1 + c.below(3)}
}

// answer is a packet that tells of what p's End has said: most often one that may come.
func (c *chance) answer(p pair) api.Packet {
	path := c.below(len(p.m.ways))
	w := p.m.ways[path]
	x := api.Packet{Kind: api.Ack, Path: path, Number: c.below(99), Of: c.below(w.sent + 1), Seen: p.m.acked + c.below(p.m.sent-p.m.acked+1), Limit: p.m.limit + c.below(9) - 3}
	if len(w.out) > 0 && c.below(4) > 0 {
		x.Of = w.out[c.below(len(w.out))].number
	}
	if c.below(20) == 0 {
		x.Of, x.Seen, x.Limit = c.any(20), c.any(60), c.any(90)
	}
	return x
}

// bytes is a packet with bytes about what was read.
func (c *chance) bytes(p pair) api.Packet {
	from := max(p.m.taken+c.below(14)-4, 0)
	x := api.Packet{Kind: api.Data, Path: c.below(len(p.m.ways)), Number: c.below(99), From: from, Data: filled(from, c.below(9)), Fin: c.below(25) == 0}
	if c.below(20) == 0 {
		x.From = c.any(60)
	}
	return x
}

// act makes a call.
func (c *chance) act(t *testing.T, p pair) {
	t.Helper()
	switch c.below(20) {
	case 0, 1, 2:
		p.write(t, filled(len(p.m.data), c.below(20)))
	case 3, 4:
		p.read(t, c.any(12))
	case 5, 6, 7:
		p.tick(t, p.m.now+c.below(5))
	case 8, 9:
		p.up(t, c.any(3))
	case 10:
		if c.below(4) == 0 {
			p.down(t, c.any(3))
		}
	case 11, 12:
		path := c.below(len(p.m.ways))
		p.come(t, api.Packet{Kind: api.Join, Path: path, Number: c.below(99)})
		p.come(t, api.Packet{Kind: api.Joined, Path: path, Number: c.below(99), Of: c.any(p.m.ways[path].sent + 1)})
	case 13, 14, 15:
		p.come(t, c.bytes(p))
	case 16, 17, 18:
		p.come(t, c.answer(p))
	case 19:
		if c.below(9) == 0 {
			p.close(t)
		} else {
			p.tick(t, c.any(9))
		}
	}
}

// longRow is a row of that many calls, held against the model now and then.
func longRow(t *testing.T, c chance, calls int) {
	p := newPair(t, c.anyConfig(), c.below(2))
	for i := range calls {
		c.act(t, p)
		if i%9 == 0 {
			p.take(t)
		}
		if i%7 == 0 {
			p.like(t)
		}
	}
	p.like(t)
	p.take(t)
}

func TestLongRows(t *testing.T) {
	for i := range 500 {
		longRow(t, chance(i), 250)
	}
}

// Several at once, by turns: none has anything of another.
func TestSeveral(t *testing.T) {
	c := chance(5)
	for range 25 {
		like := c.anyConfig()
		list := []pair{newPair(t, like, 0), newPair(t, like, 0), newPair(t, like, 1), newPair(t, c.anyConfig(), 1)}
		for range 150 {
			c.act(t, list[c.below(4)])
			for _, p := range list {
				p.like(t)
			}
		}
	}
}

// Several at one time, each by itself.
func TestAtOneTime(t *testing.T) {
	for i := range 12 {
		t.Run(strconv.Itoa(i), func(t *testing.T) {
			t.Parallel()
			longRow(t, chance(1000+i/2), 400)
		})
	}
}
