package end_test

import (
	"testing"

	"haulier/api"
)

// P19.2: now above the tick that it is, up to MaxTick, and nothing else.
func TestTick(t *testing.T) {
	for side := range 2 {
		row(t, config(), side, "tick 0 => no", "tick -1 => no", "tick min => no", "tick 1048577 => no", "tick max => no", "now => 0", "events =>", "tick 1 => yes", "now => 1", "tick 1 => no", "tick 0 => no",
			"tick 9 => yes", "tick 8 => no", "tick 9 => no", "tick 1048577 => no", "now => 9", "events => 33", "tick 1048575 => yes", "tick 1048576 => yes", "tick 1048576 => no", "tick 1048577 => no", "tick max => no",
			"now => 1048576", "events => 3333", "meter => 4 0 0 0 0 0 0 0")
	}
	for _, n := range edges() {
		p := newPair(t, config(), 1)
		if p.tick(t, n) != (n >= 1 && n <= api.MaxTick) {
			t.Error(n)
		}
		p.like(t)
	}
}

// P19.2, P19.3: a Join at Up, and again when it is due, not ahead of it, till the path is joined; First behind each the next one is.
func TestJoin(t *testing.T) {
	row(t, config(), 0, "up 1 => yes, join 1.0", "tick 1 => yes", "tick 2 => yes", "tick 3 => yes, join 1.1", "tick 4 => yes", "tick 5 => yes", "tick 6 => yes, join 1.2", "tick 20 => yes, join 1.3",
		"tick 22 => yes", "tick 24 => yes, join 1.4", "tick 26 => yes", "state => 26 0 27 100 0 0 0 0 0 0 0 0 0 0 0 0 0 0 3 2 0 1 0 0 5 0 3 2 0", "joined 1.0 2 => yes", "tick 27 => yes", "tick 99 => yes",
		"state => 99 0 27 100 0 0 0 0 0 0 0 0 0 0 0 0 0 0 3 2 0 1 1 0 5 0 3 2 0")
	for _, r := range []struct {
		first          int
		ahead, due, on string
	}{{1, "0", "1", "2"}, {2, "1", "2", "4"}, {64, "63", "64", "128"}} {
		c := with(func(c *api.Config) { c.First = r.first })
		row(t, c, 0, "up 0 => yes, join 0.0", "tick "+r.ahead, "tick "+r.due+" => yes, join 0.1", "tick "+r.on+" => yes, join 0.2")
	}
	// At MaxTick the next one is due behind it.
	row(t, config(), 0, "tick 1048575", "up 0 => yes, join 0.0", "tick 1048576 => yes", "up 1 => yes, join 1.0", "state => 1048576 1048578 1048579 100 0 0 0 0 0 0 0 0 0 1 0 0 1 0 3 2 0 1 0 0 1 0 3 2 0")
}

// Each path has its own time; those that are due at one tick are asked for in order.
func TestJoinTwo(t *testing.T) {
	row(t, config(), 0, "up 1 => yes, join 1.0", "up 0 => yes, join 0.0", "tick 3 => yes, join 0.1, join 1.1")
	row(t, config(), 0, "up 1 => yes, join 1.0", "tick 1", "up 0 => yes, join 0.0", "tick 3 => yes, join 1.1", "tick 4 => yes, join 0.1", "tick 5 => yes", "tick 6 => yes, join 1.2", "tick 10 => yes, join 0.2, join 1.3")
	row(t, config(), 0, "up 0; up 1; joined 0.0 0; tick 3 => yes, join 1.1")
	// Nothing is said on a path that is down, whatever the others say.
	row(t, with(func(c *api.Config) { c.Paths = 3 }), 0, "up 0; up 1; up 2; down 1", "tick 3 => yes, join 0.1, join 2.1")
}

// A path that is down is not asked for; up again it is, at once, and First behind that.
func TestJoinDown(t *testing.T) {
	row(t, config(), 0, "up 0 => yes, join 0.0", "down 0 => yes", "tick 3 => yes", "tick 9 => yes", "state => 9 3 0 100 0 0 0 0 0 0 0 0 0 0 0 0 1 0 3 2 0 0 0 0 0 0 3 2 0", "up 0 => yes, join 0.1", "tick 11 => yes", "tick 12 => yes, join 0.2")
	row(t, config(), 0, "up 0 => yes, join 0.0", "tick 2 => yes", "down 0 => yes", "up 0 => yes, join 0.1", "tick 3 => yes", "tick 4 => yes", "tick 5 => yes, join 0.2")
	row(t, config(), 0, "up 0 => yes, join 0.0", "up 0 => no", "tick 1", "up 0 => no", "tick 3 => yes, join 0.1")
	// Once joined it stays so.
	row(t, config(), 0, "up 0 => yes, join 0.0", "joined 0.0 0 => yes", "down 0 => yes", "up 0 => yes", "tick 3 => yes", "tick 70 => yes", "down 0 => yes", "tick 99 => yes", "up 0 => yes")
}

// Side 1 asks for nothing.
func TestJoinSide(t *testing.T) {
	row(t, config(), 1, "up 0 => yes", "up 1 => yes", "tick 3 => yes", "down 1 => yes", "tick 6 => yes", "up 1 => yes", "tick 99 => yes", "state => 99 0 0 100 0 0 0 0 0 0 0 0 0 1 0 0 0 0 3 2 0 1 0 0 0 0 3 2 0")
}

// P19.2: those that are late are given up, at the wait and not ahead of it, and what they had is sent again.
func TestLate(t *testing.T) {
	c := with(func(c *api.Config) { c.Paths = 1 })
	row(t, c, 1, alone, "write abcdefgh => 8, data 0.1 0 abcd, data 0.2 4 efgh", "tick 2 => yes", "meter => 7 3 8 1 0 8 0 0",
		"tick 3 => yes, data 0.3 0 abcd", "state => 3 0 100 8 0 0 8 1 4 8 0 0 0 0 1 1 1 4 0 6 1 1 3 0 4 3", "meter => 9 4 12 1 0 8 0 2", "tick 8 => yes", "tick 9 => yes, data 0.4 0 abcd", "tick 20 => yes", "tick 21 => yes, data 0.5 0 abcd",
		"meter => 15 6 20 1 0 8 0 4", "ack 0.1 5 4 100 => yes, data 0.6 4 efgh", "state => 21 0 100 8 0 4 8 0 0 0 0 0 1 1 0 7 0 1 2 1 6 4 8 21")
	// One of several; another one later.
	row(t, c, 1, alone, "write abcd => 4, data 0.1 0 abcd", "tick 1", "write efgh => 4, data 0.2 4 efgh", "tick 3 => yes", "state => 3 0 100 8 0 0 8 1 0 4 0 0 0 0 1 1 1 3 0 6 1 1 2 4 8 1", "tick 6 => yes", "tick 7 => yes, data 0.3 0 abcd")
	// On side 0 as well.
	row(t, config(), 0, asked, "write abcd => 4, data 0.1 0 abcd", "tick 2 => yes", "tick 3 => yes, data 1.1 0 abcd", "tick 5 => yes", "tick 6 => yes, data 0.2 0 abcd, data 1.2 0 abcd", "meter => 15 6 16 2 0 4 0 2")
}

// What is acknowledged by then is not sent again; what is not is, from there on.
func TestLateAcked(t *testing.T) {
	row(t, config(), 1, alone, "write abcdefgh => 8, data 0.1 0 abcd, data 0.2 4 efgh", "ack 0.1 2 8 100 => yes", "tick 1 => yes", "meter => 8 3 8 2 0 8 0 1", "tick 99 => yes")
	row(t, config(), 1, alone, "write abcdefgh => 8, data 0.1 0 abcd, data 0.2 4 efgh", "ack 0.1 2 2 100 => yes", "tick 1 => yes, data 0.3 2 cd", "ack 0.2 3 8 100 => yes", "tick 9 => yes")
	row(t, config(), 1, alone, "write abcdef => 6, data 0.1 0 abcd, data 0.2 4 ef", "close => yes", "ack 0.1 0 4 100 => yes", "tick 3 => yes, data 0.3 4 ef", "ack 0.2 3 6 100 => yes, data 0.4 6 .", "ack 0.3 4 7 100 => yes", "tick 9 => yes")
}

// The end of a closed one is lost as its bytes are, and goes again with them.
func TestLateEnd(t *testing.T) {
	row(t, config(), 1, alone, "close => yes, data 0.1 0 .", "tick 3 => yes, data 0.2 0 .", "tick 9 => yes, data 0.3 0 .", "ack 0.1 3 1 100 => yes", "tick 50 => yes")
	row(t, config(), 1, alone, "write abc => 3, data 0.1 0 abc", "close => yes, data 0.2 3 .", "tick 3 => yes, data 0.3 0 abc.", "meter => 9 4 6 1 0 3 0 2")
	row(t, config(), 1, alone, "write abcd => 4, data 0.1 0 abcd", "close => yes, data 0.2 4 .", "tick 3 => yes, data 0.3 0 abcd.")
	row(t, config(), 1, alone, "write abcde => 5, data 0.1 0 abcd, data 0.2 4 e", "close => yes", "tick 3 => yes, data 0.3 0 abcd", "ack 0.1 3 4 100 => yes, data 0.4 4 e, data 0.5 5 .")
}

// First all that are late are given up, and all Joins said; what is sent goes behind that.
func TestTickOrder(t *testing.T) {
	row(t, config(), 0, "up 0; joined 0.0 0", "write abcd => 4, data 0.1 0 abcd", "up 1 => yes, join 1.0", "tick 3 => yes, join 1.1, data 0.2 0 abcd")
	row(t, config(), 0, "up 1; joined 1.0 0", "write abcd => 4, data 1.1 0 abcd", "up 0 => yes, join 0.0", "tick 3 => yes, join 0.1, data 1.2 0 abcd")
	// What was late on both paths goes again as one row of places, over both, as both are behind then.
	row(t, config(), 1, answered, "write abcdefghijklmn => 14, data 0.1 0 abcd, data 0.2 4 efgh, data 1.1 8 ijkl, data 1.2 12 mn", "tick 3 => yes, data 0.3 0 abcd, data 1.3 0 abcd",
		"state => 3 0 0 100 14 0 0 14 1 4 14 0 0 0 0 1 1 1 4 0 6 1 1 3 0 4 3 1 1 1 4 0 6 1 1 3 0 4 3")
	// What there is to be sent goes ahead of a probe, which is then none.
	row(t, config(), 1, "up 0; write abcd; join 0.0", "tick 1 => yes, data 0.1 0 abcd", "tick 2 => yes", "events => 7145353")
}

// narrow is a window of eight bytes.
func narrow() api.Config {
	return with(func(c *api.Config) { c.Window = 8 })
}

// P19.2: the probe: where nothing is out, not all is acknowledged, and there is nothing that may be sent.
func TestProbe(t *testing.T) {
	row(t, narrow(), 1, alone, "write abcdefghij => 10, data 0.1 0 abcd, data 0.2 4 efgh", "ack 0.1 1 4 8 => yes", "ack 0.2 2 8 8 => yes", "tick 1 => yes, data 0.3 8 ",
		"state => 1 0 0 8 10 0 8 8 0 0 0 0 0 1 1 0 4 0 1 4 1 3 8 8 1 0 0 0 0 0 3 2 0", "tick 2 => yes, data 0.4 8 ", "meter => 12 5 8 3 0 10 0 1", "tick 3 => yes", "tick 4 => yes, data 0.5 8 ",
		"ack 0.2 5 8 10 => yes, data 0.6 8 ij", "ack 0.2 5 8 10 => yes", "ack 0.3 6 10 10 => yes", "tick 60 => yes")
	row(t, narrow(), 0, "up 0; joined 0.0 0", "write abcdefghij => 10, data 0.1 0 abcd, data 0.2 4 efgh", "ack 0.1 2 8 8 => yes", "tick 1 => yes, data 0.3 8 ", "ack 0.2 3 8 12 => yes, data 0.4 8 ij")
	// From the first place that is not acknowledged, be it sent or not.
	row(t, config(), 1, alone, "write abcdefgh => 8, data 0.1 0 abcd, data 0.2 4 efgh", "ack 0.1 1 0 100 => yes", "ack 0.2 2 3 100 => yes", "tick 1 => yes, data 0.3 3 ", "ack 0.3 3 8 100 => yes", "tick 2 => yes", "tick 9 => yes")
	row(t, config(), 1, alone, "close => yes, data 0.1 0 .", "ack 0.1 1 0 100 => yes", "tick 1 => yes, data 0.2 0 ", "ack 0.2 2 1 100 => yes", "tick 2 => yes")
	row(t, config(), 1, alone, "write ab => 2, data 0.1 0 ab", "close => yes, data 0.2 2 .", "ack 0.1 1 2 100 => yes", "ack 0.2 2 2 100 => yes", "tick 1 => yes, data 0.3 2 ", "ack 0.3 3 3 100 => yes", "tick 9 => yes")
}

// None where something is out, on whatever path.
func TestProbeOut(t *testing.T) {
	row(t, narrow(), 1, alone, "write abcdefghij => 10, data 0.1 0 abcd, data 0.2 4 efgh", "tick 1 => yes", "ack 0.1 1 4 8 => yes", "tick 2 => yes, data 0.3 4 efgh", "tick 3 => yes", "ack 0.2 2 8 8 => yes", "tick 4 => yes", "tick 5 => yes", "tick 6 => yes, data 0.4 8 ")
	c := with(func(c *api.Config) { c.Window, c.Sched = 8, api.Round })
	row(t, c, 1, answered, "write abcdefghij => 10, data 0.1 0 abcd, data 1.1 4 efgh", "ack 0.1 1 4 8 => yes", "tick 1 => yes", "tick 2 => yes", "tick 3 => yes, data 0.2 4 efgh")
	row(t, c, 1, answered, "write abcdefghij => 10, data 0.1 0 abcd, data 1.1 4 efgh", "ack 1.1 1 0 8 => yes", "tick 1 => yes", "tick 2 => yes", "ack 0.1 1 8 8 => yes", "tick 3 => yes, data 0.2 8 ")
}

// None with all acknowledged, none with nothing written, none where no path can be used.
func TestProbeNone(t *testing.T) {
	row(t, config(), 1, alone, "tick 1 => yes", "tick 99 => yes")
	row(t, config(), 1, alone, "write ab => 2, data 0.1 0 ab", "ack 0.1 1 2 100 => yes", "tick 1 => yes", "tick 99 => yes", "close => yes, data 0.2 2 .", "ack 0.2 2 3 100 => yes", "tick 100 => yes", "tick 999 => yes")
	row(t, narrow(), 1, "write abcdefghij => 10", "tick 1 => yes", "up 0 => yes", "tick 2 => yes", "join 0.0 => yes, joined 0.0 0", "down 0 => yes", "tick 3 => yes", "up 0 => yes, data 0.1 0 abcd, data 0.2 4 efgh",
		"ack 0.2 2 8 8 => yes", "down 0 => yes", "tick 4 => yes", "tick 90 => yes", "up 0 => yes", "tick 91 => yes, data 0.3 8 ")
	row(t, narrow(), 0, "write ab => 2", "up 0 => yes, join 0.0", "tick 1 => yes", "tick 3 => yes, join 0.1")
	// At a Tick alone.
	row(t, narrow(), 1, alone, "write abcdefghij => 10, data 0.1 0 abcd, data 0.2 4 efgh", "ack 0.1 1 4 8 => yes", "ack 0.2 2 8 8 => yes", "write k => 1", "close => yes", "up 1 => yes", "down 1 => yes", "up 1 => yes", "join 1.0 => yes, joined 1.0 0",
		"data 1.0 0 a => yes, ack 1.1 0 1 8", "read 1 => a", "ack 0.2 2 8 8 => yes", "tick 0 => no", "up 0 => no", "tick 1 => yes, data 0.3 8 ")
}

// A probe goes over those that are chosen.
func TestProbeChosen(t *testing.T) {
	sent := "write abcdefghij; ack 0.1 1 4 8; ack 0.2 2 8 8"
	row(t, narrow(), 1, answered, sent, "tick 1 => yes, data 0.3 8 ", "tick 2 => yes, data 1.1 8 ", "tick 5 => yes, data 0.4 8 , data 1.2 8 ", "ack 1.1 2 8 8 => yes", "tick 6 => yes", "tick 7 => yes, data 1.3 8 ")
	c := with(func(c *api.Config) { c.Window, c.Sched = 8, api.Redundant })
	row(t, c, 1, answered, "write abcdefghij => 10, data 0.1 0 abcd, data 1.1 0 abcd, data 0.2 4 efgh, data 1.2 4 efgh", "ack 0.1 1 4 8; ack 0.2 2 8 8; ack 1.1 1 8 8; ack 1.2 2 8 8", "tick 2 => yes, data 0.3 8 , data 1.3 8 ",
		"state => 2 0 0 8 10 0 8 8 0 0 0 0 0 1 1 0 4 0 1 4 1 3 8 8 2 1 1 0 4 0 1 4 1 3 8 8 2", "down 1 => yes", "tick 3 => yes, data 0.4 8 ", "meter => 21 9 16 6 0 10 0 2")
	c.Sched = api.Round
	row(t, c, 1, answered, "write abcdefghij => 10, data 0.1 0 abcd, data 1.1 4 efgh", "ack 0.1 1 4 8; ack 1.1 1 8 8", "tick 1 => yes, data 0.2 8 ", "ack 0.2 2 8 8 => yes", "tick 2 => yes, data 1.2 8 ", "ack 1.2 2 8 8 => yes", "tick 3 => yes, data 0.3 8 ")
}
