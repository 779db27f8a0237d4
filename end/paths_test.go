package end_test

import (
	"testing"

	"haulier/api"
)

// three is a configuration of three paths, and begun makes all of side 1's up and joined.
func three(kind int) api.Config {
	return with(func(c *api.Config) { c.Paths, c.Sched = 3, kind })
}

const begun = "up 0; up 1; up 2; join 0.0; join 1.0; join 2.0"

// P19.3: no such path, and each call twice.
func TestUpDown(t *testing.T) {
	for side := range 2 {
		row(t, config(), side, "up -1 => no", "up 2 => no", "up 3 => no", "up min => no", "up max => no", "up 4294967296 => no", "down -1 => no", "down 0 => no", "down 1 => no", "down 2 => no", "down min => no", "down max => no",
			"events =>", "meter => 0 0 0 0 0 0 0 0")
		for paths := 1; paths <= 3; paths++ {
			for _, n := range edges() {
				p := newPair(t, with(func(c *api.Config) { c.Paths = paths }), side)
				there := n >= 0 && n < paths
				if p.down(t, n) || p.up(t, n) != there || p.up(t, n) || p.down(t, n) != there || p.down(t, n) {
					t.Error(paths, n)
				}
				p.like(t)
			}
		}
	}
	row(t, config(), 0, "up 0 => yes, join 0.0", "up 0 => no", "events => 75", "down 0 => yes", "down 0 => no", "events => 758", "up 0 => yes, join 0.1", "down 1 => no", "up 1 => yes, join 1.0", "down 0 => yes", "down 1 => yes", "events => 758757588")
	row(t, config(), 1, "up 1 => yes", "up 1 => no", "down 1 => yes", "down 1 => no", "up 1 => yes", "up 0 => yes", "events => 7877", "meter => 4 0 0 0 0 0 0 0")
}

// P19.3: what was out goes over the others at once, or over the same one when it is up again: with none, one, many out, joined or not.
func TestDown(t *testing.T) {
	row(t, config(), 1, answered, "down 1 => yes", "write ab => 2, data 0.1 0 ab", "up 1 => yes", "down 1 => yes", "meter => 11 3 2 2 0 2 0 0")
	row(t, config(), 1, answered, "write ab => 2, data 0.1 0 ab", "down 0 => yes, data 1.1 0 ab", "meter => 10 4 4 2 0 2 0 1", "down 1 => yes", "state => 0 0 0 100 2 0 0 2 1 0 2 0 0 0 0 0 1 0 2 0 3 2 0 0 1 0 2 0 3 2 0",
		"tick 50 => yes", "up 1 => yes, data 1.2 0 ab", "up 0 => yes", "meter => 15 5 6 2 0 2 0 2")
	row(t, config(), 0, asked, "write abcdefgh => 8, data 0.1 0 abcd, data 0.2 4 efgh", "down 0 => yes, data 1.1 0 abcd, data 1.2 4 efgh", "up 0 => yes", "meter => 13 6 16 2 0 8 0 2")
	// One row of lost places is cut into pieces anew.
	row(t, with(func(c *api.Config) { c.Chunk = 3 }), 1, alone, "write a => 1, data 0.1 0 a", "write b => 1, data 0.2 1 b", "down 0 => yes", "up 0 => yes, data 0.3 0 ab")
	row(t, with(func(c *api.Config) { c.Chunk = 3 }), 1, alone, "write abcd => 4, data 0.1 0 abc, data 0.2 3 d", "close => yes", "down 0 => yes", "up 0 => yes, data 0.3 0 abc, data 0.4 3 d")
	// Not joined there is none out.
	row(t, config(), 1, "up 0; write ab", "down 0 => yes", "up 0 => yes", "join 0.3 => yes, joined 0.0 3", "down 0 => yes", "up 0 => yes, data 0.1 0 ab")
	row(t, config(), 0, "write ab; up 0", "down 0 => yes", "events => 1758")
}

// What was out is out no more: its answer tells what came, and nothing of the path.
func TestDownAnswer(t *testing.T) {
	row(t, config(), 1, answered, "write abcdefgh => 8, data 0.1 0 abcd, data 0.2 4 efgh", "down 0 => yes, data 1.1 0 abcd, data 1.2 4 efgh", "ack 0.1 1 4 100 => no", "up 0 => yes", "tick 2", "ack 0.1 2 4 100 => yes",
		"state => 2 0 0 100 8 0 4 8 0 0 0 0 0 1 1 0 3 0 3 2 0 1 1 0 3 0 3 2 2 1 0 4 0 2 4 8 0")
	// All else of a path stays: its numbers, its mean, its size, whether it is behind.
	row(t, config(), 1, alone, "write abcdefgh; tick 2; ack 0.1 1 4 100; tick 12 => yes, data 0.3 4 efgh", "down 0 => yes", "state => 12 0 0 100 8 0 4 8 1 4 8 0 0 0 0 0 1 1 4 2 12 1 0 0 0 0 0 0 3 2 0",
		"up 0 => yes, data 0.4 4 efgh", "state => 12 0 0 100 8 0 4 8 0 0 0 0 0 1 1 1 5 2 12 1 1 4 4 8 12 0 0 0 0 0 3 2 0")
	// What is out elsewhere too is lost for all that.
	row(t, three(api.Redundant), 1, begun, "write abcd => 4, data 0.1 0 abcd, data 1.1 0 abcd, data 2.1 0 abcd", "down 1 => yes, data 0.2 0 abcd, data 2.2 0 abcd", "down 0 => yes", "ack 2.1 1 4 100 => yes", "meter => 18 8 20 4 0 4 0 3", "down 2 => yes", "up 2 => yes", "meter => 20 8 20 4 0 4 0 4")
}

// Each call that does something, but Read, and Come of a Join or of Data, sends what there is to be sent; one that does nothing does not.
func TestPumps(t *testing.T) {
	const pending = "up 0; up 1; down 1; write abc; join 0.0"
	row(t, config(), 1, pending, "write d => 1, data 0.1 0 abcd")
	row(t, config(), 1, pending, "close => yes, data 0.1 0 abc.")
	row(t, config(), 1, pending, "tick 1 => yes, data 0.1 0 abc")
	row(t, config(), 1, pending, "up 1 => yes, data 0.1 0 abc")
	row(t, config(), 1, "up 1; write abc", "up 0 => yes", "join 1.0 => yes, joined 1.0 0", "down 0 => yes, data 1.1 0 abc")
	row(t, config(), 1, pending, "ack 0.1 0 0 0 => yes, data 0.1 0 abc")
	row(t, config(), 1, pending, "join 0.1 => yes, joined 0.1 1", "data 0.2 0 x => yes, ack 0.2 2 1 100", "read 1 => x", "read 1 =>", "write  => 0", "tick 0 => no", "up 0 => no", "up 2 => no", "down 1 => no", "down -1 => no",
		"ack 0.1 3 0 0 => no", "ack 0.1 0 1 0 => no", "joined 0.1 0 => no", "data 1.1 0 x => no", "state => 0 0 0 100 3 0 0 0 0 1 1 0 0 1 1 0 3 0 3 2 0 0 0 0 0 0 3 2 0", "tick 1 => yes, data 0.3 0 abc")
	row(t, config(), 1, "up 0; write abc; close; join 0.0", "close => no", "write x => 0", "tick 1 => yes, data 0.1 0 abc.")
	row(t, config(), 0, "write abc; up 0; up 1", "joined 0.0 0 => yes, data 0.1 0 abc", "joined 0.0 0 => yes", "joined 1.0 0 => yes")
	// A path that side 0 asks for: a Join, and no more; joined it sends.
	row(t, config(), 0, "write abc; up 0; joined 0.1 0; down 0", "up 1 => yes, join 1.0", "up 0 => yes, data 0.2 0 abc")
}

// pump: till no path can be used, and till there is no piece.
func TestPumpTill(t *testing.T) {
	row(t, config(), 1, answered, "write abcdefghijklmnopqrst => 20, data 0.1 0 abcd, data 0.2 4 efgh, data 1.1 8 ijkl, data 1.2 12 mnop", "state => 0 0 0 100 20 0 0 16 0 0 0 0 0 1 1 0 3 0 3 2 2 1 0 4 0 2 4 8 0 1 1 0 3 0 3 2 2 1 8 12 0 2 12 16 0",
		"ack 1.1 1 0 100 => yes, data 1.3 16 qrst", "ack 1.1 2 0 100 => yes")
	for _, r := range []struct {
		window, most, chunk int
		said                string
	}{
		{8, 4, 4, "data 0.1 0 abcd, data 0.2 4 efgh"}, {6, 4, 4, "data 0.1 0 abcd, data 0.2 4 ef"}, {1, 4, 4, "data 0.1 0 a"}, {9, 1, 4, "data 0.1 0 abcd, data 1.1 4 efgh"}, {9, 2, 4, "data 0.1 0 abcd, data 0.2 4 efgh, data 1.1 8 i"},
		{10, 16, 4, "data 0.1 0 abcd, data 0.2 4 efgh, data 1.1 8 ij"}, {11, 16, 64, "data 0.1 0 abcdefghijk"}, {12, 16, 64, "data 0.1 0 abcdefghijkl"}, {400, 16, 64, "data 0.1 0 abcdefghijkl"}, {400, 16, 1, "data 0.1 0 a, data 0.2 1 b, data 1.1 2 c, data 1.2 3 d"}, {3, 16, 1, "data 0.1 0 a, data 0.2 1 b, data 1.1 2 c"},
	} {
		c := with(func(c *api.Config) { c.Window, c.Most, c.Chunk = r.window, r.most, r.chunk })
		row(t, c, 1, answered, "write abcdefghijkl => 12, "+r.said)
		row(t, c, 0, asked, "write abcdefghijkl => 12, "+r.said)
	}
}

// A piece is told once: where no path can be used none is asked for, and what is acknowledged meanwhile stays lost till then.
func TestPumpLost(t *testing.T) {
	row(t, config(), 1, alone, "write abcdefgh; down 0", "state => 0 0 0 100 8 0 0 8 1 0 8 0 0 0 0 0 1 0 3 0 3 2 0 0 0 0 0 0 3 2 0", "write ij => 2", "close => yes", "tick 1 => yes", "state => 1 0 0 100 10 1 0 8 1 0 8 0 0 0 0 0 1 0 3 0 3 2 0 0 0 0 0 0 3 2 0",
		"up 1 => yes", "ack 1.1 0 5 100 => no", "join 1.1 => yes, joined 1.0 1", "ack 1.1 0 5 100 => yes, data 1.1 5 fgh, data 1.2 8 ij.")
	row(t, config(), 1, "up 0; join 0.0; write abcdefgh; up 1; down 0; ack 1.0 0 0 0 => no", "join 1.0; down 1", "up 1 => yes, data 1.1 0 abcd, data 1.2 4 efgh", "up 0 => yes", "down 1 => yes, data 0.3 0 abcd, data 0.4 4 efgh", "join 0.5; ack 0.6 5 3 100 => yes",
		"state => 0 0 0 100 8 0 3 8 0 0 0 0 0 1 1 0 6 0 3 2 2 3 0 4 0 4 4 8 0 0 1 0 3 0 3 2 0", "tick 3 => yes, data 0.6 3 defg", "state => 3 0 0 100 8 0 3 8 1 7 8 0 0 0 0 1 1 1 7 0 6 1 1 6 3 7 3 0 1 0 3 0 3 2 0",
		"ack 0.6 1 8 100 => yes", "state => 3 0 0 100 8 0 8 8 1 7 8 0 0 0 0 1 1 1 7 0 6 1 1 6 3 7 3 0 1 0 3 0 3 2 0", "ack 0.6 6 8 100 => yes", "state => 3 0 0 100 8 0 8 8 0 0 0 0 0 1 1 0 7 0 1 2 0 0 1 0 3 0 3 2 0")
}

// What is lost goes ahead of what is new.
func TestPumpOrder(t *testing.T) {
	row(t, narrow(), 1, alone, "write abcdefghij; tick 2 => yes", "ack 0.1 1 0 9 => yes, data 0.3 8 i", "write k => 1", "down 0 => yes", "up 0 => yes, data 0.4 4 efgh, data 0.5 8 i", "ack 0.2 4 8 12 => yes, data 0.6 9 jk")
	row(t, narrow(), 1, alone, "write abcdefghij => 10, data 0.1 0 abcd, data 0.2 4 efgh", "down 0 => yes", "ack 0.1 1 0 10 => no", "up 0 => yes, data 0.3 0 abcd, data 0.4 4 efgh", "ack 0.1 3 0 10 => yes, data 0.5 8 ij", "down 0; up 0 => yes, data 0.6 4 efgh, data 0.7 8 ij")
}

// Quickest: the least mean, the first such, of those that have room.
func TestQuickest(t *testing.T) {
	row(t, three(api.Quickest), 1, begun, "write ab => 2, data 0.1 0 ab", "tick 2; ack 0.1 1 2 100", "write cd => 2, data 1.1 2 cd", "tick 3; ack 1.1 1 4 100", "write ef => 2, data 2.1 4 ef", "tick 5; ack 2.1 1 6 100",
		"write gh => 2, data 1.2 6 gh", "write ij => 2, data 1.3 8 ij", "write kl => 2, data 1.4 10 kl", "write mn => 2, data 0.2 12 mn", "write op => 2, data 0.3 14 op", "write qr => 2, data 0.4 16 qr",
		"write st => 2, data 2.2 18 st", "write uv => 2, data 2.3 20 uv", "write wx => 2, data 2.4 22 wx", "write yz => 2")
	// One that is down, or not joined, has no part in it, nor has one that is behind.
	row(t, three(api.Quickest), 1, "up 0; up 2; join 2.0", "write ab => 2, data 2.1 0 ab", "write cd => 2, data 2.2 2 cd", "write ef => 2", "join 0.0; up 1 => yes, data 0.1 4 ef")
	row(t, three(api.Quickest), 1, begun, "write ab => 2, data 0.1 0 ab", "tick 3 => yes, data 1.1 0 ab", "write cd => 2, data 1.2 2 cd", "write ef => 2, data 2.1 4 ef", "write gh => 2, data 2.2 6 gh", "write ij => 2, data 0.2 8 ij", "write kl => 2",
		"ack 0.1 2 0 100 => yes, data 0.3 10 kl", "write mn => 2, data 0.4 12 mn")
}

// Round: one behind the other, over all calls; a turn that can't be used is left out, and no turn is taken where nothing is sent.
func TestRound(t *testing.T) {
	row(t, three(api.Round), 1, begun, "write abcdefghijklmnopqrst => 20, data 0.1 0 abcd, data 1.1 4 efgh, data 2.1 8 ijkl, data 0.2 12 mnop, data 1.2 16 qrst", "ack 0.1 1 20 100 => yes", "write a => 1, data 2.2 20 a", "write b => 1, data 0.3 21 b",
		"write c => 1, data 0.4 22 c", "write d => 1", "ack 2.1 1 20 100 => yes, data 2.3 23 d", "ack 1.1 1 20 100 => yes", "write e => 1, data 1.3 24 e")
	row(t, three(api.Round), 1, begun, "write a => 1, data 0.1 0 a", "tick 1; tick 2; up 0; write ; read 3; join 0.1; data 0.1 0 x; ack 0.5 0 0 100", "write b => 1, data 1.1 1 b", "down 2 => yes", "write c => 1, data 0.4 2 c", "up 2 => yes", "write d => 1, data 1.2 3 d", "close => yes, data 2.1 4 .")
	// One that is behind takes no turn; where all are each piece goes over all of them, and no turn is taken.
	row(t, three(api.Round), 1, begun, "write a => 1, data 0.1 0 a", "tick 3 => yes, data 1.1 0 a", "write b => 1, data 2.1 1 b", "write c => 1, data 1.2 2 c", "write d => 1, data 2.2 3 d", "write e => 1, data 0.2 4 e", "write f => 1",
		"tick 6 => yes, data 1.3 0 abcd, data 2.3 0 abcd", "ack 1.1 3 0 100 => yes, data 1.4 5 f", "write g => 1, data 1.5 6 g")
	two := with(func(c *api.Config) { c.Sched = api.Round })
	row(t, two, 1, answered, "write ab => 2, data 0.1 0 ab", "write cd => 2, data 1.1 2 cd", "write e => 1, data 0.2 4 e", "tick 3 => yes, data 0.3 0 abcd, data 1.2 0 abcd", "ack 1.1 2 4 100 => yes, data 1.3 4 e", "ack 0.1 3 4 100 => yes",
		"write f => 1, data 0.4 5 f", "write g => 1, data 1.4 6 g")
	row(t, two, 1, answered, "write a => 1, data 0.1 0 a", "tick 3 => yes, data 1.1 0 a", "tick 6 => yes, data 0.2 0 a, data 1.2 0 a", "ack 1.1 2 1 100; ack 0.1 2 1 100 => yes", "write b => 1, data 0.3 1 b", "write c => 1, data 1.3 2 c")
}

// Redundant: over all that have room.
func TestRedundant(t *testing.T) {
	row(t, three(api.Redundant), 1, begun, "write abcdef => 6, data 0.1 0 abcd, data 1.1 0 abcd, data 2.1 0 abcd, data 0.2 4 ef, data 1.2 4 ef, data 2.2 4 ef", "write ghijkl => 6", "ack 1.1 1 0 100 => yes, data 1.3 6 ghij, data 1.4 10 kl",
		"ack 2.1 2 0 100 => yes", "write mn => 2, data 2.3 12 mn", "meter => 23 12 26 5 0 14 0 0", "write o => 1, data 2.4 14 o", "write p => 1")
	row(t, three(api.Redundant), 1, "up 0; up 1; up 2; join 0.0; join 2.0", "write abcd => 4, data 0.1 0 abcd, data 2.1 0 abcd", "down 2 => yes, data 0.2 0 abcd")
	// Not over one that is behind, but where all are.
	row(t, three(api.Redundant), 1, "up 0; up 1; join 0.0; join 1.0", "write a => 1, data 0.1 0 a, data 1.1 0 a", "tick 1; up 2; join 2.0", "write b => 1, data 0.2 1 b, data 1.2 1 b, data 2.1 1 b", "tick 3 => yes, data 2.2 0 a",
		"write c => 1", "ack 2.1 2 0 100 => yes, data 2.3 2 c", "tick 4 => yes, data 2.4 1 bc", "tick 7 => yes, data 0.3 1 bc, data 1.3 1 bc, data 2.5 1 bc")
}

// Where all that can be used are behind: all of these, in each of the ways; those that have no room are none of them.
func TestAllBehind(t *testing.T) {
	const all = "write abcdefghijklmnopqrst"
	row(t, three(api.Quickest), 1, begun, all+" => 20, data 0.1 0 abcd, data 0.2 4 efgh, data 1.1 8 ijkl, data 1.2 12 mnop, data 2.1 16 qrst", "tick 3 => yes, data 0.3 0 abcd, data 1.3 0 abcd, data 2.2 0 abcd",
		"down 1 => yes", "up 1 => yes, data 1.4 0 abcd", "ack 2.1 2 0 100 => yes, data 2.3 4 efgh, data 2.4 8 ijkl")
	row(t, three(api.Round), 1, begun, all+" => 20, data 0.1 0 abcd, data 1.1 4 efgh, data 2.1 8 ijkl, data 0.2 12 mnop, data 1.2 16 qrst", "tick 3 => yes, data 0.3 0 abcd, data 1.3 0 abcd, data 2.2 0 abcd",
		"down 1 => yes", "up 1 => yes, data 1.4 0 abcd", "ack 0.1 3 0 100 => yes, data 0.4 4 efgh, data 0.5 8 ijkl")
	row(t, three(api.Redundant), 1, begun, all+" => 20, data 0.1 0 abcd, data 1.1 0 abcd, data 2.1 0 abcd, data 0.2 4 efgh, data 1.2 4 efgh, data 2.2 4 efgh", "tick 3 => yes, data 0.3 0 abcd, data 1.3 0 abcd, data 2.3 0 abcd",
		"down 1 => yes", "up 1 => yes, data 1.4 0 abcd", "ack 1.1 4 0 100 => yes, data 1.5 4 efgh, data 1.6 8 ijkl")
}
