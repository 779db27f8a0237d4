package net_test

import (
	"bytes"
	"encoding/binary"
	"fmt"
	"hash/crc32"
	"math"
	"math/big"
	"slices"
	"strconv"
	"strings"
	"testing"

	"haulier/api"
	"haulier/net"
	"haulier/packet"
)

// full is how many are under way to one side at most.
const full = 200

// named is a packet, told by a letter, its kind, and a Number.
func named(name string) api.Packet {
	n, _ := strconv.Atoi(name[1:])
	switch name[0] {
	case 'j':
		return api.Packet{Kind: api.Join, Number: n}
	case 'o':
		return api.Packet{Kind: api.Joined, Path: 2, Number: n, Of: 9}
	case 'd':
		return api.Packet{Kind: api.Data, Path: 1, Number: n, From: 300, Data: []byte("hello"), Fin: true}
	case 'e':
		return api.Packet{Kind: api.Data, Number: n, From: 5}
	case 'g':
		return api.Packet{Kind: api.Data, Number: n, Data: bytes.Repeat([]byte{0xff}, api.MaxChunk)}
	case 'a':
		return api.Packet{Kind: api.Ack, Path: 2, Number: n, Of: api.MaxNumber, Seen: api.MaxBytes + 1, Limit: 64}
	}
	return api.Packet{Kind: 99}
}

// made is the same packet's bytes, made by hand (Numbers below 64).
func made(name string) []byte {
	n, _ := strconv.Atoi(name[1:])
	number := byte(n)
	var b []byte
	switch name[0] {
	case 'j':
		b = []byte{1, 0, number}
	case 'o':
		b = []byte{2, 2, number, 9}
	case 'd':
		b = []byte{3, 1, number, 0x41, 0x2c, 5, 'h', 'e', 'l', 'l', 'o', 1}
	case 'e':
		b = []byte{3, 0, number, 5, 0, 0}
	case 'g':
		b = append([]byte{3, 0, number, 0, 0x40, 64}, strings.Repeat("\xff", 64)+"\x00"...)
	case 'a':
		b = []byte{4, 2, number, 0x80, 0, 0xff, 0xff, 0x50, 1, 0x40, 64}
	}
	return binary.LittleEndian.AppendUint32(b, crc32.ChecksumIEEE(b))
}

// kinds are a letter of each kind of packets.
const kinds = "jodega"

// turned is b as one great number, of which the digits that mask has, from bit on, are turned; those past b's end are left out.
func turned(b []byte, bit int, mask uint32) []byte {
	size := len(b)
	up := slices.Clone(b)
	slices.Reverse(up)
	digits, of := new(big.Int).SetBytes(up), new(big.Int).SetUint64(uint64(mask))
	switch {
	case bit >= 8*size || bit <= -32:
		of.SetInt64(0)
	case bit >= 0:
		of.Lsh(of, uint(bit))
	default:
		of.Rsh(of, uint(-bit))
	}
	digits.Xor(digits, of)
	all := new(big.Int).Lsh(big.NewInt(1), uint(8*size))
	digits.And(digits, all.Sub(all, big.NewInt(1)))
	b = digits.FillBytes(make([]byte, size))
	slices.Reverse(b)
	return b
}

// thing is one that is under way.
type thing struct {
	to     int
	b      string
	spoilt bool
}

// model is a Net made by other means: one list of all that is under way, to both sides.
type model struct{ list []thing }

// find is where in the list that one is (none: -1).
func (m *model) find(to, at int) int {
	for i, one := range m.list {
		if one.to == to {
			if at == 0 {
				return i
			}
			at--
		}
	}
	return -1
}

func (m *model) count(to int) int {
	count := 0
	for _, one := range m.list {
		if one.to == to {
			count++
		}
	}
	return count
}

func (m *model) put(to int, name string) api.Errno {
	switch {
	case to != 0 && to != 1, !strings.Contains(kinds, name[:1]):
		return api.ErrArg
	case m.count(to) >= full:
		return api.ErrLimit
	}
	m.list = append(m.list, thing{to, string(made(name)), false})
	return api.OK
}

func (m *model) get(to, at int) (string, bool) {
	i := m.find(to, at)
	if i < 0 {
		return "", false
	}
	return m.list[i].b, true
}

func (m *model) take(to, at int) (string, bool) {
	b, ok := m.get(to, at)
	if ok {
		i := m.find(to, at)
		m.list = append(append([]thing{}, m.list[:i]...), m.list[i+1:]...)
	}
	return b, ok
}

func (m *model) again(to, at int) bool {
	i := m.find(to, at)
	if i < 0 || m.count(to) >= full {
		return false
	}
	m.list = append(m.list, m.list[i])
	return true
}

func (m *model) spoil(to, at, bit int, mask uint32) bool {
	i := m.find(to, at)
	if i < 0 || m.list[i].spoilt {
		return false
	}
	b := string(turned([]byte(m.list[i].b), bit, mask))
	if b == m.list[i].b {
		return false
	}
	m.list[i] = thing{to, b, true}
	return true
}

// pair is a Net, and the model of it.
type pair struct {
	n *net.Net
	m *model
}

func newPair() pair {
	return pair{net.New(), &model{}}
}

// like sees to it that there is just what the model has.
func (p pair) like(t *testing.T) {
	t.Helper()
	for to := -1; to <= 2; to++ {
		count := p.m.count(to)
		if got := p.n.Len(to); got != count {
			t.Fatalf("Len(%d) = %d, want %d", to, got, count)
		}
		for at := -1; at <= count; at++ {
			got, ok := p.n.Get(to, at)
			if want, there := p.m.get(to, at); string(got) != want || ok != there {
				t.Fatalf("Get(%d, %d) = %x, %t, want %x, %t", to, at, got, ok, want, there)
			}
		}
	}
}

// The calls of a pair see to it that the answer is the model's.

func (p pair) put(t *testing.T, to int, name string) api.Errno {
	t.Helper()
	got := p.n.Put(to, named(name))
	if want := p.m.put(to, name); got != want {
		t.Fatalf("Put(%d, %s) = %d, want %d", to, name, got, want)
	}
	return got
}

func (p pair) take(t *testing.T, to, at int) bool {
	t.Helper()
	b, ok := p.n.Take(to, at)
	if want, there := p.m.take(to, at); string(b) != want || ok != there {
		t.Fatalf("Take(%d, %d) = %x, %t, want %x, %t", to, at, b, ok, want, there)
	}
	return ok
}

func (p pair) again(t *testing.T, to, at int) bool {
	t.Helper()
	got := p.n.Again(to, at)
	if want := p.m.again(to, at); got != want {
		t.Fatalf("Again(%d, %d) = %t, want %t", to, at, got, want)
	}
	return got
}

func (p pair) spoil(t *testing.T, to, at, bit int, mask uint32) bool {
	t.Helper()
	got := p.n.Spoil(to, at, bit, mask)
	if want := p.m.spoil(to, at, bit, mask); got != want {
		t.Fatalf("Spoil(%d, %d, %d, %x) = %t, want %t", to, at, bit, mask, got, want)
	}
	return got
}

// step does a step, "put 0 j1", "take 0 2", "again 0 2" or "spoil 0 2 9 5", and tells whether it did something.
func (p pair) step(t *testing.T, s string) bool {
	t.Helper()
	words := strings.Fields(s)
	if words[0] == "put" {
		to, _ := strconv.Atoi(words[1])
		return p.put(t, to, words[2]) == api.OK
	}
	var n [4]int
	for i, word := range words[1:] {
		n[i], _ = strconv.Atoi(word)
	}
	switch words[0] {
	case "take":
		return p.take(t, n[0], n[1])
	case "again":
		return p.again(t, n[0], n[1])
	case "spoil":
		return p.spoil(t, n[0], n[1], n[2], uint32(n[3]))
	}
	t.Fatalf("no step: %q", s)
	return false
}

// behind is a pair behind the steps, which stand with a comma between.
func behind(t *testing.T, steps string) pair {
	t.Helper()
	p := newPair()
	for _, s := range strings.Split(steps, ",") {
		if s != "" {
			p.step(t, s)
			p.like(t)
		}
	}
	return p
}

// list is the bytes of what is told by names, "j1", or "j1^9.5", the same spoilt at the bit 9 by the mask 5.
func list(names string) []string {
	var all []string
	for _, name := range strings.Fields(names) {
		name, how, spoilt := strings.Cut(name, "^")
		b := made(name)
		if spoilt {
			bit, mask, _ := strings.Cut(how, ".")
			at, _ := strconv.Atoi(bit)
			of, _ := strconv.Atoi(mask)
			b = turned(b, at, uint32(of))
		}
		all = append(all, string(b))
	}
	return all
}

// way is the bytes of all that is under way to that side.
func way(n *net.Net, to int) []string {
	var all []string
	for at := range n.Len(to) {
		b, _ := n.Get(to, at)
		all = append(all, string(b))
	}
	return all
}

// there sees to it that behind the steps those are under way to the sides 0 and 1 that are told by names.
func there(t *testing.T, steps, zero, one string) {
	t.Helper()
	p := behind(t, steps)
	for to, names := range []string{zero, one} {
		if got, want := way(p.n, to), list(names); !slices.Equal(got, want) {
			t.Errorf("behind %q, to %d: %x, want %x", steps, to, got, want)
		}
	}
}

// does sees to it that behind the steps one more does something, or nothing.
func does(t *testing.T, steps, step string, want bool) {
	t.Helper()
	p := behind(t, steps)
	zero, one := way(p.n, 0), way(p.n, 1)
	if got := p.step(t, step); got != want {
		t.Errorf("behind %q: %s is %t", steps, step, got)
	}
	p.like(t)
	if same := slices.Equal(zero, way(p.n, 0)) && slices.Equal(one, way(p.n, 1)); same == want {
		t.Errorf("behind %q: %s leaves all as it was: %t", steps, step, same)
	}
}

// edges are numbers about 0, about 200, about both ends of what an int holds, and between.
func edges() []int {
	return []int{
		math.MinInt, math.MinInt + 1, -1 << 62, -1<<32 + 1, -1 << 32, -1 << 31, -256, -201, -200, -3, -2, -1, 0, 1, 2, 3, 4, 5,
		199, 200, 201, 255, 256, 1 << 16, 1 << 31, 1 << 32, 1<<32 + 1, 1 << 62, math.MaxInt - 1, math.MaxInt,
	}
}

func TestNew(t *testing.T) {
	n := net.New()
	for _, to := range edges() {
		if n.Len(to) != 0 {
			t.Errorf("Len(%d) = %d", to, n.Len(to))
		}
		for _, at := range edges() {
			if b, ok := n.Get(to, at); len(b) != 0 || ok {
				t.Errorf("Get(%d, %d) = %x, %t", to, at, b, ok)
			}
			if b, ok := n.Take(to, at); len(b) != 0 || ok {
				t.Errorf("Take(%d, %d) = %x, %t", to, at, b, ok)
			}
			if n.Again(to, at) || n.Spoil(to, at, 0, 1) || n.Spoil(to, at, at, math.MaxUint32) {
				t.Errorf("Again or Spoil of %d, %d", to, at)
			}
		}
	}
	if n.Len(0) != 0 || n.Len(1) != 0 {
		t.Error("something is under way")
	}
}

// The bytes of each kind of packets are packet.Pack's.
func TestPut(t *testing.T) {
	for i := range kinds {
		name := kinds[i:i+1] + "7"
		packed, e := packet.Pack(named(name))
		if e != api.OK || !bytes.Equal(packed, made(name)) {
			t.Fatalf("%s: %x, %d, want %x", name, packed, e, made(name))
		}
		there(t, "put 0 "+name, name, "")
		there(t, "put 1 "+name, "", name)
		there(t, "put 0 "+name+",put 1 "+name+",put 0 "+name, name+" "+name, name)
	}
	there(t, "put 0 j1,put 0 j2,put 1 j3", "j1 j2", "j3")
	there(t, "put 1 d1,put 0 a2,put 0 e3,put 1 g4,put 0 o5,put 1 j6", "a2 e3 o5", "d1 g4 j6")
	there(t, "put 0 j3,put 0 j2,put 0 j1", "j3 j2 j1", "")
	there(t, "put 0 j1,take 0 0,put 0 j2", "j2", "")
}

// refused are packets that packet.Pack refuses.
func refused() []api.Packet {
	join, joined := named("j1"), named("o1")
	data, ack := named("d1"), named("a1")
	var list []api.Packet
	with := func(p api.Packet, change func(*api.Packet)) {
		change(&p)
		list = append(list, p)
	}
	list = append(list, api.Packet{})
	for _, kind := range []int{-1, 5, 257, math.MinInt, math.MaxInt} {
		with(join, func(p *api.Packet) { p.Kind = kind })
	}
	for _, any := range []api.Packet{join, joined, data, ack} {
		for _, n := range []int{-1, api.MaxPaths, math.MinInt, math.MaxInt} {
			with(any, func(p *api.Packet) { p.Path = n })
		}
		for _, n := range []int{-1, api.MaxNumber + 1, math.MinInt, math.MaxInt} {
			with(any, func(p *api.Packet) { p.Number = n })
			with(any, func(p *api.Packet) { p.Of = n })
		}
		for _, n := range []int{-1, api.MaxBytes + 2, math.MinInt, math.MaxInt} {
			with(any, func(p *api.Packet) { p.From = n })
			with(any, func(p *api.Packet) { p.Seen = n })
		}
		for _, n := range []int{-1, api.MaxBytes + api.MaxWindow + 1, math.MinInt, math.MaxInt} {
			with(any, func(p *api.Packet) { p.Limit = n })
		}
		with(any, func(p *api.Packet) { p.Data = make([]byte, api.MaxChunk+1) })
	}
	for _, other := range []api.Packet{join, joined, ack} {
		with(other, func(p *api.Packet) { p.Data = []byte{0} })
		with(other, func(p *api.Packet) { p.Fin = true })
		with(other, func(p *api.Packet) { p.From = 1 })
	}
	with(data, func(p *api.Packet) { p.From = api.MaxBytes - 4 })
	with(data, func(p *api.Packet) { p.Of = 1 })
	with(data, func(p *api.Packet) { p.Seen = 1 })
	with(data, func(p *api.Packet) { p.Limit = 1 })
	return list
}

func TestPutRefused(t *testing.T) {
	for _, steps := range []string{"", "put 0 j1,put 1 d2,put 0 a3", "put 0 j1,spoil 0 0 0 1,again 0 0"} {
		p := behind(t, steps)
		for _, bad := range refused() {
			_, want := packet.Pack(bad)
			if want == api.OK {
				t.Fatalf("%+v is a packet", bad)
			}
			for to := -1; to <= 2; to++ {
				if got := p.n.Put(to, bad); got != want {
					t.Errorf("Put(%d, %+v) = %d, want %d", to, bad, got, want)
				}
			}
			p.like(t)
		}
		p.step(t, "put 0 j9")
		p.like(t)
	}
}

// The edges of what is a packet are one.
func TestPutEdges(t *testing.T) {
	n := net.New()
	for i, good := range []api.Packet{
		{Kind: api.Join, Path: api.MaxPaths - 1, Number: api.MaxNumber}, {Kind: api.Joined, Number: api.MaxNumber, Of: api.MaxNumber},
		{Kind: api.Data, From: api.MaxBytes, Fin: true}, {Kind: api.Data, From: api.MaxBytes - api.MaxChunk, Data: make([]byte, api.MaxChunk)},
		{Kind: api.Data}, {Kind: api.Ack}, {Kind: api.Ack, Of: api.MaxNumber, Seen: api.MaxBytes + 1, Limit: api.MaxBytes + api.MaxWindow},
	} {
		if e := n.Put(i%2, good); e != api.OK {
			t.Fatalf("Put(%+v) = %d", good, e)
		}
		b, _ := n.Get(i%2, i/2)
		if p, e := packet.Unpack(b); e != api.OK || !packet.Same(p, good) {
			t.Errorf("%+v, %d, want %+v", p, e, good)
		}
	}
}

// filled is a pair with so many under way to the sides 0 and 1, each another one.
func filled(t *testing.T, counts ...int) pair {
	t.Helper()
	p := newPair()
	for to, count := range counts {
		for i := range count {
			p.put(t, to, fmt.Sprint(kinds[i%len(kinds):i%len(kinds)+1], i%64))
		}
	}
	p.like(t)
	return p
}

func TestFull(t *testing.T) {
	for to := range 2 {
		for _, other := range []int{0, 1, full - 1, full} {
			counts := []int{other, other}
			counts[to] = full - 1
			p := filled(t, counts...)
			if p.put(t, to, "j1") != api.OK || p.n.Len(to) != full {
				t.Errorf("to %d, %d to the other: the 200th", to, other)
			}
			for range 2 {
				if e := p.put(t, to, "d2"); e != api.ErrLimit || p.n.Len(to) != full {
					t.Errorf("to %d, %d to the other: the 201st: %d", to, other, e)
				}
				p.like(t)
			}
			// What packet.Pack refuses it refuses ahead of that.
			for _, bad := range refused() {
				if e := p.n.Put(to, bad); e != api.ErrArg {
					t.Errorf("Put(%d, %+v) of 200 = %d", to, bad, e)
				}
			}
			p.like(t)
			want := api.OK
			if other == full {
				want = api.ErrLimit
			}
			if e := p.put(t, 1-to, "a3"); e != want {
				t.Errorf("to the other, with %d: %d", other, e)
			}
			p.like(t)
			// Where one went there is room again.
			if !p.take(t, to, 7) || p.put(t, to, "e4") != api.OK || p.put(t, to, "e5") != api.ErrLimit {
				t.Errorf("to %d: behind a Take", to)
			}
			p.like(t)
		}
	}
}

// At 199 and at 200: Again of each.
func TestAgainFull(t *testing.T) {
	for to := range 2 {
		for _, other := range []int{0, full} {
			counts := []int{other, other}
			counts[to] = full - 1
			p := filled(t, counts...)
			for at := range full - 1 {
				if !p.again(t, to, at) || p.n.Len(to) != full {
					t.Fatalf("Again(%d, %d) of 199", to, at)
				}
				p.like(t)
				for _, one := range []int{at, 0, full - 1, full, -1} {
					if p.again(t, to, one) {
						t.Fatalf("Again(%d, %d) of 200", to, one)
					}
				}
				p.like(t)
				p.take(t, to, full-1)
			}
			p.put(t, to, "j1")
			for at := -1; at <= full; at++ {
				if p.again(t, to, at) {
					t.Errorf("Again(%d, %d) of 200", to, at)
				}
			}
			p.like(t)
			if got := p.again(t, 1-to, 0); got {
				t.Errorf("Again to the other, with %d", other)
			}
			// One that is spoilt goes on being under way, and is spoilt where there is no room too.
			if !p.spoil(t, to, full-1, 0, 1) || p.again(t, to, full-1) || p.n.Len(to) != full {
				t.Errorf("Spoil(%d, 199) of 200", to)
			}
			p.like(t)
		}
	}
}

// A side that is neither 0 nor 1 has none, whatever is under way to the others.
func TestSides(t *testing.T) {
	for _, counts := range [][]int{{0, 0}, {3, 2}, {full, full}} {
		p := filled(t, counts...)
		for _, to := range edges() {
			if to == 0 || to == 1 {
				continue
			}
			if e := p.put(t, to, "j1"); e != api.ErrArg {
				t.Errorf("Put(%d) = %d", to, e)
			}
			if p.n.Len(to) != 0 {
				t.Errorf("Len(%d) = %d", to, p.n.Len(to))
			}
			for _, at := range edges() {
				if b, ok := p.n.Get(to, at); len(b) != 0 || ok {
					t.Errorf("Get(%d, %d) = %x, %t", to, at, b, ok)
				}
				if p.take(t, to, at) || p.again(t, to, at) || p.spoil(t, to, at, 0, 1) {
					t.Errorf("%d, %d did something", to, at)
				}
			}
		}
		p.like(t)
	}
}

// A place below 0, or past the last one, has none; each of the others has one.
func TestPlaces(t *testing.T) {
	for _, counts := range [][]int{{0, 0}, {1, 0}, {0, 1}, {3, 2}, {2, 5}, {200, 199}} {
		for to, count := range counts {
			for _, at := range append(edges(), count-1, count, count+1) {
				p := filled(t, counts...)
				is := at >= 0 && at < count
				if b, ok := p.n.Get(to, at); ok != is || (len(b) > 0) != is {
					t.Errorf("%v: Get(%d, %d) = %x, %t", counts, to, at, b, ok)
				}
				if got := p.spoil(t, to, at, 3, 1); got != is {
					t.Errorf("%v: Spoil(%d, %d) = %t", counts, to, at, got)
				}
				p.like(t)
				if got := p.again(t, to, at); got != (is && count < full) {
					t.Errorf("%v: Again(%d, %d) = %t", counts, to, at, got)
				}
				p.like(t)
				p = filled(t, counts...)
				if got := p.take(t, to, at); got != is {
					t.Errorf("%v: Take(%d, %d) = %t", counts, to, at, got)
				}
				p.like(t)
			}
		}
	}
}

func TestTake(t *testing.T) {
	const some = "put 0 j1,put 0 d2,put 1 e3,put 0 a4,put 0 o5,"
	there(t, some+"take 0 0", "d2 a4 o5", "e3")
	there(t, some+"take 0 1", "j1 a4 o5", "e3")
	there(t, some+"take 0 2", "j1 d2 o5", "e3")
	there(t, some+"take 0 3", "j1 d2 a4", "e3")
	there(t, some+"take 0 4", "j1 d2 a4 o5", "e3")
	there(t, some+"take 0 -1", "j1 d2 a4 o5", "e3")
	there(t, some+"take 1 0", "j1 d2 a4 o5", "")
	there(t, some+"take 1 0,take 1 0", "j1 d2 a4 o5", "")
	there(t, some+"take 0 0,take 0 0", "a4 o5", "e3")
	there(t, some+"take 0 3,take 0 3", "j1 d2 a4", "e3")
	there(t, some+"take 0 1,take 0 1,put 0 j6", "j1 o5 j6", "e3")
	there(t, some+"take 0 0,take 0 0,take 0 0,take 0 0,take 0 0", "", "e3")
	there(t, some+"take 0 3,take 0 2,take 0 1,take 0 0,put 0 g7", "g7", "e3")
	there(t, some+"spoil 0 1 9 5,take 0 0", "d2^9.5 a4 o5", "e3")
	there(t, some+"spoil 0 1 9 5,take 0 1", "j1 a4 o5", "e3")
	does(t, some, "take 0 0", true)
	does(t, some, "take 0 4", false)
	does(t, "put 0 j1,take 0 0", "take 0 0", false)
	does(t, "put 0 j1", "take 1 0", false)
}

func TestAgain(t *testing.T) {
	const some = "put 0 j1,put 0 d2,put 1 e3,put 0 a4,"
	there(t, some+"again 0 0", "j1 d2 a4 j1", "e3")
	there(t, some+"again 0 1", "j1 d2 a4 d2", "e3")
	there(t, some+"again 0 2", "j1 d2 a4 a4", "e3")
	there(t, some+"again 1 0", "j1 d2 a4", "e3 e3")
	there(t, some+"again 0 3", "j1 d2 a4", "e3")
	there(t, some+"again 0 -1", "j1 d2 a4", "e3")
	there(t, some+"again 0 1,again 0 3,again 0 0", "j1 d2 a4 d2 d2 j1", "e3")
	there(t, some+"again 0 1,put 0 o5,take 0 1", "j1 a4 d2 o5", "e3")
	there(t, some+"again 0 1,take 0 3", "j1 d2 a4", "e3")
	there(t, some+"take 0 1,again 0 1,again 0 0", "j1 a4 a4 j1", "e3")
	does(t, some, "again 0 2", true)
	does(t, some, "again 0 3", false)
	does(t, some, "again 1 1", false)
	does(t, "put 0 j1,take 0 0", "again 0 0", false)
}

// Each bit from well below 0 to well past the last one, with masks of few and of many digits.
func TestSpoil(t *testing.T) {
	masks := []uint32{0, 1, 2, 3, 5, 0x80, 0x100, 0x10001, 1 << 31, 1<<31 | 1, 0xdeadbeef, math.MaxUint32}
	for i := range kinds {
		name := kinds[i:i+1] + "3"
		was := made(name)
		bits := slices.Concat(edges(), []int{math.MinInt + 31, math.MinInt + 32, math.MaxInt - 31, math.MaxInt - 32})
		for bit := -40; bit <= 8*len(was)+5; bit++ {
			bits = append(bits, bit)
		}
		for _, bit := range bits {
			for _, mask := range masks {
				p := behind(t, "put 1 j1,put 1 "+name+",put 1 j2,put 0 "+name)
				want := turned(was, bit, mask)
				if got := p.spoil(t, 1, 1, bit, mask); got == bytes.Equal(was, want) {
					t.Fatalf("%s: Spoil at %d by %x is %t", name, bit, mask, got)
				}
				if got, _ := p.n.Get(1, 1); !bytes.Equal(got, want) {
					t.Fatalf("%s, Spoil at %d by %x: %x, want %x", name, bit, mask, got, want)
				}
				p.like(t)
				// What comes so is no packet any more.
				if _, e := packet.Unpack(want); (e == api.OK) != bytes.Equal(was, want) {
					t.Fatalf("%s, Spoil at %d by %x: %x is a packet", name, bit, mask, want)
				}
			}
		}
	}
}

func TestSpoilEdges(t *testing.T) {
	// A Join of a Number below 64 has seven bytes, 56 digits.
	for _, r := range []struct {
		step string
		want bool
	}{
		{"spoil 0 0 3 0", false}, {"spoil 0 0 0 0", false}, {"spoil 0 0 -1 0", false}, {"spoil 0 0 55 0", false},
		{"spoil 0 0 0 1", true}, {"spoil 0 0 55 1", true}, {"spoil 0 0 56 1", false}, {"spoil 0 0 57 1", false}, {"spoil 0 0 55 2", false}, {"spoil 0 0 55 3", true}, {"spoil 0 0 54 2", true},
		{"spoil 0 0 -1 1", false}, {"spoil 0 0 -1 2", true}, {"spoil 0 0 -1 3", true}, {"spoil 0 0 -31 2147483648", true}, {"spoil 0 0 -31 2147483647", false}, {"spoil 0 0 -32 4294967295", false},
		{"spoil 0 0 999 1", false}, {"spoil 0 0 56 4294967295", false}, {"spoil 0 0 24 4294967295", true}, {"spoil 0 0 55 4294967295", true}, {"spoil 0 0 55 4294967294", false},
		{"spoil 0 1 0 1", false}, {"spoil 0 -1 0 1", false}, {"spoil 1 0 0 1", false}, {"spoil 2 0 0 1", false}, {"spoil -1 0 0 1", false},
	} {
		does(t, "put 0 j1", r.step, r.want)
		// One that was spoilt once is so for good, whatever is asked for then.
		does(t, "put 0 j1,spoil 0 0 9 1", r.step, false)
		// A Spoil that did nothing leaves the next one all it may do.
		does(t, "put 0 j1,spoil 0 0 56 1,spoil 0 0 3 0,spoil 0 0 -1 1", r.step, r.want)
	}
	there(t, "put 0 j1,put 0 d2,put 0 a3,spoil 0 1 9 5", "j1 d2^9.5 a3", "")
	there(t, "put 0 j1,put 1 j1,spoil 1 0 9 5", "j1", "j1^9.5")
	there(t, "put 0 j1,put 0 j1,spoil 0 0 9 5,spoil 0 1 8 3", "j1^9.5 j1^8.3", "")
	there(t, "put 0 j1,spoil 0 0 9 5,spoil 0 0 9 5", "j1^9.5", "")
}

// What was doubled behind its Spoil is spoilt already, and so is what that is doubled of, and what is doubled of it.
func TestSpoilThenAgain(t *testing.T) {
	const both = "put 0 j1,spoil 0 0 9 5,again 0 0"
	there(t, both, "j1^9.5 j1^9.5", "")
	for _, by := range []string{" 9 5", " 0 1", " 55 1", " 9 4"} {
		does(t, both, "spoil 0 1"+by, false)
		does(t, both, "spoil 0 0"+by, false)
		does(t, both+",take 0 0", "spoil 0 0"+by, false)
		does(t, both+",take 0 1", "spoil 0 0"+by, false)
		does(t, both+",again 0 1", "spoil 0 2"+by, false)
		does(t, both+",again 0 1,take 0 0,take 0 0", "spoil 0 0"+by, false)
		does(t, both+",put 0 j1", "spoil 0 2"+by, true)
		does(t, both+",put 1 j1", "spoil 1 0"+by, true)
	}
	there(t, both+",put 0 j1,spoil 0 2 8 3,spoil 0 1 8 3,spoil 0 0 8 3", "j1^9.5 j1^9.5 j1^8.3", "")
}

// What was doubled ahead of its Spoil goes its own way: each of both is spoilt once, in either order.
func TestAgainThenSpoil(t *testing.T) {
	const both = "put 0 j1,again 0 0,"
	there(t, both+"spoil 0 0 9 5", "j1^9.5 j1", "")
	there(t, both+"spoil 0 1 9 5", "j1 j1^9.5", "")
	there(t, both+"spoil 0 0 9 5,spoil 0 1 8 3", "j1^9.5 j1^8.3", "")
	there(t, both+"spoil 0 1 9 5,spoil 0 0 8 3", "j1^8.3 j1^9.5", "")
	there(t, both+"spoil 0 0 9 5,spoil 0 1 9 5,spoil 0 0 9 5,spoil 0 1 9 5", "j1^9.5 j1^9.5", "")
	for _, r := range []struct {
		steps, step string
		want        bool
	}{
		{"spoil 0 0 9 5", "spoil 0 1 9 5", true}, {"spoil 0 1 9 5", "spoil 0 0 9 5", true}, {"spoil 0 0 9 5", "spoil 0 0 9 5", false}, {"spoil 0 1 9 5", "spoil 0 1 9 5", false},
		{"spoil 0 0 9 5,spoil 0 1 9 5", "spoil 0 0 1 1", false}, {"spoil 0 0 9 5,spoil 0 1 9 5", "spoil 0 1 1 1", false}, {"spoil 0 0 9 5,take 0 0", "spoil 0 0 9 5", true}, {"spoil 0 1 9 5,take 0 0", "spoil 0 0 1 1", false},
		{"spoil 0 0 9 5,again 0 0,again 0 1", "spoil 0 2 1 1", false}, {"spoil 0 0 9 5,again 0 0,again 0 1", "spoil 0 3 1 1", true},
	} {
		does(t, both+r.steps, r.step, r.want)
	}
}

// Each row of up to four steps over fourteen.
func TestEachRow(t *testing.T) {
	steps := []string{
		"put 0 j1", "put 0 d2", "put 1 j1", "put 0 ?", "put 2 j1", "take 0 0", "take 0 1", "take 1 0", "again 0 0", "again 0 1", "again 1 0",
		"spoil 0 0 9 5", "spoil 0 1 -1 2", "spoil 1 0 55 2",
	}
	var row []string
	var each func(left int)
	each = func(left int) {
		p := newPair()
		for _, s := range row {
			p.step(t, s)
			p.like(t)
		}
		if t.Failed() {
			t.Fatalf("in %q", row)
		}
		if left == 0 {
			return
		}
		for _, s := range steps {
			row = append(row, s)
			each(left - 1)
			row = row[:len(row)-1]
		}
	}
	each(4)
}

// chance is a row of numbers, the same each time.
type chance uint64

func (c *chance) below(n int) int {
	*c = *c*6364136223846793005 + 1442695040888963407
	return int(uint64(*c) >> 33 % uint64(n))
}

// any is some step, more or less often one that makes more of them, with numbers that are there, or are not.
func (c *chance) any(p pair, more int) string {
	to := c.below(2)
	if c.below(20) == 0 {
		to = c.below(5) - 2
	}
	at := c.below(p.m.count(to)+2) - 1
	if c.below(more) > 0 {
		if c.below(3) == 0 {
			return fmt.Sprintf("again %d %d", to, at)
		}
		return fmt.Sprintf("put %d %c%d", to, (kinds + "?")[c.below(len(kinds)+1)], c.below(64))
	}
	if c.below(2) == 0 {
		return fmt.Sprintf("take %d %d", to, at)
	}
	return fmt.Sprintf("spoil %d %d %d %d", to, at, c.below(700)-40, uint32(c.below(1<<31))>>c.below(32))
}

func TestLongRows(t *testing.T) {
	for seed := range 60 {
		c := chance(seed)
		p := newPair()
		most := 0
		for i := range 900 {
			// Some rows come to 200, and stay about that; others stay short.
			p.step(t, c.any(p, 1+(seed+i/300)%4))
			if i%7 == 0 {
				p.like(t)
			}
			most = max(most, p.n.Len(0), p.n.Len(1))
		}
		p.like(t)
		if most > full {
			t.Errorf("%d: %d are under way", seed, most)
		}
	}
}

// Several at once: each goes its own way.
func TestSeveral(t *testing.T) {
	c := chance(5)
	var pairs []pair
	for range 5 {
		pairs = append(pairs, newPair())
	}
	for range 3000 {
		p := pairs[c.below(len(pairs))]
		p.step(t, c.any(p, 2))
	}
	for _, p := range pairs {
		p.like(t)
	}
}

// overwrite writes to all of b's memory, behind its length as well.
func overwrite(b []byte) {
	b = b[:cap(b)]
	for i := range b {
		b[i] ^= 0xa5
	}
}

// What is handed in stays its owner's: it is neither changed nor kept.
func TestMemoryIn(t *testing.T) {
	memory := []byte("??hello??")
	p := named("d7")
	p.Data = memory[2:7]
	n := net.New()
	for range 3 {
		if e := n.Put(0, p); e != api.OK || string(memory) != "??hello??" {
			t.Fatalf("%d, %q", e, memory)
		}
	}
	overwrite(p.Data)
	if !n.Again(0, 0) || !n.Spoil(0, 1, 9, 5) {
		t.Error("false")
	}
	if got, want := way(n, 0), list("d7 d7^9.5 d7 d7"); !slices.Equal(got, want) {
		t.Errorf("%x, want %x", got, want)
	}
}

// What is handed out is new memory: whoever changes it, the next answers are as they would have been.
func TestMemoryOut(t *testing.T) {
	c := chance(9)
	p := newPair()
	for range 2000 {
		to, at := c.below(2), c.below(6)
		for range 2 {
			b, _ := p.n.Get(to, at)
			overwrite(b)
		}
		p.like(t)
		switch c.below(3) {
		case 0:
			b, ok := p.n.Take(to, at)
			if want, is := p.m.take(to, at); string(b) != want || ok != is {
				t.Fatalf("Take(%d, %d) = %x, %t", to, at, b, ok)
			}
			overwrite(b)
		default:
			p.step(t, c.any(p, 3))
		}
		p.like(t)
	}
}

// Of two that are the same once more each has memory of its own, whichever is handed out first.
func TestMemoryOfAgain(t *testing.T) {
	for _, first := range []int{0, 1} {
		for _, steps := range []string{"put 0 d7,again 0 0", "put 0 d7,spoil 0 0 9 5,again 0 0"} {
			p := behind(t, steps)
			want, _ := p.n.Get(0, 1-first)
			b, _ := p.n.Take(0, first)
			overwrite(b)
			if left, ok := p.n.Get(0, 0); !ok || !bytes.Equal(left, want) {
				t.Errorf("behind %q: %x, want %x", steps, left, want)
			}
		}
	}
}

// What one that went was does not hang on what comes then.
func TestMemoryOfTaken(t *testing.T) {
	p := behind(t, "put 0 j1,put 0 d2,put 0 a3")
	b, _ := p.n.Get(0, 1)
	c, _ := p.n.Take(0, 1)
	p.m.take(0, 1)
	for _, s := range []string{"put 0 g4", "take 0 0", "spoil 0 0 9 5", "again 0 1", "put 0 d5"} {
		p.step(t, s)
	}
	p.like(t)
	if want := made("d2"); !bytes.Equal(b, want) || !bytes.Equal(c, want) {
		t.Errorf("%x, %x, want %x", b, c, want)
	}
}
