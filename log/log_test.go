package log_test

import (
	"bytes"
	"fmt"
	"maps"
	"math"
	"math/rand/v2"
	"slices"
	"strings"
	"testing"

	"haulier/api"
	"haulier/event"
	"haulier/log"
	"haulier/segment"
	"haulier/store"
)

// Of the events that these tests use most: a head has headSize bytes (below the number 64), the record of a tick tickSize, a foot footSize.
const (
	headSize = 7
	tickSize = 9
	footSize = 8
)

func tick(n int) api.Event {
	return api.Event{Kind: api.Ticked, N: 1000 + n}
}

func ticks(from, to int) (l []api.Event) {
	for n := from; n < to; n++ {
		l = append(l, tick(n))
	}
	return l
}

// wrote is an event whose record has size + 8 bytes, for a size from 1 to 56.
func wrote(size int) api.Event {
	return api.Event{Kind: api.Wrote, Data: filled(size)}
}

func filled(size int) []byte {
	b := make([]byte, size)
	for i := range b {
		b[i] = byte(7*i + 1)
	}
	return b
}

// numbers are any numbers at all, and those at the bounds of sizes and of counts of segments.
func numbers() []int {
	return []int{
		math.MinInt, math.MinInt + 1, -1 << 32, -1 << 31, -1024, -32, -1, 0, 1, 2, 30, 31, 32, 33, 100, 1023, 1024, 1025, 4096,
		1<<31 - 1, 1 << 31, 1<<32 + 32, api.MaxVint, math.MaxInt - 1, math.MaxInt,
	}
}

// recordOf is the record of an event that may be.
func recordOf(e api.Event) []byte {
	b, _ := event.Pack(e)
	return segment.Record(b)
}

// begun is a segment that is not ended, of those events.
func begun(number int, events ...api.Event) []byte {
	b := segment.Head(number)
	for _, e := range events {
		b = append(b, recordOf(e)...)
	}
	return b
}

// ended is a segment with its foot.
func ended(number int, events ...api.Event) []byte {
	return cat(begun(number, events...), segment.Foot(number, len(events)))
}

// cat is the lists, one behind the other.
func cat(lists ...[]byte) []byte {
	return bytes.Join(lists, nil)
}

// spoilt is b with a digit of the byte at that place turned.
func spoilt(b []byte, at int) []byte {
	b = bytes.Clone(b)
	b[at] ^= 4
	return b
}

// blocks are those of a store.
type blocks map[int][]byte

// stored is a store of those blocks, all synced or none.
func stored(l blocks, synced bool) *store.Store {
	s := store.New()
	for number, b := range l {
		s.Append(number, b)
		if synced {
			s.Sync(number)
		}
	}
	return s
}

// kept is what a store has: its blocks, and whether it is dead.
func kept(s *store.Store) string {
	var out strings.Builder
	for _, number := range s.Blocks() {
		b, _ := s.Read(number)
		fmt.Fprintf(&out, " %d:%x", number, b)
	}
	if s.Dead() {
		out.WriteString(" dead")
	}
	return out.String()
}

// safe is what a store has behind a crash that keeps nothing but what was synced.
func safe(s *store.Store) string {
	c := s.Clone()
	c.Crash(0)
	return kept(c)
}

// keeps sees to it that a store has just those blocks, and is dead or not.
func keeps(t *testing.T, what string, s *store.Store, want blocks, dead bool) {
	t.Helper()
	text := kept(stored(want, true))
	if dead {
		text += " dead"
	}
	if got := kept(s); got != text {
		t.Errorf("%s: the store has%s, want%s", what, got, text)
	}
}

// answered sees to it that a call answers just that.
func answered(t *testing.T, what string, got, want api.Errno) {
	t.Helper()
	if got != want {
		t.Errorf("%s: %d, want %d", what, got, want)
	}
}

// account is all that a log tells.
type account struct {
	events   []api.Event
	first    int
	segments []int
	dead     bool
}

func (a account) String() string {
	return fmt.Sprintf("%v, first %d, segments %v, dead %v", a.events, a.first, a.segments, a.dead)
}

func accountOf(l *log.Log) account {
	return account{l.Events(), l.First(), l.Segments(), l.Dead()}
}

func (a account) same(b account) bool {
	return event.All(a.events, b.events) && a.first == b.first && slices.Equal(a.segments, b.segments) && a.dead == b.dead
}

// tells sees to it that a log tells just that.
func tells(t *testing.T, what string, l *log.Log, want account) {
	t.Helper()
	if got := accountOf(l); !got.same(want) {
		t.Errorf("%s: %v, want %v", what, got, want)
	}
}

// opened is a log that there has to be.
func opened(t *testing.T, s *store.Store, size, most int) *log.Log {
	t.Helper()
	l, e := log.Open(s, size, most)
	if e != api.OK || l == nil {
		t.Fatalf("Open: %v, %d", l, e)
	}
	return l
}

// added puts events to a log, all of them right.
func added(t *testing.T, l *log.Log, events ...api.Event) {
	t.Helper()
	for _, e := range events {
		answered(t, fmt.Sprint("Add ", e), l.Add(e), api.OK)
	}
}

// refused sees to it that Open answers that error, and no log.
func refused(t *testing.T, what string, s *store.Store, size, most int, want api.Errno) {
	t.Helper()
	if l, e := log.Open(s, size, most); l != nil || e != want {
		t.Errorf("%s: Open: %v, %d, want %d", what, l, e, want)
	}
}

// P10.1: any numbers as size and most: the error is met ahead of all that the store is, and the store stays as it is.
func TestOpenArguments(t *testing.T) {
	for _, size := range numbers() {
		for _, most := range numbers() {
			what := fmt.Sprintf("size %d, most %d", size, most)
			torn := blocks{1: cat(ended(1, tick(1)), []byte("torn"))}
			s := stored(torn, false)
			if size >= 32 && size <= api.MaxSeg && most >= 1 {
				tells(t, what, opened(t, s, size, most), account{ticks(1, 2), 0, []int{1}, false})
				keeps(t, what, s, blocks{1: ended(1, tick(1))}, false)
				refused(t, what, stored(blocks{2: ended(1)}, false), size, most, api.ErrCorrupt)
				continue
			}
			refused(t, what, s, size, most, api.ErrArg)
			keeps(t, what, s, torn, false)
			s.Fuse(0)
			refused(t, what+", a Fuse", s, size, most, api.ErrArg)
			keeps(t, what+", a Fuse", s, torn, false)
			s.Sync(1)
			refused(t, what+", dead", s, size, most, api.ErrArg)
			keeps(t, what+", dead", s, torn, true)
			refused(t, what+", corrupt", stored(blocks{2: ended(1)}, false), size, most, api.ErrArg)
			refused(t, what+", new", store.New(), size, most, api.ErrArg)
		}
	}
}

// P10.1, P10.2: of a new store there is a log without anything, and Open does nothing to the store.
func TestOpenOfNew(t *testing.T) {
	s := store.New()
	s.Fuse(0)
	l := opened(t, s, 32, 1)
	tells(t, "new", l, account{})
	answered(t, "Sync without a block", l.Sync(), api.OK)
	tells(t, "new, Sync", l, account{})
	keeps(t, "new", s, nil, false)
}

// mended are stores that are a log's, but for the end of the last block: what they are when they are opened.
func mended() map[string]struct{ before, after blocks } {
	a, b := tick(1), tick(2)
	one := ended(1, a)
	return map[string]struct{ before, after blocks }{
		"nothing":                     {nil, nil},
		"one that is ended":           {blocks{1: one}, blocks{1: one}},
		"one that is not":             {blocks{1: begun(1, a)}, blocks{1: begun(1, a)}},
		"ended without events":        {blocks{1: ended(1)}, blocks{1: ended(1)}},
		"a head alone":                {blocks{1: begun(1)}, blocks{1: begun(1)}},
		"a head alone, behind one":    {blocks{1: one, 2: begun(2)}, blocks{1: one, 2: begun(2)}},
		"two that are ended":          {blocks{1: one, 2: ended(2, b, a)}, blocks{1: one, 2: ended(2, b, a)}},
		"three":                       {blocks{1: one, 2: ended(2), 3: begun(3, b)}, blocks{1: one, 2: ended(2), 3: begun(3, b)}},
		"from 5 on":                   {blocks{5: ended(5, a), 6: begun(6, b)}, blocks{5: ended(5, a), 6: begun(6, b)}},
		"5 alone":                     {blocks{5: begun(5, b)}, blocks{5: begun(5, b)}},
		"at the size of numbers":      {blocks{63: ended(63, a), 64: ended(64, b), 65: begun(65)}, blocks{63: ended(63, a), 64: ended(64, b), 65: begun(65)}},
		"half a record":               {blocks{1: cat(begun(1, a), recordOf(b)[:5])}, blocks{1: begun(1, a)}},
		"half a record first":         {blocks{1: cat(begun(1), recordOf(b)[:1])}, blocks{1: begun(1)}},
		"half a record, behind one":   {blocks{1: one, 2: cat(begun(2, a, b), recordOf(b)[:8])}, blocks{1: one, 2: begun(2, a, b)}},
		"a spoilt record":             {blocks{1: cat(begun(1, a), spoilt(recordOf(b), 3))}, blocks{1: begun(1, a)}},
		"a right one behind a wrong":  {blocks{1: cat(begun(1, a), spoilt(recordOf(b), 3), recordOf(b))}, blocks{1: begun(1, a)}},
		"half a foot":                 {blocks{1: one[:len(one)-1]}, blocks{1: begun(1, a)}},
		"a foot of another number":    {blocks{1: cat(begun(1, a), segment.Foot(2, 1))}, blocks{1: begun(1, a)}},
		"a foot of another count":     {blocks{1: cat(begun(1, a), segment.Foot(1, 2))}, blocks{1: begun(1, a)}},
		"a byte behind the foot":      {blocks{1: cat(one, []byte{0})}, blocks{1: one}},
		"a record behind the foot":    {blocks{1: cat(one, recordOf(b))}, blocks{1: one}},
		"no event behind the foot":    {blocks{1: cat(one, segment.Record([]byte{99}))}, blocks{1: one}},
		"the foot again":              {blocks{1: cat(one, segment.Foot(1, 1))}, blocks{1: one}},
		"a segment behind the foot":   {blocks{1: one, 2: cat(ended(2, b), ended(3, a))}, blocks{1: one, 2: ended(2, b)}},
		"no head":                     {blocks{1: {9}}, nil},
		"no head, behind one":         {blocks{1: one, 2: {9}}, blocks{1: one}},
		"half a head":                 {blocks{1: segment.Head(1)[:6]}, nil},
		"half a head, behind two":     {blocks{3: ended(3, a), 4: ended(4, b), 5: segment.Head(5)[:1]}, blocks{3: ended(3, a), 4: ended(4, b)}},
		"an empty block":              {blocks{1: nil}, nil},
		"an empty block 7":            {blocks{7: nil}, nil},
		"an empty block behind one":   {blocks{1: one, 2: nil}, blocks{1: one}},
		"a spoilt head":               {blocks{1: spoilt(one, 2)}, nil},
		"a spoilt head, behind one":   {blocks{1: one, 2: spoilt(ended(2, b), 1)}, blocks{1: one}},
		"a record without a head":     {blocks{1: one, 2: recordOf(b)}, blocks{1: one}},
		"a foot without a head":       {blocks{1: segment.Foot(1, 0)}, nil},
		"no event, without a head":    {blocks{1: segment.Record([]byte{99})}, nil},
		"the greatest numbers":        {blocks{api.MaxVint - 1: ended(api.MaxVint-1, a), api.MaxVint: begun(api.MaxVint, b)}, blocks{api.MaxVint - 1: ended(api.MaxVint-1, a), api.MaxVint: begun(api.MaxVint, b)}},
		"a number that has no head":   {blocks{api.MaxVint: ended(api.MaxVint, a), api.MaxVint + 1: {1}}, blocks{api.MaxVint: ended(api.MaxVint, a)}},
		"the greatest int, no head":   {blocks{math.MaxInt: {1, 2, 3}}, nil},
		"great events":                {blocks{1: ended(1, wrote(api.MaxBytes)), 2: begun(2, wrote(64))}, blocks{1: ended(1, wrote(api.MaxBytes)), 2: begun(2, wrote(64))}},
		"more than MaxSeg, not ended": {blocks{1: begun(1, ticks(0, 300)...)}, blocks{1: begun(1, ticks(0, 300)...)}},
	}
}

// eventsOf are the events of segments that are right.
func eventsOf(l blocks) (all []api.Event) {
	for _, number := range slices.Sorted(maps.Keys(l)) {
		for _, record := range segment.Scan(l[number]).Records {
			one, _, _ := event.Unpack(record)
			all = append(all, one...)
		}
	}
	return all
}

// P10.1, P10.3: what a crash may have left: it is mended, synced as far as it was cut, opened once more it is the same, and goes on.
func TestMended(t *testing.T) {
	for what, c := range mended() {
		for _, synced := range []bool{false, true} {
			s := stored(c.before, synced)
			want := account{eventsOf(c.after), 0, slices.Sorted(maps.Keys(c.after)), false}
			tells(t, what, opened(t, s, 32, 9), want)
			keeps(t, what, s, c.after, false)
			// Nothing is to be mended any more: were there an act, the Fuse would stop it.
			s.Fuse(0)
			l := opened(t, s, 100, 1)
			tells(t, what+", once more", l, want)
			keeps(t, what+", once more", s, c.after, false)
			if len(c.after[api.MaxVint]) > 0 {
				continue
			}
			s.Crash(math.MaxInt)
			l = opened(t, s, 1024, 9)
			added(t, l, tick(9), wrote(20))
			goneOn := append(want.events, tick(9), wrote(20))
			if got := l.Events(); !event.All(got, goneOn) {
				t.Errorf("%s, gone on: %v, want %v", what, got, goneOn)
			}
			if got := opened(t, s, 32, 1).Events(); !event.All(got, goneOn) {
				t.Errorf("%s, gone on, once more: %v, want %v", what, got, goneOn)
			}
		}
	}
}

// P10.1: a Cut of the last block syncs it; where nothing is cut, nothing is synced.
func TestMendedIsSynced(t *testing.T) {
	for what, c := range mended() {
		s := stored(c.before, false)
		want := ""
		for _, number := range s.Blocks() {
			if len(c.after[number]) > 0 && len(c.after[number]) < len(c.before[number]) {
				want = kept(stored(blocks{number: c.after[number]}, true))
			}
		}
		opened(t, s, 32, 9)
		if got := safe(s); got != want {
			t.Errorf("%s: synced is%s, want%s", what, got, want)
		}
	}
}

// corrupt are stores that are no log's.
func corrupt() map[string]blocks {
	a, b := tick(1), tick(2)
	one, two := ended(1, a), ended(2, b)
	none, both := segment.Record([]byte{99}), segment.Record([]byte{api.Closed, api.Closed})
	return map[string]blocks{
		"a number left out":                      {1: one, 3: ended(3, b)},
		"a number left out, later":               {1: one, 2: two, 4: begun(4, a)},
		"many numbers left out":                  {1: one, 1 << 33: begun(1<<33, a)},
		"a number left out, a head alone":        {1: one, 3: begun(3)},
		"a number left out, no head":             {1: one, 3: {9}},
		"a number left out, an empty block":      {1: one, 3: nil},
		"a number left out, the greatest":        {1: one, math.MaxInt: nil},
		"the number of the next one":             {1: ended(2, a)},
		"the number of the next one, open":       {1: begun(2, a)},
		"the number of the one ahead":            {2: ended(1, a)},
		"the number of the one ahead, open":      {2: begun(1)},
		"the same segment twice":                 {1: one, 2: one},
		"the same, the last one open":            {1: one, 2: begun(1, b)},
		"the same, the last one torn":            {1: one, 2: cat(begun(1, b), []byte{1})},
		"the first is of another number":         {1: ended(3, a), 2: two},
		"turned round":                           {1: two, 2: one},
		"one that is between is another's":       {1: one, 2: ended(4, b), 3: ended(3, a)},
		"a number that has no head":              {api.MaxVint + 1: begun(1, a)},
		"the greatest int":                       {math.MaxInt: one},
		"an open one that is not the last":       {1: begun(1, a), 2: two},
		"an open one ahead of an open one":       {1: begun(1, a), 2: begun(2, b)},
		"an open one ahead of no head":           {1: begun(1, a), 2: {9}},
		"an open one ahead of an empty block":    {1: begun(1, a), 2: nil},
		"an open one between":                    {1: one, 2: begun(2), 3: ended(3)},
		"a head alone that is not the last":      {1: begun(1), 2: two},
		"half a record, not the last":            {1: cat(begun(1, a), recordOf(b)[:4]), 2: two},
		"half a foot, not the last":              {1: one[:len(one)-1], 2: two},
		"a foot of another count, not the last":  {1: cat(begun(1, a), segment.Foot(1, 2)), 2: two},
		"a foot of another number, not the last": {1: cat(begun(1, a), segment.Foot(2, 1)), 2: two},
		"a byte behind the foot, not the last":   {1: cat(one, []byte{0}), 2: two},
		"a record behind the foot, not the last": {1: cat(one, recordOf(b)), 2: two},
		"the foot again, not the last":           {1: cat(one, segment.Foot(1, 1)), 2: two},
		"no head, not the last":                  {1: {9}, 2: two},
		"no head, twice":                         {1: {9}, 2: {9}},
		"an empty block, not the last":           {1: nil, 2: two},
		"an empty block, twice":                  {1: one, 2: nil, 3: nil},
		"a spoilt head, not the last":            {1: spoilt(one, 2), 2: two},
		"a spoilt record, not the last":          {1: spoilt(one, headSize+2), 2: two},
		"a spoilt foot, not the last":            {1: spoilt(one, headSize+tickSize+2), 2: two},
		"a record that is no event":              {1: cat(begun(1), none)},
		"no event, behind one":                   {1: cat(begun(1, a), none)},
		"no event, ahead of one":                 {1: cat(begun(1), none, recordOf(a))},
		"no event, and a foot":                   {1: cat(begun(1), none, segment.Foot(1, 1))},
		"no event, not the last":                 {1: cat(begun(1), none, segment.Foot(1, 1)), 2: two},
		"no event, in the last":                  {1: one, 2: cat(begun(2, b), none)},
		"no event, then half a record":           {1: one, 2: cat(begun(2, b), none, recordOf(a)[:3])},
		"no event, then bytes behind the foot":   {1: cat(begun(1), none, segment.Foot(1, 1), []byte{7, 7})},
		"an empty record":                        {1: cat(begun(1), segment.Record(nil))},
		"an empty record, not the last":          {1: cat(begun(1), segment.Record(nil), segment.Foot(1, 1)), 2: two},
		"two events in a record":                 {1: cat(begun(1), both)},
		"two events in a record, ended":          {1: cat(begun(1), both, segment.Foot(1, 1))},
		"two events in a record, not the last":   {1: cat(begun(1), both, segment.Foot(1, 1)), 2: two},
		"two events, then no head":               {1: cat(begun(1), both, segment.Foot(1, 1)), 2: {9}},
		"an event, and a byte":                   {1: cat(begun(1), segment.Record([]byte{api.Closed, 0}))},
		"half an event":                          {1: cat(begun(1), segment.Record([]byte{api.Ticked, 0x41}))},
		"an event that may not be":               {1: cat(begun(1), segment.Record([]byte{api.Ticked, 0}))},
	}
}

// P10.1: a store that is no log's is refused; it stays as it is, its Fuse as well: no act is asked for, whatever is torn.
func TestCorrupt(t *testing.T) {
	for what, c := range corrupt() {
		for _, most := range []int{1, 9} {
			s := stored(c, false)
			refused(t, what, s, 32, most, api.ErrCorrupt)
			keeps(t, what, s, c, false)
			if got := safe(s); got != "" {
				t.Errorf("%s: %s was synced", what, got)
			}
			s.Fuse(0)
			refused(t, what+", a Fuse", s, 1024, most, api.ErrCorrupt)
			keeps(t, what+", a Fuse", s, c, false)
			s.Append(1, nil)
			refused(t, what+", dead", s, 32, most, api.ErrCorrupt)
			keeps(t, what+", dead", s, c, true)
		}
	}
}

// P10.1: of a store that is dead there is a log where nothing is to be mended; else the act's error, and no log.
func TestOpenOfDead(t *testing.T) {
	for what, c := range mended() {
		s := stored(c.before, false)
		s.Fuse(0)
		s.Append(1, nil)
		same := kept(stored(c.before, false)) == kept(stored(c.after, false))
		if !same {
			refused(t, what, s, 32, 9, api.ErrCrash)
			keeps(t, what, s, c.before, true)
			continue
		}
		l := opened(t, s, 32, 9)
		want := account{eventsOf(c.after), 0, slices.Sorted(maps.Keys(c.after)), false}
		tells(t, what, l, want)
		answered(t, what+": Add of no event", l.Add(api.Event{}), api.ErrArg)
		tells(t, what, l, want)
		if len(c.after[api.MaxVint]) == 0 {
			answered(t, what+": Add", l.Add(tick(1)), api.ErrCrash)
			want.dead = true
			tells(t, what+": Add", l, want)
		}
		keeps(t, what, s, c.before, true)
	}
}

// P10.1: a Fuse that stops the Cut or the Drop: the act's error, no log, and what was torn is as it was; one act more, and it is opened.
func TestMendStopped(t *testing.T) {
	for what, c := range mended() {
		if kept(stored(c.before, false)) == kept(stored(c.after, false)) {
			continue
		}
		s := stored(c.before, true)
		s.Fuse(0)
		refused(t, what, s, 32, 9, api.ErrCrash)
		keeps(t, what, s, c.before, true)
		refused(t, what+", once more", s, 32, 9, api.ErrCrash)
		s.Crash(0)
		s.Fuse(1)
		want := account{eventsOf(c.after), 0, slices.Sorted(maps.Keys(c.after)), false}
		tells(t, what+", crashed", opened(t, s, 32, 9), want)
		keeps(t, what+", crashed", s, c.after, false)
		answered(t, what+": the next act", s.Append(1, nil), api.ErrCrash)
	}
}

// P10.1, P10.3: each number of bytes of the last block that a crash may leave.
func TestEachTear(t *testing.T) {
	events := []api.Event{tick(1), {Kind: api.Closed}, wrote(70), tick(2)}
	for _, number := range []int{1, 2, 63, 64} {
		whole := ended(number, events...)
		var ends []int
		for i := range len(events) + 1 {
			ends = append(ends, len(begun(number, events[:i]...)))
		}
		ends = append(ends, len(whole))
		for n := range len(whole) + 1 {
			what := fmt.Sprintf("%d bytes of block %d", n, number)
			before, after := blocks{number: whole[:n]}, blocks{}
			if number > 1 {
				before[number-1] = ended(number-1, tick(0))
				after[number-1] = before[number-1]
			}
			units := 0
			for units < len(ends) && ends[units] <= n {
				after[number] = whole[:ends[units]]
				units++
			}
			s := stored(before, false)
			l := opened(t, s, 1024, 9)
			want := account{eventsOf(after), 0, slices.Sorted(maps.Keys(after)), false}
			tells(t, what, l, want)
			keeps(t, what, s, after, false)
			added(t, l, tick(5))
			next := number
			switch {
			case units == len(ends):
				next = number + 1
				after[next] = begun(next, tick(5))
			case units == 0 && number == 1:
				after[1] = begun(1, tick(5))
			case units == 0:
				after[number] = begun(number, tick(5))
			default:
				after[number] = begun(number, append(slices.Clone(events[:units-1]), tick(5))...)
			}
			keeps(t, what+", gone on", s, after, false)
			tells(t, what+", gone on", l, account{append(want.events, tick(5)), 0, slices.Sorted(maps.Keys(after)), false})
		}
	}
}

// P10.2: the bytes of a log, written out.
func TestWritten(t *testing.T) {
	s := store.New()
	l := opened(t, s, 32, 3)
	closed := api.Event{Kind: api.Closed}
	added(t, l, closed, closed, closed)
	head, record := "\x06\x01\x01\x28\x13\xc5\x2f", "\x06\x02\x06\x48\xd5\x8c\x9a"
	b, _ := s.Read(1)
	if want := head + strings.Repeat(record, 3); string(b) != want {
		t.Errorf("%x, want %x", b, want)
	}
	added(t, l, closed)
	b, _ = s.Read(1)
	if want := head + strings.Repeat(record, 4) + "\x07\x03\x01\x04\x13\x92\x71\xe3"; string(b) != want {
		t.Errorf("%x, want %x", b, want)
	}
}

// P10.2: event by event: the blocks, what of them is synced, and what the log tells.
func TestAdd(t *testing.T) {
	s := store.New()
	l := opened(t, s, 32, 2)
	for i, c := range []struct {
		there   blocks
		synced  blocks
		account account
	}{
		{blocks{1: begun(1, ticks(0, 1)...)}, nil, account{ticks(0, 1), 0, []int{1}, false}},
		{blocks{1: begun(1, ticks(0, 2)...)}, nil, account{ticks(0, 2), 0, []int{1}, false}},
		{blocks{1: ended(1, ticks(0, 3)...)}, blocks{1: ended(1, ticks(0, 3)...)}, account{ticks(0, 3), 0, []int{1}, false}},
		{blocks{1: ended(1, ticks(0, 3)...), 2: begun(2, ticks(3, 4)...)}, blocks{1: ended(1, ticks(0, 3)...)}, account{ticks(0, 4), 0, []int{1, 2}, false}},
		{blocks{1: ended(1, ticks(0, 3)...), 2: begun(2, ticks(3, 5)...)}, blocks{1: ended(1, ticks(0, 3)...)}, account{ticks(0, 5), 0, []int{1, 2}, false}},
		{blocks{1: ended(1, ticks(0, 3)...), 2: ended(2, ticks(3, 6)...)}, blocks{1: ended(1, ticks(0, 3)...), 2: ended(2, ticks(3, 6)...)}, account{ticks(0, 6), 0, []int{1, 2}, false}},
		{blocks{1: ended(1, ticks(0, 3)...), 2: ended(2, ticks(3, 6)...), 3: begun(3, ticks(6, 7)...)}, blocks{1: ended(1, ticks(0, 3)...), 2: ended(2, ticks(3, 6)...)}, account{ticks(0, 7), 0, []int{1, 2, 3}, false}},
		{blocks{1: ended(1, ticks(0, 3)...), 2: ended(2, ticks(3, 6)...), 3: begun(3, ticks(6, 8)...)}, blocks{1: ended(1, ticks(0, 3)...), 2: ended(2, ticks(3, 6)...)}, account{ticks(0, 8), 0, []int{1, 2, 3}, false}},
		{blocks{2: ended(2, ticks(3, 6)...), 3: ended(3, ticks(6, 9)...)}, blocks{2: ended(2, ticks(3, 6)...), 3: ended(3, ticks(6, 9)...)}, account{ticks(3, 9), 3, []int{2, 3}, false}},
		{blocks{2: ended(2, ticks(3, 6)...), 3: ended(3, ticks(6, 9)...), 4: begun(4, tick(9))}, blocks{2: ended(2, ticks(3, 6)...), 3: ended(3, ticks(6, 9)...)}, account{ticks(3, 10), 3, []int{2, 3, 4}, false}},
	} {
		what := fmt.Sprint("event ", i)
		added(t, l, tick(i))
		keeps(t, what, s, c.there, false)
		if got, want := safe(s), kept(stored(c.synced, true)); got != want {
			t.Errorf("%s: synced is%s, want%s", what, got, want)
		}
		tells(t, what, l, c.account)
	}
}

// every is events of each kind, and at the bounds of what they may have.
func every() []api.Event {
	data := api.Packet{Kind: api.Data, Path: 2, Number: api.MaxNumber, From: 4000, Data: filled(api.MaxChunk), Fin: true}
	return []api.Event{
		{Kind: api.Wrote, Data: filled(1)},
		{Kind: api.Wrote, Data: filled(api.MaxBytes)},
		{Kind: api.Read, Data: filled(63)},
		{Kind: api.Read, Data: filled(64)},
		{Kind: api.Ticked, N: 1},
		{Kind: api.Ticked, N: api.MaxTick},
		{Kind: api.Came, Packet: api.Packet{Kind: api.Join, Path: 1, Number: 2}},
		{Kind: api.Came, Packet: data},
		{Kind: api.Sent, Packet: data},
		{Kind: api.Sent, Packet: api.Packet{Kind: api.Joined, Number: 5, Of: 300}},
		{Kind: api.Sent, Packet: api.Packet{Kind: api.Ack, Of: 3, Seen: api.MaxBytes + 1, Limit: api.MaxBytes + api.MaxWindow}},
		{Kind: api.Came, Packet: api.Packet{Kind: api.Data}},
		{Kind: api.Closed},
		{Kind: api.Up},
		{Kind: api.Down, N: api.MaxPaths - 1},
	}
}

// P10.2: each kind of event comes back as it was, in order, with blocks small and great, from the log and from one that is opened.
func TestEveryEvent(t *testing.T) {
	for _, size := range []int{32, 33, 64, 500, api.MaxSeg} {
		s := store.New()
		l := opened(t, s, size, 1000)
		var want []api.Event
		for range 3 {
			for _, e := range every() {
				added(t, l, e)
				want = append(want, e)
				if got := l.Events(); !event.All(got, want) {
					t.Fatalf("size %d: %v, want %v", size, got, want)
				}
			}
		}
		if got := opened(t, s, 32, 1).Events(); !event.All(got, want) {
			t.Errorf("size %d, opened: %v, want %v", size, got, want)
		}
	}
}

// wrong are events that may not be.
func wrong() []api.Event {
	return []api.Event{
		{},
		{Kind: -1},
		{Kind: 9},
		{Kind: math.MaxInt, N: 1},
		{Kind: api.Wrote},
		{Kind: api.Wrote, Data: []byte{}},
		{Kind: api.Wrote, Data: filled(api.MaxBytes + 1)},
		{Kind: api.Read, Data: filled(3), N: 1},
		{Kind: api.Ticked},
		{Kind: api.Ticked, N: api.MaxTick + 1},
		{Kind: api.Ticked, N: 1, Data: filled(1)},
		{Kind: api.Came},
		{Kind: api.Sent, Packet: api.Packet{Kind: api.Join, Path: api.MaxPaths}},
		{Kind: api.Closed, N: 1},
		{Kind: api.Up, N: api.MaxPaths},
		{Kind: api.Down, N: math.MinInt},
	}
}

// P10.2: an event that may not be changes nothing, and no act is asked for: of no blocks, of an open one, of one that is ended; a dead log answers ErrCrash.
func TestWrongEvents(t *testing.T) {
	for _, e := range wrong() {
		for _, events := range []int{0, 1, 3, 4} {
			what := fmt.Sprint("Add ", e, " behind ", events)
			s := store.New()
			l := opened(t, s, 32, 1)
			added(t, l, ticks(0, events)...)
			s.Fuse(0)
			before, there := accountOf(l), kept(s)
			answered(t, what, l.Add(e), api.ErrArg)
			tells(t, what, l, before)
			if got := kept(s); got != there {
				t.Errorf("%s: %s, not %s", what, got, there)
			}
			answered(t, "a right one", l.Add(tick(7)), api.ErrCrash)
			before.dead = true
			answered(t, what+", dead", l.Add(e), api.ErrCrash)
			tells(t, what+", dead", l, before)
		}
	}
}

// P10.2: a block of just under size bytes is not ended, one of just size is.
func TestSize(t *testing.T) {
	sizes := []int{api.MaxSeg - 1, api.MaxSeg}
	for size := 32; size < 300; size++ {
		sizes = append(sizes, size)
	}
	for _, size := range sizes {
		for less := -1; less <= 1; less++ {
			what := fmt.Sprintf("size %d, %d less", size, less)
			s := store.New()
			l := opened(t, s, size, 9)
			var events []api.Event
			for size-len(begun(1, events...)) > 60 {
				events = append(events, api.Event{Kind: api.Closed})
			}
			// The record of this one has just the bytes that are left.
			events = append(events, wrote(size-len(begun(1, events...))-8-less))
			added(t, l, events...)
			want := begun(1, events...)
			if len(want) != size-less {
				t.Fatalf("%s: the test has made %d bytes", what, len(want))
			}
			if less <= 0 {
				want = ended(1, events...)
			}
			keeps(t, what, s, blocks{1: want}, false)
			added(t, l, tick(1))
			if less <= 0 {
				keeps(t, what+", one more", s, blocks{1: want, 2: begun(2, tick(1))}, false)
				continue
			}
			keeps(t, what+", one more", s, blocks{1: ended(1, append(events, tick(1))...)}, false)
		}
	}
}

// P10.2: a last block that has size bytes when it is opened, and is not ended, is so with the next event.
func TestFullWhenOpened(t *testing.T) {
	for events := range 30 {
		s := stored(blocks{4: begun(4, ticks(0, events)...)}, false)
		l := opened(t, s, 32, 1)
		keeps(t, "opened", s, blocks{4: begun(4, ticks(0, events)...)}, false)
		added(t, l, tick(events))
		want := begun(4, ticks(0, events+1)...)
		if len(want) >= 32 {
			want = ended(4, ticks(0, events+1)...)
		}
		keeps(t, "one more", s, blocks{4: want}, false)
	}
}

// P10.2: what counts is size bytes of the block, not of the events that this log added.
func TestSizeAnewWhenOpened(t *testing.T) {
	s := store.New()
	for i := range 7 {
		added(t, opened(t, s, 32, 9), tick(i))
	}
	keeps(t, "opened for each", s, blocks{1: ended(1, ticks(0, 3)...), 2: ended(2, ticks(3, 6)...), 3: begun(3, tick(6))}, false)
	added(t, opened(t, s, 100, 9), ticks(7, 12)...)
	keeps(t, "a greater size", s, blocks{1: ended(1, ticks(0, 3)...), 2: ended(2, ticks(3, 6)...), 3: begun(3, ticks(6, 12)...)}, false)
}

// P10.2: only most segments stay when one is ended, the last ones; First tells how many events went, since Open.
func TestMost(t *testing.T) {
	for most := 1; most <= 6; most++ {
		s := store.New()
		l := opened(t, s, 32, most)
		for i := range 40 {
			what := fmt.Sprintf("most %d, %d events", most, i+1)
			added(t, l, tick(i))
			// Three events fill a segment; one that is not ended drops none.
			dropped := max((i+1)/3-most, 0)
			var segments []int
			for number := dropped + 1; number <= i/3+1; number++ {
				segments = append(segments, number)
			}
			tells(t, what, l, account{ticks(3*dropped, i+1), 3 * dropped, segments, false})
			tells(t, what+", opened", opened(t, s, 32, most), account{ticks(3*dropped, i+1), 0, segments, false})
		}
	}
}

// uneven is a store of six segments that have from no events on to five, all ended and synced.
func uneven() (blocks, []api.Event) {
	l := blocks{}
	for i := range 6 {
		l[i+3] = ended(i+3, ticks(10*i, 11*i)...)
	}
	return l, eventsOf(l)
}

// P10.2: one that has more than most segments when it is opened keeps them, up to the next one that is ended: then several go at once.
func TestManyAtOnce(t *testing.T) {
	for most := 1; most <= 9; most++ {
		there, events := uneven()
		s := stored(there, true)
		l := opened(t, s, 32, most)
		tells(t, "opened", l, account{events, 0, []int{3, 4, 5, 6, 7, 8}, false})
		added(t, l, tick(1), tick(2))
		tells(t, "not ended", l, account{append(slices.Clone(events), ticks(1, 3)...), 0, []int{3, 4, 5, 6, 7, 8, 9}, false})
		added(t, l, tick(3))
		there[9] = ended(9, ticks(1, 4)...)
		for number := 3; number <= 9-most; number++ {
			delete(there, number)
		}
		left := eventsOf(there)
		tells(t, "ended", l, account{left, len(events) + 3 - len(left), slices.Sorted(maps.Keys(there)), false})
		keeps(t, "ended", s, there, false)
	}
}

// P10.2: each act of an Add that asks for all kinds of them is stopped by a Fuse: those ahead of it are done, the log is dead.
func TestEachActStopped(t *testing.T) {
	base := blocks{5: ended(5, ticks(0, 3)...), 6: ended(6, ticks(3, 7)...)}
	all, e := eventsOf(base), wrote(40)
	more := append(slices.Clone(all), e)
	for n, c := range []struct {
		what   string
		seven  []byte // the block 7
		lacks  int    // the block that is gone
		events []api.Event
		first  int
		synced bool // is the block 7?
	}{
		{"Head", nil, 0, all, 0, false},
		{"Record", begun(7), 0, all, 0, false},
		{"Foot", begun(7, e), 0, more, 0, false},
		{"Sync", ended(7, e), 0, more, 0, false},
		{"Drop", ended(7, e), 0, more, 0, true},
		{"the second Drop", ended(7, e), 5, more[3:], 3, true},
	} {
		s := stored(base, true)
		l := opened(t, s, 32, 1)
		s.Fuse(n)
		answered(t, c.what, l.Add(e), api.ErrCrash)
		want := maps.Clone(base)
		delete(want, c.lacks)
		onlySynced := maps.Clone(want)
		if c.seven != nil {
			want[7] = c.seven
		}
		if c.synced {
			onlySynced[7] = c.seven
		}
		keeps(t, c.what, s, want, true)
		if got := safe(s); got != kept(stored(onlySynced, true)) {
			t.Errorf("%s: synced is%s", c.what, got)
		}
		told := account{c.events, c.first, slices.Sorted(maps.Keys(want)), true}
		tells(t, c.what, l, told)
		for range 2 {
			answered(t, c.what+": Add", l.Add(tick(9)), api.ErrCrash)
			answered(t, c.what+": Add of no event", l.Add(api.Event{}), api.ErrCrash)
			answered(t, c.what+": Sync", l.Sync(), api.ErrCrash)
			tells(t, c.what, l, told)
			keeps(t, c.what, s, want, true)
		}
	}
	s := stored(base, true)
	l := opened(t, s, 32, 1)
	s.Fuse(6)
	added(t, l, e)
	tells(t, "not stopped", l, account{[]api.Event{e}, 7, []int{7}, false})
	answered(t, "the seventh act", l.Add(tick(1)), api.ErrCrash)
}

// P10.2: an Add to a block that is there asks for the Record alone; one that ends it for Foot and Sync as well.
func TestActsOfAnAdd(t *testing.T) {
	for acts := range 6 {
		s := stored(blocks{1: begun(1, tick(0))}, true)
		l := opened(t, s, 32, 9)
		s.Fuse(acts)
		first, second := l.Add(tick(1)), l.Add(tick(2))
		want := []api.Errno{api.ErrCrash, api.ErrCrash}
		if acts >= 1 {
			want[0] = api.OK
		}
		if acts >= 4 {
			want[1] = api.OK
		}
		if first != want[0] || second != want[1] || l.Dead() != (acts < 4) {
			t.Errorf("%d acts: %d, %d, %v", acts, first, second, l.Dead())
		}
	}
}

// P10.2: a dead log stays so, whatever becomes of its store, to which it does nothing more.
func TestDeadStays(t *testing.T) {
	s := store.New()
	l := opened(t, s, 32, 9)
	added(t, l, tick(0))
	s.Fuse(0)
	answered(t, "Add", l.Add(tick(1)), api.ErrCrash)
	s.Crash(100)
	there := kept(s)
	for range 2 {
		answered(t, "Add", l.Add(tick(1)), api.ErrCrash)
		answered(t, "Add of no event", l.Add(api.Event{}), api.ErrCrash)
		answered(t, "Sync", l.Sync(), api.ErrCrash)
		if !l.Dead() {
			t.Error("alive")
		}
	}
	if got := kept(s); got != there || s.Dead() {
		t.Errorf("%s, not %s", got, there)
	}
	m := opened(t, s, 32, 9)
	added(t, m, tick(1))
	tells(t, "another one", m, account{ticks(0, 2), 0, []int{1}, false})
}

// P10.2: Sync makes the last block synced, and is one act: without a block it is none.
func TestSync(t *testing.T) {
	for events := range 8 {
		what := fmt.Sprint(events, " events")
		s := store.New()
		l := opened(t, s, 32, 9)
		added(t, l, ticks(0, events)...)
		before := accountOf(l)
		c := s.Clone()
		m := opened(t, c, 32, 9)
		s.Fuse(1)
		answered(t, what+": Sync", l.Sync(), api.OK)
		if got, want := safe(s), kept(s); got != want {
			t.Errorf("%s: synced is%s, not%s", what, got, want)
		}
		tells(t, what, l, before)
		c.Fuse(0)
		if events == 0 {
			answered(t, what+": no act", m.Sync(), api.OK)
			answered(t, what+": the Fuse is as it was", s.Append(9, nil), api.OK)
			continue
		}
		answered(t, what+": the Fuse is burnt", s.Append(9, nil), api.ErrCrash)
		unsynced := safe(c)
		answered(t, what+": Sync, stopped", m.Sync(), api.ErrCrash)
		if got := safe(c); got != unsynced {
			t.Errorf("%s: synced is%s, not%s", what, got, unsynced)
		}
		before.dead = true
		tells(t, what+", stopped", m, before)
		answered(t, what+": Add", m.Add(api.Event{}), api.ErrCrash)
	}
}

// P10.2: on a store that died by another's act a log is not dead till it has met it; Sync without a block meets nothing.
func TestStoreDiesElsewhere(t *testing.T) {
	s := store.New()
	l, m := opened(t, s, 32, 9), opened(t, s, 32, 9)
	s.Fuse(0)
	answered(t, "Append", s.Append(1, nil), api.ErrCrash)
	answered(t, "Sync", l.Sync(), api.OK)
	answered(t, "Add of no event", l.Add(api.Event{}), api.ErrArg)
	tells(t, "not met", l, account{})
	answered(t, "Add", l.Add(tick(0)), api.ErrCrash)
	answered(t, "Sync", l.Sync(), api.ErrCrash)
	tells(t, "met", l, account{dead: true})
	tells(t, "the other one", m, account{})
}

// P10.1, P10.3: behind the greatest number there is no segment: a block without a head would be lost when it is opened again.
func TestNumbersEnd(t *testing.T) {
	s := stored(blocks{api.MaxVint: begun(api.MaxVint, tick(0))}, true)
	l := opened(t, s, 32, 9)
	added(t, l, tick(1))
	whole := blocks{api.MaxVint: ended(api.MaxVint, ticks(0, 2)...)}
	keeps(t, "ended", s, whole, false)
	s.Fuse(1)
	answered(t, "Add", l.Add(tick(2)), api.ErrLimit)
	answered(t, "Add of no event", l.Add(api.Event{}), api.ErrArg)
	keeps(t, "behind it", s, whole, false)
	tells(t, "behind it", l, account{ticks(0, 2), 0, []int{api.MaxVint}, false})
	answered(t, "Sync, the one act that the Fuse lets be", l.Sync(), api.OK)
}

// isBeginning tells whether a is a beginning of b.
func isBeginning(a, b []api.Event) bool {
	return len(a) <= len(b) && event.All(a, b[:len(a)])
}

// P10.3, T2: wherever the store stops, whatever it keeps: what is opened again is a beginning of what was there, with all that was synced; and it goes on.
func TestWhereverItStops(t *testing.T) {
	for _, size := range []int{32, 50} {
		for _, most := range []int{1, 2, 9} {
			for every := 1; every <= 4; every++ {
				for n := range 30 {
					for _, keep := range []int{-1, 0, 1, 6, 7, 8, 15, 16, 17, 23, 24, 25, 33, 34, 41, 42, 1000} {
						stopped(t, size, most, every, n, keep)
					}
				}
			}
		}
	}
}

// stopped adds events, every so many of them synced, till the Fuse of n acts stops it, and opens it again.
func stopped(t *testing.T, size, most, every, n, keep int) {
	t.Helper()
	what := fmt.Sprintf("size %d, most %d, Sync behind %d, Fuse(%d), Crash(%d)", size, most, every, n, keep)
	s := store.New()
	l := opened(t, s, size, most)
	s.Fuse(n)
	synced := 0
	for i := 0; !l.Dead(); i++ {
		before := len(l.Segments())
		if l.Add(tick(i)) == api.OK && (len(l.Segments()) < before || i%every == 0 && l.Sync() == api.OK) {
			synced = i + 1
		}
	}
	had, first := l.Events(), l.First()
	s.Crash(keep)
	m := opened(t, s, size, most)
	got := m.Events()
	if !isBeginning(got, had) || first+len(got) < synced || keep == 1000 && len(got) < len(had) {
		t.Fatalf("%s: %v of %v, synced %d", what, got, had, synced)
	}
	told, there := accountOf(m), kept(s)
	again := opened(t, s, size, most)
	if !accountOf(again).same(told) || kept(s) != there {
		t.Fatalf("%s: %v, once more %v", what, told, accountOf(again))
	}
	added(t, again, tick(70))
	answered(t, what+": Sync", again.Sync(), api.OK)
	s.Crash(0)
	more := opened(t, s, size, most).Events()
	if first := again.First(); !event.All(more, append(got, tick(70))[first:]) {
		t.Fatalf("%s: gone on: %v behind %v", what, more, got)
	}
}

// modelled is a block of a model.
type modelled struct {
	number int
	b      []byte
	ends   []int // of its units
	events []api.Event
	ended  bool
	synced int
	lasts  bool // a crash leaves it there without bytes
}

// model is a log and its store, as the chapters tell of them; it never looks at bytes, but at what they were made of.
type model struct {
	all        []*modelled
	size, most int
	first      int
	fuse       int // -1: there is none
	storeDead  bool
	dead       bool
}

func (m *model) last() *modelled {
	if len(m.all) == 0 {
		return &modelled{ended: true}
	}
	return m.all[len(m.all)-1]
}

// act does it, if the store lets it.
func (m *model) act(do func()) bool {
	if m.fuse == 0 {
		m.storeDead = true
	}
	if m.storeDead {
		return false
	}
	if m.fuse > 0 {
		m.fuse--
	}
	do()
	return true
}

func (b *modelled) put(unit []byte) {
	b.b = append(b.b, unit...)
	b.ends = append(b.ends, len(b.b))
}

func (b *modelled) settle() {
	b.synced, b.lasts = len(b.b), true
}

func (m *model) add(e api.Event) api.Errno {
	if m.dead {
		return api.ErrCrash
	}
	if event.Check(e) != api.OK {
		return api.ErrArg
	}
	m.dead = !m.adds(e)
	if m.dead {
		return api.ErrCrash
	}
	return api.OK
}

func (m *model) adds(e api.Event) bool {
	if m.last().ended {
		number := m.last().number + 1
		if !m.act(func() { m.all = append(m.all, &modelled{number: number}); m.last().put(segment.Head(number)) }) {
			return false
		}
	}
	b := m.last()
	if !m.act(func() { b.put(recordOf(e)); b.events = append(b.events, e) }) {
		return false
	}
	if len(b.b) < m.size {
		return true
	}
	if !m.act(func() { b.put(segment.Foot(b.number, len(b.events))); b.ended = true }) || !m.act(b.settle) {
		return false
	}
	for len(m.all) > m.most {
		if !m.act(func() { m.first += len(m.all[0].events); m.all = m.all[1:] }) {
			return false
		}
	}
	return true
}

func (m *model) sync() api.Errno {
	if !m.dead && (len(m.all) == 0 || m.act(m.last().settle)) {
		return api.OK
	}
	m.dead = true
	return api.ErrCrash
}

func (m *model) crash(keep int) {
	m.storeDead, m.fuse = false, -1
	for _, b := range m.all {
		b.b = b.b[:min(len(b.b), b.synced+keep)]
		b.lasts = b.lasts || len(b.b) > 0
		b.synced = len(b.b)
		for len(b.ends) > 0 && b.ends[len(b.ends)-1] > len(b.b) {
			b.ends, b.ended = b.ends[:len(b.ends)-1], false
		}
		b.events = b.events[:min(len(b.events), max(len(b.ends)-1, 0))]
	}
	m.all = slices.DeleteFunc(m.all, func(b *modelled) bool { return !b.lasts })
}

func (m *model) open(size, most int) bool {
	if len(m.all) > 0 {
		b := m.last()
		switch {
		case len(b.ends) == 0:
			if !m.act(func() { m.all = m.all[:len(m.all)-1] }) {
				return false
			}
		case b.ends[len(b.ends)-1] < len(b.b):
			if !m.act(func() { b.b = b.b[:b.ends[len(b.ends)-1]]; b.settle() }) {
				return false
			}
		}
	}
	m.size, m.most, m.first, m.dead = size, most, 0, false
	return true
}

func (m *model) account() account {
	a := account{first: m.first, dead: m.dead}
	for _, b := range m.all {
		a.events = append(a.events, b.events...)
		a.segments = append(a.segments, b.number)
	}
	return a
}

func (m *model) stored() *store.Store {
	s := store.New()
	for _, b := range m.all {
		s.Append(b.number, b.b[:b.synced])
		if b.lasts {
			s.Sync(b.number)
		}
		s.Append(b.number, b.b[b.synced:])
	}
	return s
}

// pair is a log on its store, and the model of both. Where the last Open was stopped there is no log.
type pair struct {
	s *store.Store
	l *log.Log
	m *model
	n int // events that were made
}

func newPair(size, most int) *pair {
	p := &pair{s: store.New(), m: &model{fuse: -1}}
	p.open(size, most)
	return p
}

// open tells whether log and model answer alike.
func (p *pair) open(size, most int) bool {
	l, e := log.Open(p.s, size, most)
	ok := p.m.open(size, most)
	p.l = l
	return ok == (e == api.OK) && ok == (l != nil) && (ok || e == api.ErrCrash)
}

func (p *pair) add(e api.Event) bool {
	return p.l == nil || p.l.Add(e) == p.m.add(e)
}

func (p *pair) next() api.Event {
	p.n++
	return tick(p.n)
}

func (p *pair) sync() bool {
	return p.l == nil || p.l.Sync() == p.m.sync()
}

func (p *pair) fuse(n int) bool {
	p.s.Fuse(n)
	p.m.fuse = n
	return true
}

// crash is one, a Fuse if it is not below 0, and Open, twice over.
func (p *pair) crash(keep, fuse int) bool {
	p.s.Crash(keep)
	p.m.crash(keep)
	if fuse >= 0 {
		p.fuse(fuse)
	}
	return p.reopen() && p.reopen()
}

func (p *pair) reopen() bool {
	return p.open(p.m.size, p.m.most)
}

// alike tells whether log and model are, and the store's bytes, synced or not.
func (p *pair) alike() bool {
	want := p.m.stored()
	there := kept(want)
	if p.m.storeDead {
		there += " dead"
	}
	return kept(p.s) == there && safe(p.s) == safe(want) && (p.l == nil || accountOf(p.l).same(p.m.account()))
}

// steps are those of which each row is made.
func steps() []func(p *pair) bool {
	return []func(p *pair) bool{
		func(p *pair) bool { return p.add(p.next()) },
		func(p *pair) bool { return p.add(p.next()) && p.add(p.next()) },
		func(p *pair) bool { return p.add(wrote(30)) },
		func(p *pair) bool { return p.add(api.Event{}) },
		func(p *pair) bool { return p.sync() },
		func(p *pair) bool { return p.fuse(0) },
		func(p *pair) bool { return p.fuse(1) },
		func(p *pair) bool { return p.fuse(3) },
		func(p *pair) bool { return p.crash(0, -1) },
		func(p *pair) bool { return p.crash(8, -1) },
		func(p *pair) bool { return p.crash(20, 0) },
		func(p *pair) bool { return p.crash(1000, -1) },
		func(p *pair) bool { return p.reopen() },
	}
}

// P10.1, P10.2, P10.3: each row of four steps over thirteen, against a model.
func TestEachRow(t *testing.T) {
	all := steps()
	const long = 4
	rows := 1
	for range long {
		rows *= len(all)
	}
	for row := range rows {
		p := newPair(32, 1)
		rest := row
		for i := range long {
			if ok := all[rest%len(all)](p); !ok || !p.alike() {
				t.Fatalf("row %d, step %d (%d): %v", row, i, rest%len(all), ok)
			}
			rest /= len(all)
		}
	}
}

// anyStep does some step.
func anyStep(r *rand.Rand, p *pair) bool {
	switch r.IntN(16) {
	case 0, 1, 2, 3, 4:
		return p.add(p.next())
	case 5:
		return p.add(every()[r.IntN(len(every()))])
	case 6:
		return p.add(wrote(1 + r.IntN(200)))
	case 7:
		return p.add(wrong()[r.IntN(len(wrong()))])
	case 8, 9:
		return p.sync()
	case 10:
		return p.fuse(r.IntN(12))
	case 11, 12:
		return p.crash(r.IntN(60), -1)
	case 13:
		return p.crash(r.IntN(60), r.IntN(2))
	case 14:
		return p.open(32+r.IntN(100), 1+r.IntN(4))
	}
	return p.crash(100000, -1)
}

// P10.1, P10.2, P10.3: long rows of any steps, against a model.
func TestLongRows(t *testing.T) {
	for seed := range uint64(300) {
		r := rand.New(rand.NewPCG(seed, 10))
		p := newPair(32+r.IntN(100), 1+r.IntN(4))
		for i := range 120 {
			if ok := anyStep(r, p); !ok || !p.alike() {
				t.Fatalf("%d, %d: %v", seed, i, ok)
			}
		}
	}
}

// overwrite writes to all of b's memory, behind its length as well.
func overwrite(b []byte) {
	b = b[:cap(b)]
	for i := range b {
		b[i] = 0xa5
	}
}

// R4: an event that is handed in is neither changed nor kept, and what lies behind its lists' lengths is neither read nor written.
func TestEventsHandedIn(t *testing.T) {
	for size := 1; size <= 60; size++ {
		memory := bytes.Repeat([]byte("m"), size+8)
		data := memory[:size]
		s := store.New()
		l := opened(t, s, 64, 100)
		came := api.Packet{Kind: api.Data, Number: 3, Data: data}
		added(t, l, api.Event{Kind: api.Wrote, Data: data}, api.Event{Kind: api.Came, Packet: came})
		if !bytes.Equal(memory, bytes.Repeat([]byte("m"), size+8)) {
			t.Errorf("what was handed in was changed: %q", memory)
		}
		overwrite(data)
		was := bytes.Repeat([]byte("m"), size)
		want := []api.Event{{Kind: api.Wrote, Data: was}, {Kind: api.Came, Packet: api.Packet{Kind: api.Data, Number: 3, Data: was}}}
		if got := l.Events(); !event.All(got, want) {
			t.Errorf("overwritten: %v", got)
		}
		if got := opened(t, s, 64, 100).Events(); !event.All(got, want) {
			t.Errorf("overwritten, opened: %v", got)
		}
	}
}

// R4: nil and the empty list are the same, handed in or out.
func TestNilIsEmpty(t *testing.T) {
	l := opened(t, store.New(), 64, 9)
	added(t, l, api.Event{Kind: api.Ticked, N: 5, Data: []byte{}}, api.Event{Kind: api.Closed, Packet: api.Packet{Data: []byte{}}})
	added(t, l, api.Event{Kind: api.Came, Packet: api.Packet{Kind: api.Data, Data: []byte{}}})
	want := []api.Event{{Kind: api.Ticked, N: 5}, {Kind: api.Closed}, {Kind: api.Came, Packet: api.Packet{Kind: api.Data}}}
	if got := l.Events(); !event.All(got, want) {
		t.Errorf("%v", got)
	}
}

// spoilEvents writes to all the memory of a list of events, and of the lists within it.
func spoilEvents(l []api.Event) {
	for i := range l {
		overwrite(l[i].Data)
		overwrite(l[i].Packet.Data)
	}
	l = l[:cap(l)]
	for i := range l {
		l[i] = api.Event{Kind: -7}
	}
}

// R4: each list handed out is new memory, lists within it as well; what was handed out stays as it was.
func TestListsHandedOut(t *testing.T) {
	s := store.New()
	l := opened(t, s, 64, 100)
	added(t, l, every()...)
	segments := s.Blocks()
	for range 2 {
		first, second := l.Events(), l.Events()
		for i := range first {
			overwrite(first[i].Data)
			overwrite(first[i].Packet.Data)
			if i+1 < len(first) && !event.All(first[i+1:], every()[i+1:]) {
				t.Fatalf("the lists of event %d are another's as well", i)
			}
		}
		spoilEvents(first)
		if !event.All(second, every()) || !event.All(l.Events(), every()) {
			t.Fatal("two lists share memory")
		}
		one, other := l.Segments(), l.Segments()
		one = one[:cap(one)]
		for i := range one {
			one[i] = -7
		}
		if !slices.Equal(other, segments) || !slices.Equal(l.Segments(), segments) || !slices.Equal(s.Blocks(), segments) {
			t.Fatal("two lists share memory")
		}
	}
	events, numbers := l.Events(), l.Segments()
	added(t, l, every()...)
	if !event.All(events, every()) || !slices.Equal(numbers, segments) {
		t.Error("what was handed out was changed")
	}
	added(t, l, events...)
	spoilEvents(events)
	if got := l.Events(); !event.All(got, slices.Concat(every(), every(), every())) {
		t.Error("what was handed out, and in, is kept")
	}
}

// R5: logs on stores of their own are apart, one on a Clone of the store as well.
func TestLogsAreApart(t *testing.T) {
	s := store.New()
	a := opened(t, s, 32, 9)
	added(t, a, ticks(0, 4)...)
	c := s.Clone()
	b := opened(t, c, 32, 1)
	added(t, a, tick(4))
	added(t, b, ticks(10, 12)...)
	c.Fuse(0)
	answered(t, "Add", b.Add(tick(12)), api.ErrCrash)
	tells(t, "one", a, account{ticks(0, 5), 0, []int{1, 2}, false})
	tells(t, "the other one", b, account{append(ticks(3, 4), ticks(10, 12)...), 3, []int{2}, true})
}
