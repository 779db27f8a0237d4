package meter_test

import (
	"math"
	"slices"
	"sync"
	"testing"

	"haulier/meter"
)

const most = 1<<31 - 1

// none are numbers of counters that are not there.
func none() []int {
	return []int{-1, 8, -8, 9, 256, -1 << 32, 1 << 32, math.MinInt, math.MaxInt}
}

// wrong are numbers that are not added.
func wrong() []int {
	return []int{-1, most + 1, -most, -most - 1, 1 << 32, -1 << 32, 1<<32 + 1, math.MinInt, math.MaxInt}
}

func all(t *testing.T, m *meter.Meter, want ...int) {
	t.Helper()
	if got := m.All(); !slices.Equal(got, want) {
		t.Errorf("All() = %v, want %v", got, want)
	}
	for what, n := range want {
		if got := m.Get(what); got != n {
			t.Errorf("Get(%d) = %d, want %d", what, got, n)
		}
	}
}

func add(t *testing.T, m *meter.Meter, what, n, want int) {
	t.Helper()
	if got := m.Add(what, n); got != want {
		t.Errorf("Add(%d, %d) = %d, want %d", what, n, got, want)
	}
}

// full is a Meter whose counters are 1, 2, 4 .. 128.
func full(t *testing.T) *meter.Meter {
	m := meter.New()
	for what := range 8 {
		add(t, m, what, 1<<what, 1<<what)
	}
	return m
}

// P3.1
func TestNew(t *testing.T) {
	all(t, meter.New(), 0, 0, 0, 0, 0, 0, 0, 0)
}

// P3.1
func TestAdd(t *testing.T) {
	m := meter.New()
	add(t, m, 3, 5, 5)
	add(t, m, 3, 0, 5)
	add(t, m, 3, 1, 6)
	add(t, m, 4, 0, 0)
	add(t, m, 0, 7, 7)
	add(t, m, 7, 9, 9)
	add(t, m, 0, 3, 10)
	all(t, m, 10, 0, 0, 6, 0, 0, 0, 9)
	all(t, full(t), 1, 2, 4, 8, 16, 32, 64, 128)
}

// P3.1: the sums have no bound of their own.
func TestAddPastTheGreatest(t *testing.T) {
	m := meter.New()
	for i := range 5 {
		add(t, m, 7, most, (i+1)*most)
		add(t, m, 0, most, (i+1)*most+i)
		add(t, m, 0, 1, (i+1)*(most+1))
	}
	all(t, m, 5<<31, 0, 0, 0, 0, 0, 0, 5*most)
}

// P3.1
func TestAddWrong(t *testing.T) {
	m := full(t)
	for _, n := range wrong() {
		for what := range 8 {
			add(t, m, what, n, 0)
		}
		for _, what := range none() {
			add(t, m, what, n, 0)
		}
	}
	for _, what := range none() {
		for _, n := range []int{0, 1, most} {
			add(t, m, what, n, 0)
		}
	}
	all(t, m, 1, 2, 4, 8, 16, 32, 64, 128)
	add(t, m, 0, 1, 2)
	add(t, m, 7, 1, 129)
}

// P3.1, R8
func TestGetWrong(t *testing.T) {
	m := full(t)
	for _, what := range none() {
		if got := m.Get(what); got != 0 {
			t.Errorf("Get(%d) = %d, want 0", what, got)
		}
	}
}

// P3.1
func TestReset(t *testing.T) {
	m := full(t)
	m.Reset()
	all(t, m, 0, 0, 0, 0, 0, 0, 0, 0)
	add(t, m, 0, 3, 3)
	add(t, m, 7, most, most)
	all(t, m, 3, 0, 0, 0, 0, 0, 0, most)
	m.Reset()
	m.Reset()
	all(t, m, 0, 0, 0, 0, 0, 0, 0, 0)
}

// P3.1: each Meter has counters of its own.
func TestMetersAreApart(t *testing.T) {
	one, other := full(t), full(t)
	add(t, one, 0, 9, 10)
	all(t, other, 1, 2, 4, 8, 16, 32, 64, 128)
	other.Reset()
	all(t, one, 10, 2, 4, 8, 16, 32, 64, 128)
	all(t, meter.New(), 0, 0, 0, 0, 0, 0, 0, 0)
}

// P3.1, R4: a list that is handed out is memory of its own.
func TestAllIsAListOfItsOwn(t *testing.T) {
	m := full(t)
	list, kept := m.All(), m.All()
	for what := range list {
		list[what] = -1
	}
	_ = append(list, -1)
	all(t, m, 1, 2, 4, 8, 16, 32, 64, 128)
	add(t, m, 0, 5, 6)
	m.Reset()
	if want := []int{1, 2, 4, 8, 16, 32, 64, 128}; !slices.Equal(kept, want) {
		t.Errorf("a list that was handed out is now %v", kept)
	}
}

// atOnce calls the function many times at once, and waits for all.
func atOnce(many int, call func(i int)) {
	var calls sync.WaitGroup
	for i := range many {
		calls.Go(func() { call(i) })
	}
	calls.Wait()
}

// P3.1: each of many Adds is told another sum, and none is lost.
func TestManyAdd(t *testing.T) {
	const many, times = 8, 2000
	m := meter.New()
	told := make([][]int, many)
	atOnce(many, func(i int) {
		for range times {
			told[i] = append(told[i], m.Add(0, 1))
			m.Add(7, i)
			m.Add(7, -1)
			m.Add(8, 1)
		}
	})
	sums := slices.Sorted(slices.Values(slices.Concat(told...)))
	for i, sum := range sums {
		if sum != i+1 {
			t.Fatalf("the sum %d was told where %d is asked", sum, i+1)
		}
	}
	all(t, m, many*times, 0, 0, 0, 0, 0, 0, times*many*(many-1)/2)
}

// P3.1: counters beside one another do not disturb each other.
func TestManyCounters(t *testing.T) {
	const times = 2000
	m := meter.New()
	atOnce(16, func(i int) {
		for range times {
			m.Add(i%8, i%8)
		}
	})
	all(t, m, 0, 2*times, 4*times, 6*times, 8*times, 10*times, 12*times, 14*times)
}

// P3.1: where 0 is added to ahead of 7, All never tells the second without the first.
func TestManyAll(t *testing.T) {
	const times = 5000
	m := meter.New()
	atOnce(4, func(i int) {
		for before := 0; i == 0 && before < times; before++ {
			m.Add(0, 1)
			m.Add(7, 1)
		}
		for before := 0; i > 0 && before < times; {
			list := m.All()
			if ahead := list[0] - list[7]; ahead < 0 || ahead > 1 || list[0] < before {
				t.Errorf("All() = %v, behind %d", list, before)
				return
			}
			if got := m.Get(0); got < list[0] {
				t.Errorf("Get(0) = %d, behind %d", got, list[0])
				return
			}
			before = list[0]
		}
	})
	all(t, m, times, 0, 0, 0, 0, 0, 0, times)
}

// P3.1: a Reset beside Adds takes all that came ahead of it, and nothing that came behind; All never tells half of one.
func TestManyReset(t *testing.T) {
	const times = 20000
	m := meter.New()
	atOnce(4, func(i int) {
		for range times {
			switch i {
			case 0:
				m.Add(0, 1)
				m.Add(7, 1)
			case 1:
				// Only where there is much to take can half of a Reset be told from one Add.
				if m.Get(0) > 50 {
					m.Reset()
				}
			default:
				list := m.All()
				if ahead := list[0] - list[7]; ahead < -1 || ahead > 1 {
					t.Errorf("All() = %v", list)
					return
				}
			}
		}
	})
	m.Reset()
	all(t, m, 0, 0, 0, 0, 0, 0, 0, 0)
}

// P3.1: beside a Reset All tells all eight as they were, or as they are then.
func TestAllBesideReset(t *testing.T) {
	was, then := []int{1, 2, 4, 8, 16, 32, 64, 128}, make([]int, 8)
	for range 20000 {
		m := full(t)
		atOnce(8, func(i int) {
			if i == 4 {
				m.Reset()
				return
			}
			if list := m.All(); !slices.Equal(list, was) && !slices.Equal(list, then) {
				t.Errorf("All() = %v", list)
			}
		})
		all(t, m, then...)
	}
}
