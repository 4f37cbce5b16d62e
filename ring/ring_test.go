package ring_test

import (
	"math"
	"math/rand"
	"runtime"
	"slices"
	"testing"
	"time"

	"quantum/api"
	"quantum/ring"
)

// byDefinition is a ring as the chapter's terms tell it: a list of slots, and a list of all that was put.
type byDefinition[E any] struct {
	capacity int
	slots    []ring.Slot[E]
	open     int
	puts     []bool // of each item that was put, whether it was accepted
}

func (d *byDefinition[E]) put(item E) api.Errno {
	if len(d.slots) < d.capacity {
		d.slots = append(d.slots, ring.Slot[E]{Item: item, Before: d.open})
		d.open = 0
		d.puts = append(d.puts, true)
		return api.OK
	}
	d.open++
	d.puts = append(d.puts, false)
	return api.ErrFull
}

func (d *byDefinition[E]) take(n int) ([]ring.Slot[E], api.Errno) {
	if n < 0 {
		return nil, api.ErrArg
	}
	n = min(n, len(d.slots))
	l := d.slots[:n:n]
	d.slots = slices.Clone(d.slots[n:])
	return l, api.OK
}

func (d *byDefinition[E]) drain() ([]ring.Slot[E], int) {
	l, open := d.slots, d.open
	d.slots, d.open = nil, 0
	return l, open
}

func (d *byDefinition[E]) count(accepted bool) int {
	n := 0
	for _, a := range d.puts {
		if a == accepted {
			n++
		}
	}
	return n
}

func newRing[E any](t *testing.T, capacity int) *ring.Ring[E] {
	t.Helper()
	r, err := ring.New[E](capacity)
	if r == nil || err != api.OK {
		t.Fatalf("New(%d) = %v, %d", capacity, r, err)
	}
	return r
}

// looks fails unless a ring answers as it has to.
func looks[E comparable](t *testing.T, r *ring.Ring[E], slots []ring.Slot[E], capacity, open, accepted, refused int) {
	t.Helper()
	if l := r.All(); !slices.Equal(l, slots) {
		t.Fatalf("All() = %v, want %v", l, slots)
	}
	first, ok := r.First()
	if len(slots) > 0 && (first != slots[0] || !ok) || len(slots) == 0 && (first != ring.Slot[E]{} || ok) {
		t.Fatalf("First() = %v, %v of %v", first, ok, slots)
	}
	for _, c := range []struct {
		name      string
		got, want int
	}{
		{"Len", r.Len(), len(slots)},
		{"Capacity", r.Capacity(), capacity},
		{"Open", r.Open(), open},
		{"Accepted", r.Accepted(), accepted},
		{"Refused", r.Refused(), refused},
	} {
		if c.got != c.want {
			t.Fatalf("%s() = %d, want %d", c.name, c.got, c.want)
		}
	}
}

// looksAsDefined fails unless a ring answers as its definition.
func looksAsDefined[E comparable](t *testing.T, r *ring.Ring[E], d *byDefinition[E]) {
	t.Helper()
	looks(t, r, d.slots, d.capacity, d.open, d.count(true), d.count(false))
}

func puts[E any](t *testing.T, r *ring.Ring[E], item E, want api.Errno) {
	t.Helper()
	if err := r.Put(item); err != want {
		t.Fatalf("Put(%v) = %d, want %d", item, err, want)
	}
}

func takes[E comparable](t *testing.T, r *ring.Ring[E], n int, want []ring.Slot[E], wantErr api.Errno) {
	t.Helper()
	if l, err := r.Take(n); !slices.Equal(l, want) || err != wantErr {
		t.Fatalf("Take(%d) = %v, %d, want %v, %d", n, l, err, want, wantErr)
	}
}

func drains[E comparable](t *testing.T, r *ring.Ring[E], want []ring.Slot[E], wantOpen int, wantErr api.Errno) {
	t.Helper()
	if l, open, err := r.Drain(); !slices.Equal(l, want) || open != wantOpen || err != wantErr {
		t.Fatalf("Drain() = %v, %d, %d, want %v, %d, %d", l, open, err, want, wantOpen, wantErr)
	}
}

func TestConstants(t *testing.T) {
	if ring.MaxCapacity != 65536 {
		t.Error("a constant is not that of the chapter")
	}
}

// The chapter's examples.

func TestExamples(t *testing.T) {
	r := newRing[string](t, 2)
	puts(t, r, "A", api.OK)
	puts(t, r, "B", api.OK)
	puts(t, r, "C", api.ErrFull)
	puts(t, r, "D", api.ErrFull)
	looks(t, r, []ring.Slot[string]{{Item: "A"}, {Item: "B"}}, 2, 2, 2, 2)
	takes(t, r, 1, []ring.Slot[string]{{Item: "A"}}, api.OK)
	puts(t, r, "E", api.OK)
	puts(t, r, "F", api.ErrFull)
	looks(t, r, []ring.Slot[string]{{Item: "B"}, {Item: "E", Before: 2}}, 2, 1, 3, 3)
	drains(t, r, []ring.Slot[string]{{Item: "B"}, {Item: "E", Before: 2}}, 1, api.OK)
	looks(t, r, nil, 2, 0, 3, 3)
	puts(t, r, "G", api.OK)
	looks(t, r, []ring.Slot[string]{{Item: "G"}}, 2, 0, 4, 3)
	takes(t, r, -1, nil, api.ErrArg)
	looks(t, r, []ring.Slot[string]{{Item: "G"}}, 2, 0, 4, 3)
	takes(t, r, 5, []ring.Slot[string]{{Item: "G"}}, api.OK)
	looks(t, r, nil, 2, 0, 4, 3)
}

// P8.1

func TestNew(t *testing.T) {
	for _, capacity := range []int{1, 2, 7, 8, 9, 100, 65535, 65536} {
		looks(t, newRing[int](t, capacity), nil, capacity, 0, 0, 0)
	}
	for _, capacity := range []int{math.MinInt, -65536, -1, 0, 65537, 1 << 32, 1<<32 + 1, math.MaxInt} {
		if r, err := ring.New[int](capacity); r != nil || err != api.ErrArg {
			t.Errorf("New(%d) = %v, %d", capacity, r, err)
		}
	}
}

func TestRingsShareNoState(t *testing.T) {
	a, b := newRing[int](t, 1), newRing[int](t, 1)
	puts(t, a, 5, api.OK)
	puts(t, a, 6, api.ErrFull)
	looks(t, a, []ring.Slot[int]{{Item: 5}}, 1, 1, 1, 1)
	looks(t, b, nil, 1, 0, 0, 0)
}

// P8.2

func TestPutUpToTheCapacity(t *testing.T) {
	for _, capacity := range []int{1, 2, 3, 7, 8, 9, 15, 16, 17, 100} {
		r := newRing[int](t, capacity)
		var want []ring.Slot[int]
		for i := range capacity {
			puts(t, r, i, api.OK)
			want = append(want, ring.Slot[int]{Item: i})
			looks(t, r, want, capacity, 0, i+1, 0)
		}
		for i := range 5 {
			puts(t, r, -1, api.ErrFull)
			looks(t, r, want, capacity, i+1, capacity, i+1)
		}
	}
}

func TestGreatestCapacity(t *testing.T) {
	r := newRing[int](t, 65536)
	for round := range 3 {
		for i := range 65536 {
			if err := r.Put(i); err != api.OK {
				t.Fatalf("round %d: Put(%d) = %d", round, i, err)
			}
		}
		puts(t, r, 0, api.ErrFull)
		// One more is let in behind those that are there, and goes around.
		takes(t, r, 1, []ring.Slot[int]{{Item: 0}}, api.OK)
		puts(t, r, 65536, api.OK)
		puts(t, r, 0, api.ErrFull)
		l, open, err := r.Drain()
		if len(l) != 65536 || open != 1 || err != api.OK {
			t.Fatalf("Drain: %d slots, %d, %d", len(l), open, err)
		}
		for i, s := range l {
			if s.Item != i+1 || s.Before != i/65535 {
				t.Fatalf("slot %d is %v", i, s)
			}
		}
		looks(t, r, nil, 65536, 0, (round+1)*65537, (round+1)*2)
	}
}

// P8.3

func TestTakeLeavesTheOpenRun(t *testing.T) {
	r := newRing[int](t, 3)
	for i := range 5 {
		r.Put(i)
	}
	takes(t, r, 0, nil, api.OK)
	looks(t, r, []ring.Slot[int]{{Item: 0}, {Item: 1}, {Item: 2}}, 3, 2, 3, 2)
	takes(t, r, 2, []ring.Slot[int]{{Item: 0}, {Item: 1}}, api.OK)
	looks(t, r, []ring.Slot[int]{{Item: 2}}, 3, 2, 3, 2)
	takes(t, r, math.MaxInt, []ring.Slot[int]{{Item: 2}}, api.OK)
	looks(t, r, nil, 3, 2, 3, 2)
	takes(t, r, math.MaxInt, nil, api.OK)
	looks(t, r, nil, 3, 2, 3, 2)
	puts(t, r, 7, api.OK)
	puts(t, r, 8, api.OK)
	looks(t, r, []ring.Slot[int]{{Item: 7, Before: 2}, {Item: 8}}, 3, 0, 5, 2)
}

func TestTakeOfLessThanNone(t *testing.T) {
	r := newRing[int](t, 2)
	for i := range 3 {
		r.Put(i)
	}
	for _, n := range []int{-1, -2, math.MinInt} {
		takes(t, r, n, nil, api.ErrArg)
		looks(t, r, []ring.Slot[int]{{Item: 0}, {Item: 1}}, 2, 1, 2, 1)
	}
}

func TestDrainEndsTheOpenRun(t *testing.T) {
	r := newRing[int](t, 1)
	drains(t, r, nil, 0, api.OK)
	puts(t, r, 1, api.OK)
	drains(t, r, []ring.Slot[int]{{Item: 1}}, 0, api.OK)
	puts(t, r, 2, api.OK)
	puts(t, r, 3, api.ErrFull)
	takes(t, r, 1, []ring.Slot[int]{{Item: 2}}, api.OK)
	// No slots are there, but an open run.
	drains(t, r, nil, 1, api.OK)
	drains(t, r, nil, 0, api.OK)
	puts(t, r, 4, api.OK)
	looks(t, r, []ring.Slot[int]{{Item: 4}}, 1, 0, 3, 1)
}

// P8.1 to P8.4, by the definition: all sequences of a few steps, and long ones without a pattern.

// step does a step both ways, and fails unless they are the same: 0 and 1 put, the others take or drain.
func step(t *testing.T, r *ring.Ring[int], d *byDefinition[int], kind, item int) api.Errno {
	t.Helper()
	switch kind {
	case 0, 1:
		want := d.put(item)
		puts(t, r, item, want)
		return want
	case 2:
		want, open := d.drain()
		drains(t, r, want, open, api.OK)
		return api.OK
	}
	want, err := d.take(kind - 4)
	takes(t, r, kind-4, want, err)
	return err
}

func TestAllShortSequences(t *testing.T) {
	const kinds, length = 7, 6 // put, put, drain, Take(-1) .. Take(2)
	sequences := 1
	for range length {
		sequences *= kinds
	}
	for capacity := 1; capacity <= 3; capacity++ {
		for s := range sequences {
			r, d := newRing[int](t, capacity), &byDefinition[int]{capacity: capacity}
			for i, rest := 0, s; i < length; i, rest = i+1, rest/kinds {
				step(t, r, d, rest%kinds, i+1)
			}
			looksAsDefined(t, r, d)
		}
	}
}

func TestLongSequences(t *testing.T) {
	random := rand.New(rand.NewSource(8))
	seen := map[api.Errno]int{}
	for _, capacity := range []int{1, 2, 3, 5, 8, 9, 13, 16, 17, 31, 64, 100} {
		r, d := newRing[int](t, capacity), &byDefinition[int]{capacity: capacity}
		putsOf := 2
		for i := range 3000 {
			if i%100 == 0 {
				putsOf = 1 + random.Intn(40) // now mostly empty, now mostly full
			}
			kind := random.Intn(2)
			if random.Intn(putsOf) == 0 {
				kind = 2 + random.Intn(3+capacity)
				if kind == 2 && random.Intn(4) > 0 {
					kind = 5
				}
			}
			seen[step(t, r, d, kind, i)]++
			looksAsDefined(t, r, d)
		}
	}
	for _, err := range []api.Errno{api.OK, api.ErrFull, api.ErrArg} {
		if seen[err] < 100 {
			t.Errorf("only %d times %d", seen[err], err)
		}
	}
}

// P8.5

func TestConsequences(t *testing.T) {
	random := rand.New(rand.NewSource(85))
	for range 300 {
		capacity := 1 + random.Intn(12)
		r := newRing[int](t, capacity)
		var accepted, taken []int
		put, before := 0, 0 // how many were put; the runs of what was taken, and what Drain returned
		gather := func(l []ring.Slot[int]) {
			for _, s := range l {
				taken, before = append(taken, s.Item), before+s.Before
			}
		}
		for range 200 {
			switch random.Intn(12) {
			case 0:
				l, open, _ := r.Drain()
				gather(l)
				before += open
				for i := range capacity {
					put++
					puts(t, r, put, api.OK)
					accepted = append(accepted, put)
					if last := r.All()[i]; last.Before != 0 || last.Item != put {
						t.Fatalf("after a Drain, slot %d is %v", i, last)
					}
				}
			case 1, 2:
				l, _ := r.Take(random.Intn(4))
				gather(l)
			default:
				put++
				if r.Put(put) == api.OK {
					accepted = append(accepted, put)
				}
			}
			there := 0
			for _, s := range r.All() {
				there += s.Before
			}
			if r.Accepted()+r.Refused() != put || before+there+r.Open() != r.Refused() {
				t.Fatalf("%d put: %d accepted, %d refused: %d before, %d there, %d open", put, r.Accepted(), r.Refused(), before, there, r.Open())
			}
		}
		l, _, _ := r.Drain()
		gather(l)
		if !slices.Equal(taken, accepted) {
			t.Fatalf("taken %v, accepted %v", taken, accepted)
		}
	}
}

func TestARunIsCountedInOnePlace(t *testing.T) {
	r := newRing[int](t, 2)
	for i := range 10 {
		r.Put(i)
	}
	// Taking in the middle of a run does not divide it.
	takes(t, r, 2, []ring.Slot[int]{{Item: 0}, {Item: 1}}, api.OK)
	puts(t, r, 10, api.OK)
	puts(t, r, 11, api.OK)
	drains(t, r, []ring.Slot[int]{{Item: 10, Before: 8}, {Item: 11}}, 0, api.OK)
}

// DOC.md, R8: what is no ring.

func TestNoRings(t *testing.T) {
	for name, r := range map[string]*ring.Ring[int]{"nil": nil, "zero": {}} {
		for range 2 {
			puts(t, r, 1, api.ErrNil)
			takes(t, r, -1, nil, api.ErrNil)
			takes(t, r, 1, nil, api.ErrNil)
			drains(t, r, nil, 0, api.ErrNil)
			looks(t, r, nil, 0, 0, 0, 0)
		}
		if r != nil && r.Capacity() != 0 {
			t.Errorf("%s became a ring", name)
		}
	}
}

// What holds of all promises: rings of any items; results are new memory, also those of items that were taken.

type pair struct {
	name  string
	list  [2]int
	where *int
}

func TestItemsOfOtherTypes(t *testing.T) {
	one := 1
	structs := newRing[pair](t, 1)
	item := pair{name: "a", list: [2]int{3, 4}, where: &one}
	puts(t, structs, item, api.OK)
	item.list[0] = 9
	puts(t, structs, item, api.ErrFull)
	drains(t, structs, []ring.Slot[pair]{{Item: pair{name: "a", list: [2]int{3, 4}, where: &one}}}, 1, api.OK)

	nothing := newRing[struct{}](t, 2)
	for i := range 5 {
		if err := nothing.Put(struct{}{}); (err == api.OK) != (i < 2) {
			t.Errorf("Put %d = %d", i, err)
		}
	}
	looks(t, nothing, []ring.Slot[struct{}]{{}, {}}, 2, 3, 2, 3)

	lists := newRing[[]int](t, 3)
	lists.Put(nil)
	lists.Put([]int{1, 2})
	l, err := lists.Take(2)
	if len(l) != 2 || l[0].Item != nil || !slices.Equal(l[1].Item, []int{1, 2}) || err != api.OK {
		t.Errorf("Take(2) = %v, %d", l, err)
	}
}

func TestResultsShareNoMemory(t *testing.T) {
	r, d := newRing[int](t, 20), &byDefinition[int]{capacity: 20}
	spoil := func(l []ring.Slot[int]) {
		l = l[:cap(l)]
		for i := range l {
			l[i] = ring.Slot[int]{Item: -7, Before: -7}
		}
	}
	for i := range 300 {
		for range 4 {
			r.Put(i)
			d.put(i)
		}
		l, _ := r.Take(i % 6)
		kept := slices.Clone(l)
		d.take(i % 6)
		spoil(r.All())
		looksAsDefined(t, r, d)
		if !slices.Equal(l, kept) {
			t.Fatalf("what was taken became %v", l)
		}
		spoil(l)
		if i%50 == 49 {
			m, _, _ := r.Drain()
			d.drain()
			spoil(m)
		}
		looksAsDefined(t, r, d)
	}
}

// TestWhatWasTakenIsNotKept tells that a ring keeps nothing alive that was taken out of it.
func TestWhatWasTakenIsNotKept(t *testing.T) {
	r := newRing[*[1 << 20]byte](t, 64)
	gone := make(chan int, 8)
	for i := range 8 {
		item := new([1 << 20]byte)
		runtime.AddCleanup(item, func(n int) { gone <- n }, i)
		r.Put(item)
	}
	r.Take(3)
	r.Drain()
	for range 8 {
		runtime.GC()
		select {
		case <-gone:
		case <-time.After(20 * time.Second):
			t.Fatal("an item that was taken is kept")
		}
	}
	runtime.KeepAlive(r)
}
