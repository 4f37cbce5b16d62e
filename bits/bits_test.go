package bits_test

import (
	"math"
	"math/rand"
	"slices"
	"testing"

	"quantum/api"
	"quantum/bits"
)

// The same by the definitions: a set is a list that tells of each number below N whether it is a member.

// setOf returns the set with the members of a list.
func setOf(is []bool) bits.Set {
	s := bits.Set{N: len(is), Words: make([]uint64, (len(is)+63)/64)}
	for i, member := range is {
		if member {
			s.Words[i/64] |= 1 << (i % 64)
		}
	}
	return s
}

// membersOf returns the members of a list, in increasing order.
func membersOf(is []bool) []int {
	var l []int
	for i, member := range is {
		if member {
			l = append(l, i)
		}
	}
	return l
}

// runsOf returns the runs of a list, by their definition.
func runsOf(is []bool) [][2]int {
	has := func(i int) bool { return i >= 0 && i < len(is) && is[i] }
	var l [][2]int
	for i := range is {
		if !has(i) || has(i-1) {
			continue
		}
		end := i
		for has(end) {
			end++
		}
		l = append(l, [2]int{i, end})
	}
	return l
}

// someLists returns all lists of up to 9 numbers, and lists of other lengths, about those of whole words: none, all, each second one, the first, the last, and some without a pattern.
func someLists() [][]bool {
	var all [][]bool
	for n := range 10 {
		for x := range 1 << n {
			is := make([]bool, n)
			for i := range is {
				is[i] = x>>i&1 == 1
			}
			all = append(all, is)
		}
	}
	random := rand.New(rand.NewSource(5))
	for _, n := range []int{10, 62, 63, 64, 65, 70, 126, 127, 128, 129, 191, 192, 193, 320, 321} {
		rules := []func(i int) bool{
			func(int) bool { return false },
			func(int) bool { return true },
			func(i int) bool { return i%2 == 0 },
			func(i int) bool { return i%2 == 1 },
			func(i int) bool { return i == 0 },
			func(i int) bool { return i == n-1 },
			func(i int) bool { return i == 0 || i == n-1 },
			func(i int) bool { return i/64%2 == 0 },
			func(i int) bool { return i%64 == 63 || i%64 == 0 },
			func(int) bool { return random.Intn(2) == 0 },
			func(int) bool { return random.Intn(12) == 0 },
			func(int) bool { return random.Intn(60) != 0 },
		}
		for _, rule := range rules {
			all = append(all, listBy(n, rule))
		}
	}
	return all
}

// longLists returns some lists of as many numbers as a set may have, and of one less.
func longLists() [][]bool {
	random := rand.New(rand.NewSource(55))
	var l [][]bool
	for _, n := range []int{bits.MaxN - 1, bits.MaxN} {
		l = append(l,
			listBy(n, func(int) bool { return false }),
			listBy(n, func(int) bool { return true }),
			listBy(n, func(i int) bool { return i == n-1 }),
			listBy(n, func(int) bool { return random.Intn(3) == 0 }),
			listBy(n, func(int) bool { return random.Intn(500) == 0 }))
	}
	return l
}

func listBy(n int, rule func(i int) bool) []bool {
	is := make([]bool, n)
	for i := range is {
		is[i] = rule(i)
	}
	return is
}

// numbersAbout returns all numbers from -3 to n + 3, or of many some, and those of other words, and the least and the greatest one.
func numbersAbout(n int) []int {
	l := []int{math.MinInt, math.MinInt + 1, -65536, -65, -64, n + 64, n + 65, 65535, 65536, 65537, math.MaxInt - 1, math.MaxInt}
	step := 1
	if n > 1000 {
		step = 997
	}
	for i := -3; i <= n+3; i += step {
		l = append(l, i)
	}
	return append(l, n-2, n-1, n, n+1)
}

// wrongSets returns sets that are not right.
func wrongSets() []bits.Set {
	most := make([]uint64, bits.MaxN/64)
	return []bits.Set{
		{N: -1},
		{N: -1, Words: []uint64{1}},
		{N: -63},
		{N: -64, Words: []uint64{1}},
		{N: math.MinInt},
		{N: math.MinInt, Words: []uint64{1}},
		{N: math.MaxInt},
		{N: math.MaxInt, Words: []uint64{1}},
		{N: math.MaxInt - 62, Words: nil},
		{N: 1},
		{N: 64},
		{N: 65, Words: []uint64{1}},
		{N: 128, Words: []uint64{1}},
		{N: 0, Words: []uint64{0}},
		{N: 0, Words: []uint64{1}},
		{N: 1, Words: []uint64{1, 0}},
		{N: 64, Words: []uint64{1, 0}},
		{N: 1, Words: []uint64{2}},
		{N: 1, Words: []uint64{3}},
		{N: 1, Words: []uint64{1 << 63}},
		{N: 63, Words: []uint64{1 << 63}},
		{N: 63, Words: []uint64{math.MaxUint64}},
		{N: 65, Words: []uint64{0, 2}},
		{N: 70, Words: []uint64{0, 64}},
		{N: 127, Words: []uint64{0, 1<<63 | 1}},
		{N: bits.MaxN + 1, Words: append(slices.Clone(most), 1)},
		{N: bits.MaxN + 1, Words: most},
		{N: bits.MaxN, Words: most[1:]},
		{N: bits.MaxN, Words: append(slices.Clone(most), 0)},
		{N: bits.MaxN - 1, Words: append(slices.Clone(most[1:]), 1<<63)},
	}
}

func same(a, b bits.Set) bool { return a.N == b.N && slices.Equal(a.Words, b.Words) }

// gives fails the test unless a call made a set without an error.
func gives(t *testing.T, name string, got bits.Set, e api.Errno, want bits.Set) {
	t.Helper()
	if !same(got, want) || e != api.OK {
		t.Fatalf("%s = %v, %d, want %v", name, got, e, want)
	}
}

// refuses fails the test unless a call made an error, and no set.
func refuses(t *testing.T, name string, got bits.Set, e api.Errno, want api.Errno) {
	t.Helper()
	if got.N != 0 || len(got.Words) != 0 || e != want {
		t.Fatalf("%s = %v, %d, want no set, %d", name, got, e, want)
	}
}

// tells fails the test unless a call told a number, or false and 0.
func tells(t *testing.T, name string, s bits.Set, arg, got int, is bool, want int, wantIs bool) {
	t.Helper()
	if got != want || is != wantIs {
		t.Fatalf("%s(%v, %d) = %d, %t, want %d, %t", name, s, arg, got, is, want, wantIs)
	}
}

// example is the set of the chapter's examples.
func example(t *testing.T) bits.Set {
	t.Helper()
	s, e := bits.Of(70, []int{1, 64, 65, 3})
	if e != api.OK {
		t.Fatalf("Of(70, 1 64 65 3): %d", e)
	}
	return s
}

// P5.1

func TestConstants(t *testing.T) {
	if bits.MaxN != 65536 || bits.ErrSet != 50 || bits.ErrSize != 51 {
		t.Error("a constant is not that of the chapter")
	}
}

func TestNew(t *testing.T) {
	for _, n := range []int{0, 1, 2, 63, 64, 65, 127, 128, 129, 65471, 65472, 65473, 65535, 65536} {
		s, e := bits.New(n)
		gives(t, "New", s, e, setOf(make([]bool, n)))
		if !bits.Right(s) || bits.Count(s) != 0 {
			t.Errorf("New(%d) is not right, or has members", n)
		}
	}
	for _, n := range []int{-1, -64, math.MinInt, 65537, 1 << 32, math.MaxInt - 63, math.MaxInt} {
		s, e := bits.New(n)
		refuses(t, "New", s, e, api.ErrArg)
	}
}

func TestOfExample(t *testing.T) {
	gives(t, "Of(70, 1 64 65 3)", example(t), api.OK, bits.Set{N: 70, Words: []uint64{10, 3}})
}

func TestOf(t *testing.T) {
	random := rand.New(rand.NewSource(51))
	for _, is := range append(someLists(), longLists()...) {
		l := membersOf(is)
		s, e := bits.Of(len(is), l)
		gives(t, "Of", s, e, setOf(is))
		// In any order, and as often as they come.
		more := append(slices.Clone(l), l[:len(l)/2]...)
		random.Shuffle(len(more), func(i, k int) { more[i], more[k] = more[k], more[i] })
		before := slices.Clone(more)
		s, e = bits.Of(len(is), more)
		gives(t, "Of", s, e, setOf(is))
		if !slices.Equal(more, before) {
			t.Fatalf("Of changed its list %v to %v", before, more)
		}
	}
	for _, none := range [][]int{nil, {}} {
		s, e := bits.Of(0, none)
		gives(t, "Of(0)", s, e, bits.Set{})
		s, e = bits.Of(65, none)
		gives(t, "Of(65)", s, e, bits.Set{N: 65, Words: []uint64{0, 0}})
	}
}

func TestOfFaults(t *testing.T) {
	for _, c := range []struct {
		n int
		l []int
	}{
		{-1, nil}, {math.MinInt, nil}, {65537, nil}, {math.MaxInt, nil},
		{-1, []int{0}}, {65537, []int{0}}, {math.MaxInt, []int{5}},
		{0, []int{0}}, {0, []int{-1}}, {1, []int{1}}, {1, []int{-1}}, {1, []int{0, 0, 1}},
		{64, []int{64}}, {63, []int{63}}, {65, []int{0, 65}}, {65, []int{65, 0}}, {65, []int{127}},
		{70, []int{1, 64, 70, 3}}, {70, []int{1, -64}},
		{5, []int{math.MinInt}}, {5, []int{math.MaxInt}}, {65536, []int{65536}}, {65536, []int{-1}},
	} {
		s, e := bits.Of(c.n, c.l)
		refuses(t, "Of", s, e, api.ErrArg)
	}
}

func TestRight(t *testing.T) {
	for _, is := range append(someLists(), longLists()...) {
		if s := setOf(is); !bits.Right(s) {
			t.Fatalf("%v is not right", s)
		}
	}
	for _, s := range []bits.Set{{}, {Words: []uint64{}}, {N: 64, Words: []uint64{math.MaxUint64}}, {N: 63, Words: []uint64{math.MaxInt64}}, {N: 70, Words: []uint64{0, 63}}} {
		if !bits.Right(s) {
			t.Errorf("%v is not right", s)
		}
	}
	for _, s := range wrongSets() {
		if bits.Right(s) {
			t.Errorf("N %d with %d words is right", s.N, len(s.Words))
		}
	}
}

// TestRightOfEachBit holds one bit of a word more, and all N below, against the definition.
func TestRightOfEachBit(t *testing.T) {
	for n := range 131 {
		for size := range 4 {
			words := make([]uint64, size)
			if want := size == (n+63)/64; bits.Right(bits.Set{N: n, Words: words}) != want {
				t.Fatalf("N %d with %d words: Right is %t", n, size, !want)
			}
			for k := range 64 * size {
				words[k/64] = 1 << (k % 64)
				if want := size == (n+63)/64 && k < n; bits.Right(bits.Set{N: n, Words: words}) != want {
					t.Fatalf("N %d with the bit %d of %d words: Right is %t", n, k, size, !want)
				}
				words[k/64] = 0
			}
		}
	}
}

// P5.2

func TestHas(t *testing.T) {
	for _, is := range append(someLists(), longLists()...) {
		s := setOf(is)
		for _, i := range numbersAbout(len(is)) {
			if want := i >= 0 && i < len(is) && is[i]; bits.Has(s, i) != want {
				t.Fatalf("Has(%v, %d) is %t", s, i, !want)
			}
		}
	}
}

func TestWithoutExample(t *testing.T) {
	s, e := bits.Without(example(t), 64)
	gives(t, "Without 64", s, e, bits.Set{N: 70, Words: []uint64{10, 2}})
}

func TestWithAndWithout(t *testing.T) {
	holds := func(s bits.Set, is []bool, i int) {
		t.Helper()
		before := is[i]
		is[i] = true
		got, e := bits.With(s, i)
		gives(t, "With", got, e, setOf(is))
		is[i] = false
		got, e = bits.Without(s, i)
		gives(t, "Without", got, e, setOf(is))
		is[i] = before
	}
	for _, is := range someLists() {
		s := setOf(is)
		for i := range is {
			holds(s, is, i)
		}
		if !same(s, setOf(is)) {
			t.Fatalf("With or Without changed its set to %v", s)
		}
	}
	long := longLists()
	is := long[len(long)-1]
	s := setOf(is)
	for _, i := range []int{0, 63, 64, 4095, 65471, 65472, 65535} {
		holds(s, is, i)
	}
}

func TestWithAndWithoutFaults(t *testing.T) {
	calls := map[string]func(bits.Set, int) (bits.Set, api.Errno){"With": bits.With, "Without": bits.Without}
	for name, call := range calls {
		for _, is := range someLists() {
			n := len(is)
			for _, i := range []int{math.MinInt, -64, -1, n, n + 1, (n/64 + 1) * 64, math.MaxInt} {
				s, e := call(setOf(is), i)
				refuses(t, name, s, e, api.ErrArg)
			}
		}
		for _, s := range wrongSets() {
			for _, i := range []int{0, 1, -1, 64, s.N, math.MaxInt, math.MinInt} {
				got, e := call(s, i)
				refuses(t, name, got, e, bits.ErrSet)
			}
		}
	}
}

// P5.3

func TestCountAndMembers(t *testing.T) {
	if s := example(t); bits.Count(s) != 4 || !slices.Equal(bits.Members(s), []int{1, 3, 64, 65}) {
		t.Errorf("the example has %d members: %v", bits.Count(s), bits.Members(s))
	}
	for _, is := range append(someLists(), longLists()...) {
		s, want := setOf(is), membersOf(is)
		if got := bits.Members(s); !slices.Equal(got, want) || bits.Count(s) != len(want) {
			t.Fatalf("%v: %d members %v, want %v", s, bits.Count(s), got, want)
		}
	}
}

func TestRank(t *testing.T) {
	s := example(t)
	for _, c := range []struct{ i, want int }{{64, 2}, {1000, 4}, {math.MinInt, 0}, {0, 0}, {1, 0}, {2, 1}, {4, 2}, {65, 3}, {66, 4}, {math.MaxInt, 4}} {
		if got := bits.Rank(s, c.i); got != c.want {
			t.Errorf("Rank of %d is %d, want %d", c.i, got, c.want)
		}
	}
	for _, is := range append(someLists(), longLists()...) {
		s, l := setOf(is), membersOf(is)
		for _, i := range numbersAbout(len(is)) {
			want := 0
			for want < len(l) && l[want] < i {
				want++
			}
			if got := bits.Rank(s, i); got != want {
				t.Fatalf("Rank(%v, %d) = %d, want %d", s, i, got, want)
			}
		}
	}
}

func TestSelect(t *testing.T) {
	k, is := bits.Select(example(t), 3)
	tells(t, "Select", example(t), 3, k, is, 65, true)
	for _, is := range append(someLists(), longLists()...) {
		s, l := setOf(is), membersOf(is)
		for k, want := range l {
			if k > 200 && k%101 != 0 && k != len(l)-1 {
				continue
			}
			got, ok := bits.Select(s, k)
			tells(t, "Select", s, k, got, ok, want, true)
		}
		for _, k := range []int{math.MinInt, -64, -1, len(l), len(l) + 1, len(l) + 64, math.MaxInt} {
			got, ok := bits.Select(s, k)
			tells(t, "Select", s, k, got, ok, 0, false)
		}
	}
}

// P5.4

func TestNextAndBeforeExamples(t *testing.T) {
	s := example(t)
	k, is := bits.Next(s, 4)
	tells(t, "Next", s, 4, k, is, 64, true)
	k, is = bits.Before(s, 64)
	tells(t, "Before", s, 64, k, is, 3, true)
	k, is = bits.Next(s, 66)
	tells(t, "Next", s, 66, k, is, 0, false)
	k, is = bits.Before(s, 1)
	tells(t, "Before", s, 1, k, is, 0, false)
}

func TestNextAndBefore(t *testing.T) {
	for _, is := range append(someLists(), longLists()...) {
		s, l := setOf(is), membersOf(is)
		for _, i := range numbersAbout(len(is)) {
			next, before, hasNext, hasBefore := 0, 0, false, false
			for _, m := range l {
				if m < i {
					before, hasBefore = m, true
				} else if !hasNext {
					next, hasNext = m, true
				}
			}
			got, ok := bits.Next(s, i)
			tells(t, "Next", s, i, got, ok, next, hasNext)
			got, ok = bits.Before(s, i)
			tells(t, "Before", s, i, got, ok, before, hasBefore)
		}
	}
}

func TestRuns(t *testing.T) {
	if got := bits.Runs(example(t)); !slices.Equal(got, [][2]int{{1, 2}, {3, 4}, {64, 66}}) {
		t.Errorf("the runs of the example are %v", got)
	}
	for _, c := range []struct {
		s    bits.Set
		want [][2]int
	}{
		{bits.Set{}, nil},
		{bits.Set{N: 64, Words: []uint64{0}}, nil},
		{bits.Set{N: 64, Words: []uint64{math.MaxUint64}}, [][2]int{{0, 64}}},
		{bits.Set{N: 128, Words: []uint64{1 << 63, 1}}, [][2]int{{63, 65}}},
		{bits.Set{N: 130, Words: []uint64{1<<63 | 1, math.MaxUint64, 3}}, [][2]int{{0, 1}, {63, 130}}},
	} {
		if got := bits.Runs(c.s); !slices.Equal(got, c.want) {
			t.Errorf("the runs of %v are %v, want %v", c.s, got, c.want)
		}
	}
	for _, is := range append(someLists(), longLists()...) {
		if got, want := bits.Runs(setOf(is)), runsOf(is); !slices.Equal(got, want) {
			t.Fatalf("the runs of %v are %v, want %v", setOf(is), got, want)
		}
	}
}

// What P5.2 to P5.4 say of sets that are not right.
func TestWrongSetsHaveNoMembers(t *testing.T) {
	for _, s := range wrongSets() {
		if bits.Count(s) != 0 || len(bits.Members(s)) != 0 || len(bits.Runs(s)) != 0 {
			t.Errorf("N %d with %d words: Count %d, Members %v, Runs %v", s.N, len(s.Words), bits.Count(s), bits.Members(s), bits.Runs(s))
		}
		for _, i := range []int{math.MinInt, -1, 0, 1, 2, 63, 64, 65, 1000, s.N, bits.MaxN, math.MaxInt} {
			if bits.Has(s, i) || bits.Rank(s, i) != 0 {
				t.Errorf("N %d with %d words: Has(%d) is %t, Rank %d", s.N, len(s.Words), i, bits.Has(s, i), bits.Rank(s, i))
			}
			k, is := bits.Select(s, i)
			tells(t, "Select", s, i, k, is, 0, false)
			k, is = bits.Next(s, i)
			tells(t, "Next", s, i, k, is, 0, false)
			k, is = bits.Before(s, i)
			tells(t, "Before", s, i, k, is, 0, false)
		}
	}
}
