package bits_test

import (
	"maps"
	"math"
	"math/rand"
	"slices"
	"testing"

	"quantum/api"
	"quantum/bits"
)

// ofTwo are the calls that put two sets together, and what each does with one number.
var ofTwo = []struct {
	name string
	call func(a, b bits.Set) (bits.Set, api.Errno)
	rule func(a, b bool) bool
}{
	{"Or", bits.Or, func(a, b bool) bool { return a || b }},
	{"And", bits.And, func(a, b bool) bool { return a && b }},
	{"Minus", bits.Minus, func(a, b bool) bool { return a && !b }},
}

// eachTwo calls f with all two lists of up to 5 numbers, and with two longer ones of the same length.
func eachTwo(f func(a, b []bool)) {
	byLength := map[int][][]bool{}
	for _, is := range append(someLists(), longLists()...) {
		byLength[len(is)] = append(byLength[len(is)], is)
	}
	random := rand.New(rand.NewSource(505))
	for _, n := range slices.Sorted(maps.Keys(byLength)) {
		l := byLength[n]
		for i, a := range l {
			if n > 5 && n < 10 {
				f(a, l[random.Intn(len(l))])
				continue
			}
			for k, b := range l {
				if n < 1000 || k >= i {
					f(a, b)
				}
			}
		}
	}
}

// must returns the set that a call made.
func must(t *testing.T, s bits.Set, e api.Errno) bits.Set {
	t.Helper()
	if e != api.OK {
		t.Fatalf("%v, %d", s, e)
	}
	return s
}

func not(t *testing.T, s bits.Set) bits.Set {
	t.Helper()
	c, e := bits.Not(s)
	return must(t, c, e)
}

// P5.5

func TestNot(t *testing.T) {
	for _, is := range append(someLists(), longLists()...) {
		want := listBy(len(is), func(i int) bool { return !is[i] })
		got, e := bits.Not(setOf(is))
		gives(t, "Not", got, e, setOf(want))
	}
	for _, c := range []struct{ s, want bits.Set }{
		{bits.Set{}, bits.Set{}},
		{bits.Set{N: 64, Words: []uint64{0}}, bits.Set{N: 64, Words: []uint64{math.MaxUint64}}},
		{bits.Set{N: 70, Words: []uint64{10, 3}}, bits.Set{N: 70, Words: []uint64{math.MaxUint64 - 10, 60}}},
	} {
		got, e := bits.Not(c.s)
		gives(t, "Not", got, e, c.want)
	}
	for _, s := range wrongSets() {
		got, e := bits.Not(s)
		refuses(t, "Not", got, e, bits.ErrSet)
	}
}

func TestTwoSets(t *testing.T) {
	eachTwo(func(a, b []bool) {
		for _, c := range ofTwo {
			want := listBy(len(a), func(i int) bool { return c.rule(a[i], b[i]) })
			got, e := c.call(setOf(a), setOf(b))
			gives(t, c.name, got, e, setOf(want))
		}
	})
}

func TestTwoSetsFaults(t *testing.T) {
	small, large := setOf(make([]bool, 70)), setOf(make([]bool, 71))
	sizes := [][2]bits.Set{{small, large}, {large, small}, {{}, small}, {large, {}}, {setOf(make([]bool, 64)), setOf(make([]bool, 65))}, {setOf(make([]bool, 65535)), setOf(make([]bool, 65536))}}
	for _, c := range ofTwo {
		for _, pair := range sizes {
			s, e := c.call(pair[0], pair[1])
			refuses(t, c.name, s, e, bits.ErrSize)
		}
		for _, wrong := range wrongSets() {
			// A set that is not right comes before two sets with another N, whichever it is.
			for _, other := range []bits.Set{{}, small, large, wrong} {
				s, e := c.call(wrong, other)
				refuses(t, c.name, s, e, bits.ErrSet)
				s, e = c.call(other, wrong)
				refuses(t, c.name, s, e, bits.ErrSet)
			}
		}
	}
}

// P5.6

func TestMembersAndSetsBelongTogether(t *testing.T) {
	for n := range 11 {
		seen := map[string]bool{}
		for x := range uint64(1) << n {
			s := bits.Set{N: n, Words: []uint64{x}[:min(n, 1)]}
			l := bits.Members(s)
			back, e := bits.Of(n, l)
			gives(t, "Of(Members)", back, e, s)
			key := ""
			for _, i := range l {
				key += string(rune('a' + i))
			}
			if seen[key] {
				t.Fatalf("two sets with N %d have the members %v", n, l)
			}
			seen[key] = true
		}
		if len(seen) != 1<<n {
			t.Errorf("N %d has %d sets", n, len(seen))
		}
	}
	for _, is := range append(someLists(), longLists()...) {
		s := setOf(is)
		back, e := bits.Of(s.N, bits.Members(s))
		gives(t, "Of(Members)", back, e, s)
	}
}

func TestRankAndSelectAreInverse(t *testing.T) {
	for _, is := range someLists() {
		s := setOf(is)
		for k := range bits.Count(s) {
			if i, ok := bits.Select(s, k); !ok || !bits.Has(s, i) || bits.Rank(s, i) != k {
				t.Fatalf("%v: Select of %d is %d, %t, whose rank is %d", s, k, i, ok, bits.Rank(s, i))
			}
		}
		for _, i := range bits.Members(s) {
			if got, ok := bits.Select(s, bits.Rank(s, i)); got != i || !ok {
				t.Fatalf("%v: Select of the rank of %d is %d, %t", s, i, got, ok)
			}
		}
	}
}

func TestRunsOfBothAreAllNumbers(t *testing.T) {
	for _, is := range append(someLists(), longLists()...) {
		s := setOf(is)
		all := append(bits.Runs(s), bits.Runs(not(t, s))...)
		slices.SortFunc(all, func(a, b [2]int) int { return a[0] - b[0] })
		at := 0
		for k, r := range all {
			if r[0] != at || r[1] <= at || k > 0 && bits.Has(s, r[0]) == bits.Has(s, r[0]-1) {
				t.Fatalf("%v: the run %v follows %d", s, r, at)
			}
			at = r[1]
		}
		if at != s.N {
			t.Fatalf("%v: the runs end at %d", s, at)
		}
	}
}

func TestNotOfOrIsAndOfTheComplements(t *testing.T) {
	eachTwo(func(is, are []bool) {
		a, b := setOf(is), setOf(are)
		or, e := bits.Or(a, b)
		both, f := bits.And(not(t, a), not(t, b))
		if left, right := not(t, must(t, or, e)), must(t, both, f); !same(left, right) {
			t.Fatalf("%v and %v: %v, and %v", a, b, left, right)
		}
		if twice := not(t, not(t, a)); !same(twice, a) {
			t.Fatalf("Not of Not of %v is %v", a, twice)
		}
	})
}

// What all promises say: arguments stay as they are, and results are new memory.

// spare returns a set whose words have bits behind their end.
func spare(is []bool) (s bits.Set, whole []uint64) {
	s = setOf(is)
	whole = append(s.Words, 77, 77, 77)
	s.Words = whole[:len(s.Words)]
	return s, whole
}

func TestArgumentsStayAndAreNotShared(t *testing.T) {
	for _, n := range []int{0, 1, 63, 64, 65, 130} {
		some := listBy(n, func(i int) bool { return i%3 == 0 })
		a, wholeA := spare(some)
		b, wholeB := spare(listBy(n, func(i int) bool { return i%5 < 2 }))
		wantA, wantB := slices.Clone(wholeA), slices.Clone(wholeB)
		var made []bits.Set
		for _, c := range ofTwo {
			for _, pair := range [][2]bits.Set{{a, b}, {b, a}, {a, a}} {
				s, e := c.call(pair[0], pair[1])
				made = append(made, must(t, s, e))
			}
		}
		made = append(made, not(t, a), not(t, b))
		if n > 0 {
			for _, i := range []int{0, n - 1} {
				with, e := bits.With(a, i)
				without, f := bits.Without(a, i)
				made = append(made, must(t, with, e), must(t, without, f))
			}
		}
		bits.Members(a)
		bits.Runs(a)
		for _, s := range made {
			for at := range s.Words {
				s.Words[at] = 99
			}
			_ = append(s.Words, 99)
		}
		if !slices.Equal(wholeA, wantA) || !slices.Equal(wholeB, wantB) {
			t.Errorf("N %d: arguments are changed, or shared: %v, %v", n, wholeA, wholeB)
		}
	}
}

func TestResultsShareNoMemory(t *testing.T) {
	is := listBy(70, func(i int) bool { return i%2 == 0 })
	s := setOf(is)
	calls := []func() bits.Set{
		func() bits.Set { r, _ := bits.New(70); return r },
		func() bits.Set { r, _ := bits.Of(70, []int{3, 69}); return r },
		func() bits.Set { r, _ := bits.With(s, 1); return r },
		func() bits.Set { r, _ := bits.Without(s, 0); return r },
		func() bits.Set { r, _ := bits.Not(s); return r },
		func() bits.Set { r, _ := bits.Or(s, s); return r },
		func() bits.Set { r, _ := bits.And(s, s); return r },
		func() bits.Set { r, _ := bits.Minus(s, s); return r },
	}
	for k, call := range calls {
		first, want := call(), call()
		for at := range first.Words {
			first.Words[at] = ^first.Words[at]
		}
		if got := call(); !same(got, want) || !same(s, setOf(is)) {
			t.Errorf("the call %d makes %v, and then %v", k, want, got)
		}
	}
	l, runs := bits.Members(s), bits.Runs(s)
	l[0], runs[0] = 9, [2]int{9, 9}
	if !slices.Equal(bits.Members(s), membersOf(is)) || !slices.Equal(bits.Runs(s), runsOf(is)) {
		t.Error("members or runs share memory")
	}
}
