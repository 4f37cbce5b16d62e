package seq_test

import (
	"math"
	"math/rand"
	"slices"
	"testing"

	"quantum/api"
	"quantum/seq"
)

// operation is a function of two sets, and what it does with masks.
type operation struct {
	name  string
	of    func(a, b []seq.Run) ([]seq.Run, api.Errno)
	masks func(a, b int) int
}

func operations() []operation {
	return []operation{
		{"Union", seq.Union, func(a, b int) int { return a | b }},
		{"Common", seq.Common, func(a, b int) int { return a & b }},
		{"Without", seq.Without, func(a, b int) int { return a &^ b }},
	}
}

// maskOf returns the bit 1 for true.
func maskOf(has bool) int {
	if has {
		return 1
	}
	return 0
}

// made returns what a function makes of right arguments.
func made(t *testing.T, f func(a, b []seq.Run) ([]seq.Run, api.Errno), a, b []seq.Run) []seq.Run {
	t.Helper()
	l, err := f(a, b)
	if err != api.OK || !seq.Right(l) {
		t.Fatalf("of %v and %v: %v, %d", a, b, l, err)
	}
	return l
}

// rest returns the complement of a set.
func rest(t *testing.T, l []seq.Run) []seq.Run {
	t.Helper()
	m, err := seq.Missing(l, 1, seq.MaxSeq+1)
	if err != api.OK || !seq.Right(m) {
		t.Fatalf("Missing(%v) = %v, %d", l, m, err)
	}
	return m
}

func count(t *testing.T, l []seq.Run) int {
	t.Helper()
	n, err := seq.Count(l)
	if err != api.OK {
		t.Fatalf("Count(%v) = %d", l, err)
	}
	return n
}

// someSet returns a set without a pattern: of short runs or of long ones, often with numbers at the ends.
func someSet(random *rand.Rand) []seq.Run {
	var l []seq.Run
	most := []int{3, 50, 1 << 20, 1 << 46}[random.Intn(4)]
	at := 1 + random.Intn(3)
	if random.Intn(2) == 0 {
		at = seq.MaxSeq - random.Intn(10*most)
	}
	at = max(at, 1)
	for range random.Intn(12) {
		r := seq.Run{First: at, Count: 1 + random.Intn(most)}
		r.Count = min(r.Count, seq.MaxSeq+1-r.First)
		if r.Count < 1 {
			break
		}
		l = append(l, r)
		at += r.Count + 1 + random.Intn(most)
	}
	return l
}

// bordersOf returns where the numbers of sets may begin or end, and the numbers before and behind.
func bordersOf(sets ...[]seq.Run) []int {
	l := []int{1, 2, seq.MaxSeq - 1, seq.MaxSeq}
	for _, set := range sets {
		for _, r := range set {
			l = append(l, r.First-1, r.First, r.First+r.Count-1, r.First+r.Count)
		}
	}
	return l
}

// P9.3

func TestOperationsOfAllSmallSets(t *testing.T) {
	for _, start := range starts {
		sets := make([][]seq.Run, 1<<width)
		for mask := range sets {
			sets[mask] = setOf(start, mask)
		}
		for _, o := range operations() {
			for a := range sets {
				for b := range sets {
					l, err := o.of(sets[a], sets[b])
					if !slices.Equal(l, sets[o.masks(a, b)]) || err != api.OK {
						t.Fatalf("%s(%v, %v) = %v, %d", o.name, sets[a], sets[b], l, err)
					}
				}
			}
		}
	}
}

func TestOperationsOfGreatSets(t *testing.T) {
	random := rand.New(rand.NewSource(93))
	for range 3000 {
		a, b := someSet(random), someSet(random)
		if random.Intn(3) == 0 {
			b = slices.Clone(a[:len(a)/2])
		}
		for _, o := range operations() {
			l := made(t, o.of, a, b)
			for _, n := range bordersOf(a, b, l) {
				inA, _ := seq.Has(a, n)
				inB, _ := seq.Has(b, n)
				in, _ := seq.Has(l, n)
				if maskOf(in) != o.masks(maskOf(inA), maskOf(inB)) {
					t.Fatalf("%s(%v, %v) = %v: %d", o.name, a, b, l, n)
				}
			}
		}
	}
}

func TestOperationsOfTheMostRuns(t *testing.T) {
	odd, even := everySecond(1, seq.MaxRuns), everySecond(2, seq.MaxRuns)
	later := everySecond(2*seq.MaxRuns+2, seq.MaxRuns)
	last := 2 * seq.MaxRuns
	all, err := seq.Union(odd, even)
	isRuns(t, "Union", all, []seq.Run{{First: 1, Count: last}}, err, api.OK)
	l, err := seq.Without(all, odd)
	isRuns(t, "Without", l, even, err, api.OK)
	l, err = seq.Common(all, odd)
	isRuns(t, "Common", l, odd, err, api.OK)
	l, err = seq.Common(odd, even)
	isRuns(t, "Common", l, nil, err, api.OK)

	// More runs than a right set has.
	l, err = seq.Union(odd, later)
	isRuns(t, "Union", l, append(everySecond(1, seq.MaxRuns), later...), err, api.OK)
	if len(l) != 2*seq.MaxRuns || seq.Right(l) {
		t.Errorf("%d runs, right: %v", len(l), seq.Right(l))
	}
	if n, err := seq.Count(l); n != 0 || err != seq.ErrRuns {
		t.Errorf("Count = %d, %d", n, err)
	}
	l, err = seq.Without([]seq.Run{{First: 1, Count: seq.MaxSeq}}, even)
	if len(l) != seq.MaxRuns+1 || l[seq.MaxRuns] != (seq.Run{First: last + 1, Count: seq.MaxSeq - last}) || err != api.OK {
		t.Errorf("Without: %d runs, %d", len(l), err)
	}
	l, err = seq.Missing(even, 1, last+2)
	isRuns(t, "Missing", l, everySecond(1, seq.MaxRuns+1), err, api.OK)
}

func TestOperationsOfWrongSets(t *testing.T) {
	right := []seq.Run{{First: 2, Count: 3}}
	wrong := wrongSets()
	for name, w := range wrong {
		for _, o := range operations() {
			for _, pair := range [][2][]seq.Run{{w, right}, {right, w}, {w, nil}, {nil, w}, {w, w}, {w, wrong["a zero run"]}} {
				if l, err := o.of(pair[0], pair[1]); len(l) != 0 || err != seq.ErrRuns {
					t.Errorf("%s: %s = %d runs, %d", name, o.name, len(l), err)
				}
			}
		}
	}
}

// P9.4

func TestMissingAndFirstOfAllSmallSets(t *testing.T) {
	for _, start := range starts {
		for mask := range 1 << width {
			l, numbers := setOf(start, mask), numbersOf(start, mask)
			for from := max(1, start-2); from <= start+width+1 && from <= seq.MaxSeq+1; from++ {
				var missing []int
				for next := from; next <= start+width+2 && next <= seq.MaxSeq+1; next++ {
					if next > from && !slices.Contains(numbers, next-1) {
						missing = append(missing, next-1)
					}
					m, err := seq.Missing(l, from, next)
					isRuns(t, "Missing", m, runsOf(missing), err, api.OK)
					n, err := seq.First(l, from, next)
					want, wantErr := 0, api.ErrNone
					if len(missing) > 0 {
						want, wantErr = missing[0], api.OK
					}
					if n != want || err != wantErr {
						t.Fatalf("First(%v, %d, %d) = %d, %d", l, from, next, n, err)
					}
				}
			}
		}
	}
}

func TestMissingAndFirstAtTheLimits(t *testing.T) {
	const all = seq.MaxSeq
	for _, c := range []struct {
		name       string
		l          []seq.Run
		from, next int
		want       []seq.Run
	}{
		{"of none, all", nil, 1, all + 1, []seq.Run{{First: 1, Count: all}}},
		{"of none, the greatest", nil, all, all + 1, []seq.Run{{First: all, Count: 1}}},
		{"of none, none", nil, all + 1, all + 1, nil},
		{"of none, none before 1", nil, 1, 1, nil},
		{"of all", []seq.Run{{First: 1, Count: all}}, 1, all + 1, nil},
		{"of all but the greatest", []seq.Run{{First: 1, Count: all - 1}}, 1, all + 1, []seq.Run{{First: all, Count: 1}}},
		{"of all but the least", []seq.Run{{First: 2, Count: all - 1}}, 1, all + 1, []seq.Run{{First: 1, Count: 1}}},
		{"of the least and the greatest", []seq.Run{{First: 1, Count: 1}, {First: all, Count: 1}}, 1, all + 1, []seq.Run{{First: 2, Count: all - 2}}},
		{"inside of a run", []seq.Run{{First: 5, Count: 100}}, 50, 60, nil},
		{"behind all runs", []seq.Run{{First: 5, Count: 5}}, 10, 12, []seq.Run{{First: 10, Count: 2}}},
		{"before all runs", []seq.Run{{First: 5, Count: 5}}, 2, 5, []seq.Run{{First: 2, Count: 3}}},
	} {
		m, err := seq.Missing(c.l, c.from, c.next)
		isRuns(t, c.name, m, c.want, err, api.OK)
		n, err := seq.First(c.l, c.from, c.next)
		if len(c.want) > 0 && (n != c.want[0].First || err != api.OK) || len(c.want) == 0 && (n != 0 || err != api.ErrNone) {
			t.Errorf("%s: First = %d, %d", c.name, n, err)
		}
	}
}

func TestMissingAndFirstErrors(t *testing.T) {
	bounds := [][2]int{
		{0, 5}, {-1, 5}, {math.MinInt, 5}, {6, 5}, {2, 1}, {1, 0}, {0, 0}, {-1, -1}, {1, math.MinInt}, {math.MinInt, math.MinInt},
		{1, seq.MaxSeq + 2}, {seq.MaxSeq + 2, seq.MaxSeq + 2}, {seq.MaxSeq + 2, seq.MaxSeq + 1},
		{1, math.MaxInt}, {math.MaxInt, math.MaxInt}, {math.MaxInt, 1}, {math.MinInt, math.MaxInt}, {0, seq.MaxSeq + 2},
	}
	wrongHave := func(name string, l []seq.Run, from, next int, want api.Errno) {
		if m, err := seq.Missing(l, from, next); len(m) != 0 || err != want {
			t.Errorf("%s: Missing(%d, %d) = %d runs, %d", name, from, next, len(m), err)
		}
		if n, err := seq.First(l, from, next); n != 0 || err != want {
			t.Errorf("%s: First(%d, %d) = %d, %d", name, from, next, n, err)
		}
	}
	for _, b := range bounds {
		wrongHave("no runs", nil, b[0], b[1], api.ErrArg)
		wrongHave("some runs", []seq.Run{{First: 1, Count: 1}, {First: 4, Count: 9}}, b[0], b[1], api.ErrArg)
		wrongHave("all numbers", []seq.Run{{First: 1, Count: seq.MaxSeq}}, b[0], b[1], api.ErrArg)
	}
	for name, l := range wrongSets() {
		for _, b := range append(bounds, [2]int{1, 1}, [2]int{1, 9}, [2]int{1, seq.MaxSeq + 1}, [2]int{seq.MaxSeq + 1, seq.MaxSeq + 1}) {
			wrongHave(name, l, b[0], b[1], seq.ErrRuns)
		}
	}
}

// P9.5

func TestLawsOfSets(t *testing.T) {
	random := rand.New(rand.NewSource(95))
	same := func(law string, x, y []seq.Run) {
		t.Helper()
		if !slices.Equal(x, y) {
			t.Fatalf("%s: %v, %v", law, x, y)
		}
	}
	or := func(a, b []seq.Run) []seq.Run { return made(t, seq.Union, a, b) }
	and := func(a, b []seq.Run) []seq.Run { return made(t, seq.Common, a, b) }
	minus := func(a, b []seq.Run) []seq.Run { return made(t, seq.Without, a, b) }
	for range 1000 {
		a, b, c := someSet(random), someSet(random), someSet(random)
		same("a or b", or(a, b), or(b, a))
		same("a and b", and(a, b), and(b, a))
		same("a or b or c", or(or(a, b), c), or(a, or(b, c)))
		same("a and b and c", and(and(a, b), c), and(a, and(b, c)))
		same("a or (b and c)", or(a, and(b, c)), and(or(a, b), or(a, c)))
		same("a and (b or c)", and(a, or(b, c)), or(and(a, b), and(a, c)))
		same("a or (a and b)", or(a, and(a, b)), a)
		same("a and (a or b)", and(a, or(a, b)), a)
		same("not (a or b)", rest(t, or(a, b)), and(rest(t, a), rest(t, b)))
		same("not (a and b)", rest(t, and(a, b)), or(rest(t, a), rest(t, b)))
		same("a without b", minus(a, b), and(a, rest(t, b)))
		same("not not a", rest(t, rest(t, a)), a)
		same("a or a", or(a, a), a)
		same("a and a", and(a, a), a)
		same("a without a", minus(a, a), nil)
		same("a or none", or(a, nil), a)
		same("a and none", and(a, nil), nil)
		same("a without none", minus(a, nil), a)
		same("none without a", minus(nil, a), nil)
		same("a in two parts", or(minus(a, b), and(a, b)), a)
		if count(t, or(a, b))+count(t, and(a, b)) != count(t, a)+count(t, b) {
			t.Fatalf("the counts of %v and %v", a, b)
		}
	}
}

func TestMissingAndThereAreAll(t *testing.T) {
	random := rand.New(rand.NewSource(96))
	for range 3000 {
		l := someSet(random)
		near := bordersOf(l)
		from := near[random.Intn(len(near))]
		next := near[random.Intn(len(near))] + 1
		from, next = max(1, min(from, next)), max(1, from, next)
		next = min(next, seq.MaxSeq+1)
		from = min(from, next)
		var between []seq.Run
		if from < next {
			between = []seq.Run{{First: from, Count: next - from}}
		}
		m, err := seq.Missing(l, from, next)
		if err != api.OK {
			t.Fatalf("Missing(%v, %d, %d) = %d", l, from, next, err)
		}
		there := made(t, seq.Common, l, between)
		isRuns(t, "all of them", made(t, seq.Union, m, there), between, api.OK, api.OK)
		isRuns(t, "what is in both", made(t, seq.Common, m, there), nil, api.OK, api.OK)
		n, err := seq.First(l, from, next)
		if len(m) > 0 && (n != m[0].First || err != api.OK) || len(m) == 0 && (n != 0 || err != api.ErrNone) {
			t.Fatalf("First(%v, %d, %d) = %d, %d; Missing %v", l, from, next, n, err, m)
		}
		// Each run that is missing ends where one of the set begins, and begins where one ends, but at the bounds.
		for _, r := range m {
			before, _ := seq.Has(l, r.First-1)
			behind, _ := seq.Has(l, r.First+r.Count)
			if !before && r.First != from || !behind && r.First+r.Count != next {
				t.Fatalf("Missing(%v, %d, %d) = %v", l, from, next, m)
			}
		}
	}
}

func TestASetOfNumbersHasOneList(t *testing.T) {
	random := rand.New(rand.NewSource(97))
	for range 500 {
		start := starts[random.Intn(len(starts))]
		mask := random.Intn(1 << width)
		numbers := numbersOf(start, mask)
		random.Shuffle(len(numbers), func(i, j int) { numbers[i], numbers[j] = numbers[j], numbers[i] })
		l, _, err := seq.Of(numbers)
		isRuns(t, "Of", l, setOf(start, mask), err, api.OK)
		var one []seq.Run
		for _, n := range numbers {
			one = made(t, seq.Union, one, []seq.Run{{First: n, Count: 1}})
		}
		isRuns(t, "one after the other", one, l, api.OK, api.OK)
	}
}

// What holds of all promises: arguments stay, also behind their ends, and results are new memory.

func TestArgumentsStay(t *testing.T) {
	set := func(start, mask int) ([]seq.Run, func() bool) {
		l := append(setOf(start, mask), seq.Run{First: -7, Count: -7}, seq.Run{First: -8, Count: -8})
		kept := slices.Clone(l)
		return l[: len(l)-2 : len(l)], func() bool { return slices.Equal(l, kept) }
	}
	numbers := []int{9, 3, 4, 3, 9, 1, -7, -8}
	kept := slices.Clone(numbers)
	seq.Of(numbers[:6])
	if !slices.Equal(numbers, kept) {
		t.Errorf("Of: %v", numbers)
	}
	for maskA := range 1 << width {
		a, staysA := set(10, maskA)
		b, staysB := set(10, 0x5b)
		for _, o := range operations() {
			o.of(a, b)
			o.of(b, a)
			o.of(a, a)
		}
		seq.Right(a)
		seq.Count(a)
		seq.Has(a, 12)
		seq.Missing(a, 9, 19)
		seq.First(a, 9, 19)
		if !staysA() || !staysB() {
			t.Fatalf("%v, %v", a, b)
		}
	}
}

func TestResultsShareNoMemory(t *testing.T) {
	a, b := setOf(10, 0xb7), setOf(10, 0x2d)
	keptA, keptB := slices.Clone(a), slices.Clone(b)
	spoil := func(l []seq.Run) {
		l = l[:cap(l)]
		for i := range l {
			l[i] = seq.Run{First: -7, Count: -7}
		}
	}
	for _, f := range []func() []seq.Run{
		func() []seq.Run { l, _ := seq.Union(a, b); return l },
		func() []seq.Run { l, _ := seq.Union(a, nil); return l },
		func() []seq.Run { l, _ := seq.Union(nil, a); return l },
		func() []seq.Run { l, _ := seq.Union(a, a); return l },
		func() []seq.Run { l, _ := seq.Common(a, b); return l },
		func() []seq.Run { l, _ := seq.Common(a, a); return l },
		func() []seq.Run { l, _ := seq.Without(a, b); return l },
		func() []seq.Run { l, _ := seq.Without(a, nil); return l },
		func() []seq.Run { l, _ := seq.Missing(a, 1, 30); return l },
		func() []seq.Run { l, _ := seq.Missing(nil, 1, 30); return l },
	} {
		first := f()
		want := slices.Clone(first)
		second := f()
		spoil(first)
		if !slices.Equal(second, want) || !slices.Equal(f(), want) || !slices.Equal(a, keptA) || !slices.Equal(b, keptB) {
			t.Fatalf("%v, %v: %v, want %v", a, b, second, want)
		}
	}
	numbers := []int{4, 2, 2, 9}
	l, twice, _ := seq.Of(numbers)
	spoil(l)
	if !slices.Equal(twice, []int{2}) || !slices.Equal(numbers, []int{4, 2, 2, 9}) {
		t.Errorf("%v of %v", twice, numbers)
	}
	twice[0] = -7
	if l, twice, _ = seq.Of(numbers); !slices.Equal(twice, []int{2}) || !slices.Equal(l, runsOf([]int{2, 4, 9})) {
		t.Errorf("%v, %v of %v", l, twice, numbers)
	}
}
