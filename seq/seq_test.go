package seq_test

import (
	"math"
	"math/rand"
	"slices"
	"testing"

	"quantum/api"
	"quantum/seq"
)

// Where the tests by the definition have their few numbers: at the least ones, at the greatest ones, and between.
var starts = []int{1, 2, 1000, 1<<32 - 4, seq.MaxSeq - width, seq.MaxSeq - width + 1}

const width = 8 // how many numbers these are

// runsOf returns the one list of runs of some numbers, which are in increasing order, each once.
func runsOf(numbers []int) []seq.Run {
	var l []seq.Run
	for _, n := range numbers {
		if !slices.Contains(numbers, n-1) {
			count := 1
			for slices.Contains(numbers, n+count) {
				count++
			}
			l = append(l, seq.Run{First: n, Count: count})
		}
	}
	return l
}

// numbersOf returns the numbers of a mask: bit i for the number start + i.
func numbersOf(start, mask int) []int {
	var l []int
	for i := range width {
		if mask>>i&1 == 1 {
			l = append(l, start+i)
		}
	}
	return l
}

// setOf returns the set of the numbers of a mask.
func setOf(start, mask int) []seq.Run { return runsOf(numbersOf(start, mask)) }

// wrongSets returns lists of runs that are no right sets.
func wrongSets() map[string][]seq.Run {
	return map[string][]seq.Run{
		"no number":               {{First: 1, Count: 0}},
		"fewer than no number":    {{First: 5, Count: -1}},
		"the least count":         {{First: 5, Count: math.MinInt}},
		"a zero run":              {{}},
		"before 1":                {{First: 0, Count: 1}},
		"over 1":                  {{First: -1, Count: 5}},
		"the least first":         {{First: math.MinInt, Count: 1}},
		"all ints below 0":        {{First: math.MinInt, Count: math.MaxInt}},
		"the least of both":       {{First: math.MinInt, Count: math.MinInt}},
		"beyond MaxSeq":           {{First: seq.MaxSeq + 1, Count: 1}},
		"over MaxSeq":             {{First: seq.MaxSeq, Count: 2}},
		"one more than all":       {{First: 1, Count: seq.MaxSeq + 1}},
		"one more than all but 1": {{First: 2, Count: seq.MaxSeq}},
		"the greatest first":      {{First: math.MaxInt, Count: 1}},
		"the greatest count":      {{First: 1, Count: math.MaxInt}},
		"the greatest of both":    {{First: math.MaxInt, Count: math.MaxInt}},
		"a sum that wraps around": {{First: 3, Count: math.MaxInt - 1}},
		"next to each other":      {{First: 1, Count: 2}, {First: 3, Count: 1}},
		"one number in both":      {{First: 1, Count: 3}, {First: 3, Count: 1}},
		"one inside another":      {{First: 1, Count: 9}, {First: 3, Count: 1}},
		"the same twice":          {{First: 4, Count: 1}, {First: 4, Count: 1}},
		"decreasing":              {{First: 5, Count: 1}, {First: 2, Count: 1}},
		"wrong at the end":        {{First: 1, Count: 1}, {First: 3, Count: 1}, {First: 5, Count: 0}},
		"wrong in the middle":     {{First: 1, Count: 1}, {First: 3, Count: 0}, {First: 5, Count: 1}},
		"wrong at the beginning":  {{First: 0, Count: 1}, {First: 3, Count: 1}, {First: 5, Count: 1}},
		"behind all numbers":      {{First: 1, Count: seq.MaxSeq}, {First: seq.MaxSeq + 2, Count: 1}},
		"too many":                everySecond(1, seq.MaxRuns+1),
	}
}

// everySecond returns runs of one number each, with one number between them.
func everySecond(from, runs int) []seq.Run {
	var l []seq.Run
	for i := range runs {
		l = append(l, seq.Run{First: from + 2*i, Count: 1})
	}
	return l
}

func isRuns(t *testing.T, name string, l, want []seq.Run, err, wantErr api.Errno) {
	t.Helper()
	if !slices.Equal(l, want) || err != wantErr {
		t.Fatalf("%s = %v, %d, want %v, %d", name, l, err, want, wantErr)
	}
}

func TestConstants(t *testing.T) {
	if seq.MaxSeq != 281474976710656 || seq.MaxRuns != 65536 || seq.ErrRuns != 90 {
		t.Error("a constant is not that of the chapter")
	}
}

// The chapter's examples.

func TestExamples(t *testing.T) {
	l, twice, err := seq.Of([]int{5, 2, 1, 5, 9})
	want := []seq.Run{{First: 1, Count: 2}, {First: 5, Count: 1}, {First: 9, Count: 1}}
	isRuns(t, "Of", l, want, err, api.OK)
	if !slices.Equal(twice, []int{5}) {
		t.Errorf("more than once: %v", twice)
	}
	m, err := seq.Missing(l, 1, 11)
	isRuns(t, "Missing", m, []seq.Run{{First: 3, Count: 2}, {First: 6, Count: 3}, {First: 10, Count: 1}}, err, api.OK)
	if n, err := seq.First(l, 5, 11); n != 6 || err != api.OK {
		t.Errorf("First from 5 = %d, %d", n, err)
	}
	if n, err := seq.First(l, 5, 6); n != 0 || err != api.ErrNone {
		t.Errorf("First from 5 below 6 = %d, %d", n, err)
	}
	u, err := seq.Union([]seq.Run{{First: 1, Count: 2}}, []seq.Run{{First: 3, Count: 1}})
	isRuns(t, "Union", u, []seq.Run{{First: 1, Count: 3}}, err, api.OK)
	w, err := seq.Without([]seq.Run{{First: 1, Count: 9}}, []seq.Run{{First: 4, Count: 2}})
	isRuns(t, "Without", w, []seq.Run{{First: 1, Count: 3}, {First: 6, Count: 4}}, err, api.OK)
	for _, wrong := range [][]seq.Run{
		{{First: 1, Count: 0}},
		{{First: 1, Count: 2}, {First: 3, Count: 1}},
		{{First: 5, Count: 1}, {First: 2, Count: 1}},
		{{First: 1 << 48, Count: 2}},
	} {
		if seq.Right(wrong) {
			t.Errorf("%v is right", wrong)
		}
	}
}

// P9.1: Right

// rightOf returns what Right has to, of runs that have few numbers: whether they are the one list of runs of their numbers.
func rightOf(l []seq.Run) bool {
	var numbers []int
	for _, r := range l {
		for i := range r.Count {
			numbers = append(numbers, r.First+i)
		}
	}
	slices.Sort(numbers)
	numbers = slices.Compact(numbers)
	if len(numbers) > 0 && (numbers[0] < 1 || numbers[len(numbers)-1] > seq.MaxSeq) {
		return false
	}
	return slices.Equal(l, runsOf(numbers))
}

func TestRightOfAllShortLists(t *testing.T) {
	for _, start := range []int{-1, 7, seq.MaxSeq - 3} {
		var all []seq.Run
		for first := start; first < start+6; first++ {
			for count := -1; count <= 4; count++ {
				all = append(all, seq.Run{First: first, Count: count})
			}
		}
		lists := [][]seq.Run{nil}
		for at := 0; at < len(lists); at++ {
			if l := lists[at]; len(l) < 3 {
				for _, r := range all {
					lists = append(lists, append(slices.Clone(l), r))
				}
			}
		}
		right := 0
		for _, l := range lists {
			want := rightOf(l)
			if seq.Right(l) != want {
				t.Fatalf("Right(%v) = %v", l, !want)
			}
			if want {
				right++
			}
		}
		// The sets of four numbers are among them.
		if right < 16 {
			t.Errorf("from %d on, only %d lists are right", start, right)
		}
	}
}

func TestRightAtTheLimits(t *testing.T) {
	for name, l := range map[string][]seq.Run{
		"nil":                     nil,
		"empty":                   {},
		"the least number":        {{First: 1, Count: 1}},
		"the greatest number":     {{First: seq.MaxSeq, Count: 1}},
		"all numbers":             {{First: 1, Count: seq.MaxSeq}},
		"all numbers but 1":       {{First: 2, Count: seq.MaxSeq - 1}},
		"all but the greatest":    {{First: 1, Count: seq.MaxSeq - 1}},
		"all but 2":               {{First: 1, Count: 1}, {First: 3, Count: seq.MaxSeq - 2}},
		"the least and greatest":  {{First: 1, Count: 1}, {First: seq.MaxSeq, Count: 1}},
		"all but the last but 1":  {{First: 1, Count: seq.MaxSeq - 2}, {First: seq.MaxSeq, Count: 1}},
		"the most runs":           everySecond(1, seq.MaxRuns),
		"the most at the greater": everySecond(seq.MaxSeq-2*seq.MaxRuns+2, seq.MaxRuns),
	} {
		if !seq.Right(l) {
			t.Errorf("%s is not right", name)
		}
	}
	for name, l := range wrongSets() {
		if seq.Right(l) {
			t.Errorf("%s is right", name)
		}
	}
	if seq.Right(everySecond(seq.MaxSeq-2*seq.MaxRuns+3, seq.MaxRuns)) {
		t.Error("the most runs over the greatest number are right")
	}
}

// P9.1: Of

// ofOf returns what Of has to, of as many numbers as may be.
func ofOf(numbers []int) ([]seq.Run, []int, api.Errno) {
	times := map[int]int{}
	for _, n := range numbers {
		if n < 1 || n > seq.MaxSeq {
			return nil, nil, api.ErrArg
		}
		times[n]++
	}
	var once, twice []int
	for n, k := range times {
		once = append(once, n)
		if k > 1 {
			twice = append(twice, n)
		}
	}
	slices.Sort(once)
	slices.Sort(twice)
	return runsOf(once), twice, api.OK
}

func ofIs(t *testing.T, numbers []int) {
	t.Helper()
	l, twice, err := seq.Of(numbers)
	wantL, wantTwice, wantErr := ofOf(numbers)
	if !slices.Equal(l, wantL) || !slices.Equal(twice, wantTwice) || err != wantErr {
		t.Fatalf("Of(%v) = %v, %v, %d, want %v, %v, %d", numbers, l, twice, err, wantL, wantTwice, wantErr)
	}
	if err == api.OK && !seq.Right(l) {
		t.Fatalf("Of(%v) = %v is not right", numbers, l)
	}
}

func TestOfAllShortLists(t *testing.T) {
	const most = 5
	for _, start := range []int{-1, 0, 1, 500, seq.MaxSeq - 4, seq.MaxSeq - 3} {
		for length := range most + 1 {
			lists := 1
			for range length {
				lists *= most
			}
			for i := range lists {
				var numbers []int
				for rest := i; len(numbers) < length; rest /= most {
					numbers = append(numbers, start+rest%most)
				}
				ofIs(t, numbers)
			}
		}
	}
}

func TestOfLongerLists(t *testing.T) {
	random := rand.New(rand.NewSource(91))
	for range 300 {
		among := 1 + random.Intn(200)
		start := 1 + random.Intn(seq.MaxSeq-among)
		var numbers []int
		for range random.Intn(200) {
			numbers = append(numbers, start+random.Intn(among))
		}
		ofIs(t, numbers)
	}
}

func TestOfTheMostNumbers(t *testing.T) {
	var numbers, same []int
	for i := range seq.MaxRuns {
		numbers = append(numbers, seq.MaxSeq-2*i)
		same = append(same, 7)
	}
	l, twice, err := seq.Of(numbers)
	isRuns(t, "Of", l, everySecond(seq.MaxSeq-2*(seq.MaxRuns-1), seq.MaxRuns), err, api.OK)
	if len(twice) != 0 {
		t.Errorf("more than once: %v", twice)
	}
	l, twice, err = seq.Of(same)
	isRuns(t, "Of", l, []seq.Run{{First: 7, Count: 1}}, err, api.OK)
	if !slices.Equal(twice, []int{7}) {
		t.Errorf("more than once: %v", twice)
	}
}

func TestOfErrors(t *testing.T) {
	many := make([]int, seq.MaxRuns+1)
	for i := range many {
		many[i] = 1 + i
	}
	wrongAndMany := slices.Clone(many)
	wrongAndMany[0] = 0
	for _, c := range []struct {
		name    string
		numbers []int
		want    api.Errno
	}{
		{"too many", many, api.ErrMany},
		{"too many, and no number", wrongAndMany, api.ErrMany},
		{"0", []int{0}, api.ErrArg},
		{"less than 0", []int{3, -1, 3}, api.ErrArg},
		{"the least", []int{math.MinInt, 1, 2}, api.ErrArg},
		{"beyond MaxSeq", []int{1, 1, seq.MaxSeq + 1}, api.ErrArg},
		{"the greatest", []int{4, math.MaxInt, 5}, api.ErrArg},
		{"as many as may be, and no number", wrongAndMany[:seq.MaxRuns], api.ErrArg},
	} {
		if l, twice, err := seq.Of(c.numbers); len(l) != 0 || len(twice) != 0 || err != c.want {
			t.Errorf("%s: %d runs, %d numbers, %d, want %d", c.name, len(l), len(twice), err, c.want)
		}
	}
	if l, twice, err := seq.Of(nil); len(l) != 0 || len(twice) != 0 || err != api.OK {
		t.Errorf("Of(nil) = %v, %v, %d", l, twice, err)
	}
}

// P9.2

func TestCountAndHas(t *testing.T) {
	for _, start := range starts {
		for mask := range 1 << width {
			l, numbers := setOf(start, mask), numbersOf(start, mask)
			if n, err := seq.Count(l); n != len(numbers) || err != api.OK {
				t.Fatalf("Count(%v) = %d, %d", l, n, err)
			}
			for n := start - 3; n <= start+width+3; n++ {
				if has, err := seq.Has(l, n); has != slices.Contains(numbers, n) || err != api.OK {
					t.Fatalf("Has(%v, %d) = %v, %d", l, n, has, err)
				}
			}
		}
	}
}

func TestCountAndHasAtTheLimits(t *testing.T) {
	all := []seq.Run{{First: 1, Count: seq.MaxSeq}}
	for _, c := range []struct {
		l    []seq.Run
		want int
	}{
		{all, seq.MaxSeq},
		{[]seq.Run{{First: 1, Count: 1}, {First: 3, Count: seq.MaxSeq - 2}}, seq.MaxSeq - 1},
		{everySecond(1, seq.MaxRuns), seq.MaxRuns},
		{nil, 0},
		{[]seq.Run{}, 0},
	} {
		if n, err := seq.Count(c.l); n != c.want || err != api.OK {
			t.Errorf("Count = %d, %d, want %d", n, err, c.want)
		}
	}
	for n, want := range map[int]bool{
		math.MinInt: false, -1: false, 0: false, 1: true, 2: true, 1 << 47: true,
		seq.MaxSeq: true, seq.MaxSeq + 1: false, seq.MaxSeq + 2: false, math.MaxInt: false,
	} {
		if has, err := seq.Has(all, n); has != want || err != api.OK {
			t.Errorf("all numbers: Has(%d) = %v, %d", n, has, err)
		}
		if has, err := seq.Has(nil, n); has || err != api.OK {
			t.Errorf("no numbers: Has(%d) = %v, %d", n, has, err)
		}
	}
}

func TestCountAndHasOfWrongSets(t *testing.T) {
	for name, l := range wrongSets() {
		if n, err := seq.Count(l); n != 0 || err != seq.ErrRuns {
			t.Errorf("%s: Count = %d, %d", name, n, err)
		}
		for _, n := range []int{math.MinInt, 0, 1, 3, 5, seq.MaxSeq, seq.MaxSeq + 1, math.MaxInt} {
			if has, err := seq.Has(l, n); has || err != seq.ErrRuns {
				t.Errorf("%s: Has(%d) = %v, %d", name, n, has, err)
			}
		}
	}
}
