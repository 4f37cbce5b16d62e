package varint_test

import (
	"bytes"
	"encoding/binary"
	"math"
	"math/big"
	"slices"
	"testing"

	"quantum/api"
	"quantum/varint"
)

var examples = []struct {
	x    uint64
	form []byte
}{
	{0, []byte{0}},
	{1, []byte{1}},
	{127, []byte{127}},
	{128, []byte{128, 1}},
	{300, []byte{172, 2}},
	{1 << 63, []byte{128, 128, 128, 128, 128, 128, 128, 128, 128, 1}},
	{math.MaxUint64, []byte{255, 255, 255, 255, 255, 255, 255, 255, 255, 1}},
}

var faults = []struct {
	name  string
	bytes []byte
	want  api.Errno
}{
	{"nothing", nil, varint.ErrShort},
	{"one byte that goes on", []byte{128}, varint.ErrShort},
	{"nine bytes that go on", bytes.Repeat([]byte{255}, 9), varint.ErrShort},
	{"above 64 bits", append(bytes.Repeat([]byte{255}, 9), 2), varint.ErrOver},
	{"a tenth byte that goes on", append(bytes.Repeat([]byte{128}, 9), 128), varint.ErrOver},
	{"an eleventh byte", append(bytes.Repeat([]byte{255}, 9), 129, 0), varint.ErrOver},
	{"last byte 0", []byte{128, 0}, varint.ErrZero},
	{"last byte 0 later", []byte{255, 128, 0}, varint.ErrZero},
	{"last byte 0 after nine", append(bytes.Repeat([]byte{128}, 9), 0), varint.ErrZero},
	{"last byte 0 and more", []byte{128, 0, 128}, varint.ErrZero},
}

// numbers returns numbers of each size: those about the powers of two, and some without a pattern.
func numbers() []uint64 {
	l := []uint64{300, math.MaxUint64}
	for k := range 64 {
		p := uint64(1) << k
		l = append(l, p-1, p, p+1)
	}
	x := uint64(1)
	for i := range 1000 {
		x = x*6364136223846793005 + 1442695040888963407
		l = append(l, x>>(i%64))
	}
	return l
}

func integers() []int64 {
	l := []int64{0, -1, math.MinInt64, math.MinInt64 + 1, math.MaxInt64}
	for _, x := range numbers() {
		l = append(l, int64(x), -int64(x))
	}
	return l
}

// eachBytes calls f with all lists of up to two bytes, and all longer ones of up to 5 of the bytes where something changes, with and without a run before them that goes on.
func eachBytes(f func(b []byte)) {
	f(nil)
	for i := range 256 {
		f([]byte{byte(i)})
		for j := range 256 {
			f([]byte{byte(i), byte(j)})
		}
	}
	edges := []byte{0, 1, 2, 127, 128, 129, 255}
	var extend func(b []byte, n int)
	extend = func(b []byte, n int) {
		f(b)
		if n == 0 {
			return
		}
		for _, c := range edges {
			extend(append(slices.Clone(b), c), n-1)
		}
	}
	for _, run := range []int{0, 6, 7, 8, 9} {
		extend(bytes.Repeat([]byte{128}, run), 5)
	}
}

// readByTheList follows the chapter's list of steps with a number of any length.
func readByTheList(b []byte) (uint64, int, api.Errno) {
	x := new(big.Int)
	for i := 0; ; i++ {
		if i >= len(b) {
			return 0, 0, varint.ErrShort
		}
		if i == 9 && b[i] > 1 {
			return 0, 0, varint.ErrOver
		}
		group := new(big.Int).Lsh(big.NewInt(int64(b[i]%128)), uint(7*i))
		x.Add(x, group)
		if b[i] >= 128 {
			continue
		}
		if b[i] == 0 && i != 0 {
			return 0, 0, varint.ErrZero
		}
		return x.Uint64(), i + 1, api.OK
	}
}

// P1.1

func TestWriteExamples(t *testing.T) {
	for _, c := range examples {
		if got := varint.Write(c.x); !slices.Equal(got, c.form) {
			t.Errorf("Write(%d) = %v, want %v", c.x, got, c.form)
		}
		if got := varint.Size(c.x); got != len(c.form) {
			t.Errorf("Size(%d) = %d, want %d", c.x, got, len(c.form))
		}
	}
}

func TestWriteGroups(t *testing.T) {
	for _, x := range numbers() {
		want := binary.AppendUvarint(nil, x)
		if got := varint.Write(x); !slices.Equal(got, want) {
			t.Errorf("Write(%d) = %v, want %v", x, got, want)
		}
		if got := varint.Size(x); got != len(want) {
			t.Errorf("Size(%d) = %d, want %d", x, got, len(want))
		}
	}
}

func TestSizeBorders(t *testing.T) {
	for size := 1; size < varint.MaxSize; size++ {
		next := uint64(1) << (7 * size)
		if got := varint.Size(next - 1); got != size {
			t.Errorf("Size(%d) = %d, want %d", next-1, got, size)
		}
		if got := varint.Size(next); got != size+1 {
			t.Errorf("Size(%d) = %d, want %d", next, got, size+1)
		}
	}
	if got := varint.Size(math.MaxUint64); got != varint.MaxSize {
		t.Errorf("Size(2^64 - 1) = %d, want %d", got, varint.MaxSize)
	}
}

func TestConstants(t *testing.T) {
	if varint.MaxSize != 10 || varint.ErrShort != 10 || varint.ErrOver != 11 || varint.ErrZero != 12 {
		t.Error("a constant is not that of the chapter")
	}
}

// P1.2

func TestReadExamples(t *testing.T) {
	if x, n, e := varint.Read([]byte{172, 2, 7}); x != 300 || n != 2 || e != api.OK {
		t.Errorf("Read(172 2 7) = %d, %d, %d", x, n, e)
	}
	for _, c := range examples {
		if x, n, e := varint.Read(c.form); x != c.x || n != len(c.form) || e != api.OK {
			t.Errorf("Read(%v) = %d, %d, %d", c.form, x, n, e)
		}
	}
}

func TestReadLeavesWhatFollows(t *testing.T) {
	for _, c := range examples {
		for _, rest := range [][]byte{{0}, {128}, {128, 0}, {255, 255}} {
			b := append(slices.Clone(c.form), rest...)
			if x, n, e := varint.Read(b); x != c.x || n != len(c.form) || e != api.OK {
				t.Errorf("Read(%v) = %d, %d, %d", b, x, n, e)
			}
		}
	}
}

func TestReadFaults(t *testing.T) {
	for _, c := range faults {
		if x, n, e := varint.Read(c.bytes); x != 0 || n != 0 || e != c.want {
			t.Errorf("%s: Read(%v) = %d, %d, %d, want 0, 0, %d", c.name, c.bytes, x, n, e, c.want)
		}
	}
}

func TestReadStopsAtTheSlicesEnd(t *testing.T) {
	b := []byte{172, 2}
	if x, n, e := varint.Read(b[:1]); x != 0 || n != 0 || e != varint.ErrShort {
		t.Errorf("Read(172) with 2 behind its end = %d, %d, %d", x, n, e)
	}
}

func TestReadFollowsTheList(t *testing.T) {
	eachBytes(func(b []byte) {
		x, n, e := varint.Read(b)
		wantX, wantN, wantE := readByTheList(b)
		if x != wantX || n != wantN || e != wantE {
			t.Fatalf("Read(%v) = %d, %d, %d, want %d, %d, %d", b, x, n, e, wantX, wantN, wantE)
		}
	})
}

// P1.3

func TestWriteAll(t *testing.T) {
	if got, want := varint.WriteAll([]uint64{0, 300, 127, 128}), []byte{0, 172, 2, 127, 128, 1}; !slices.Equal(got, want) {
		t.Errorf("WriteAll = %v, want %v", got, want)
	}
	for _, none := range [][]uint64{nil, {}} {
		if got := varint.WriteAll(none); len(got) != 0 {
			t.Errorf("WriteAll of no numbers = %v", got)
		}
	}
	var want []byte
	for _, x := range numbers() {
		want = append(want, varint.Write(x)...)
	}
	if got := varint.WriteAll(numbers()); !slices.Equal(got, want) {
		t.Error("WriteAll is not the forms, one after the other")
	}
}

func TestReadAll(t *testing.T) {
	l, e := varint.ReadAll([]byte{0, 172, 2, 127, 128, 1})
	if !slices.Equal(l, []uint64{0, 300, 127, 128}) || e != api.OK {
		t.Errorf("ReadAll = %v, %d", l, e)
	}
	for _, none := range [][]byte{nil, {}} {
		if l, e := varint.ReadAll(none); len(l) != 0 || e != api.OK {
			t.Errorf("ReadAll of no bytes = %v, %d", l, e)
		}
	}
}

func TestReadAllFaults(t *testing.T) {
	for _, c := range faults {
		if len(c.bytes) == 0 {
			continue // no bytes are no numbers here
		}
		for _, before := range [][]byte{nil, {5}, {172, 2, 0}} {
			b := append(slices.Clone(before), c.bytes...)
			if l, e := varint.ReadAll(b); len(l) != 0 || e != c.want {
				t.Errorf("%s: ReadAll(%v) = %v, %d, want none, %d", c.name, b, l, e, c.want)
			}
		}
	}
}

func TestReadAllTellsTheFirstFault(t *testing.T) {
	zero, short := []byte{128, 0}, []byte{128}
	over := append(bytes.Repeat([]byte{128}, 9), 2)
	for _, c := range []struct {
		b    []byte
		want api.Errno
	}{
		{slices.Concat(zero, over, short), varint.ErrZero},
		{slices.Concat(over, zero, short), varint.ErrOver},
		{slices.Concat([]byte{7}, zero, short), varint.ErrZero},
		{slices.Concat([]byte{7}, over, short), varint.ErrOver},
	} {
		if l, e := varint.ReadAll(c.b); len(l) != 0 || e != c.want {
			t.Errorf("ReadAll(%v) = %v, %d, want none, %d", c.b, l, e, c.want)
		}
	}
}

// P1.4

func TestZigzag(t *testing.T) {
	for _, c := range []struct {
		n int64
		x uint64
	}{
		{0, 0}, {-1, 1}, {1, 2}, {-2, 3}, {2, 4}, {300, 600}, {-300, 599},
		{math.MaxInt64, math.MaxUint64 - 1}, {math.MinInt64, math.MaxUint64},
	} {
		if got := varint.Zigzag(c.n); got != c.x {
			t.Errorf("Zigzag(%d) = %d, want %d", c.n, got, c.x)
		}
		if got := varint.Unzigzag(c.x); got != c.n {
			t.Errorf("Unzigzag(%d) = %d, want %d", c.x, got, c.n)
		}
	}
}

func TestZigzagByItsDefinition(t *testing.T) {
	two, one := big.NewInt(2), big.NewInt(1)
	for _, n := range integers() {
		want := new(big.Int).Mul(two, big.NewInt(n))
		if n < 0 {
			want.Neg(want).Sub(want, one)
		}
		if got := varint.Zigzag(n); !want.IsUint64() || got != want.Uint64() {
			t.Errorf("Zigzag(%d) = %d, want %d", n, got, want)
		}
	}
}

func TestUnzigzagIsTheInverse(t *testing.T) {
	for _, n := range integers() {
		if got := varint.Unzigzag(varint.Zigzag(n)); got != n {
			t.Errorf("Unzigzag(Zigzag(%d)) = %d", n, got)
		}
	}
	for _, x := range numbers() {
		if got := varint.Zigzag(varint.Unzigzag(x)); got != x {
			t.Errorf("Zigzag(Unzigzag(%d)) = %d", x, got)
		}
	}
}

// P1.5

func TestWrittenIsReadBack(t *testing.T) {
	for _, x := range numbers() {
		b := varint.Write(x)
		if got, n, e := varint.Read(b); got != x || n != len(b) || e != api.OK {
			t.Errorf("Read(Write(%d)) = %d, %d, %d", x, got, n, e)
		}
	}
	if got, e := varint.ReadAll(varint.WriteAll(numbers())); !slices.Equal(got, numbers()) || e != api.OK {
		t.Errorf("ReadAll(WriteAll) is another list, error %d", e)
	}
}

func TestReadIsWrittenTheSame(t *testing.T) {
	eachBytes(func(b []byte) {
		if x, n, e := varint.Read(b); e == api.OK && !slices.Equal(varint.Write(x), b[:n]) {
			t.Fatalf("%v is read as %d, which is written as %v", b[:n], x, varint.Write(x))
		}
		if l, e := varint.ReadAll(b); e == api.OK && !slices.Equal(varint.WriteAll(l), b) {
			t.Fatalf("%v is read as %v, which is written as %v", b, l, varint.WriteAll(l))
		}
	})
}

func TestNoFormBeginsAnother(t *testing.T) {
	l := numbers()
	slices.Sort(l)
	l = slices.Compact(l)
	forms := make([][]byte, len(l))
	for i, x := range l {
		forms[i] = varint.Write(x)
	}
	for i, a := range forms {
		for j, b := range forms {
			if i != j && bytes.HasPrefix(b, a) {
				t.Fatalf("the form %v of %d begins the form %v of %d", a, l[i], b, l[j])
			}
		}
	}
}

func TestSizesGrowWithNumbers(t *testing.T) {
	l := numbers()
	slices.Sort(l)
	for i := 1; i < len(l); i++ {
		if varint.Size(l[i]) < varint.Size(l[i-1]) {
			t.Errorf("%d has a smaller size than %d", l[i], l[i-1])
		}
	}
}

func TestNearZeroHasSmallZigzagNumbers(t *testing.T) {
	seen := map[uint64]bool{}
	const most = 1000
	for n := int64(-most); n < most; n++ {
		seen[varint.Zigzag(n)] = true
	}
	for x := range uint64(2 * most) {
		if !seen[x] {
			t.Errorf("no integer from -%d to %d has the zigzag number %d", most, most-1, x)
		}
	}
}

// What holds of all promises: arguments stay as they are, and results are new memory.

func TestArgumentsAreNotModified(t *testing.T) {
	b := make([]byte, 4, 8)
	copy(b, []byte{172, 2, 128, 1})
	whole := slices.Clone(b[:cap(b)])
	varint.Read(b)
	varint.ReadAll(b)
	if !slices.Equal(b[:cap(b)], whole) {
		t.Error("bytes that were read are changed")
	}
	l := make([]uint64, 2, 4)
	copy(l, []uint64{300, 128})
	all := slices.Clone(l[:cap(l)])
	varint.WriteAll(l)
	if !slices.Equal(l[:cap(l)], all) {
		t.Error("numbers that were written are changed")
	}
}

func TestResultsShareNoMemory(t *testing.T) {
	first, second := varint.Write(300), varint.Write(300)
	first[0] = 0
	if second[0] != 172 || varint.Write(300)[0] != 172 {
		t.Error("two results of Write share memory")
	}
	b := []byte{172, 2}
	l, _ := varint.ReadAll(b)
	l[0] = 0
	if again, _ := varint.ReadAll(b); again[0] != 300 {
		t.Error("two results of ReadAll share memory")
	}
}
