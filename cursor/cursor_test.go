package cursor_test

import (
	"bytes"
	"math"
	"math/rand"
	"slices"
	"testing"

	"quantum/api"
	"quantum/cursor"
	"quantum/varint"
)

// place fails the test if a reader is not at a place with so many bytes left.
func place(t *testing.T, r *cursor.Reader, at, left int) {
	t.Helper()
	if r.At() != at || r.Left() != left {
		t.Errorf("at %d, left %d, want at %d, left %d", r.At(), r.Left(), at, left)
	}
	want := api.OK
	if left != 0 {
		want = cursor.ErrRest
	}
	if e := r.End(); e != want {
		t.Errorf("left %d: End: %d, want %d", left, e, want)
	}
}

func writer(t *testing.T, limit int) *cursor.Writer {
	t.Helper()
	w, e := cursor.NewWriter(limit)
	if w == nil || e != api.OK {
		t.Fatalf("NewWriter(%d): %v, %d", limit, w, e)
	}
	return w
}

// written fails the test if a writer has not these bytes.
func written(t *testing.T, w *cursor.Writer, want ...byte) {
	t.Helper()
	if got := w.Out(); !slices.Equal(got, want) || w.Len() != len(want) {
		t.Errorf("written %v with Len %d, want %v", got, w.Len(), want)
	}
}

// expect fails the test if an error is not the one that is due.
func expect(t *testing.T, what string, got, want api.Errno) {
	t.Helper()
	if got != want {
		t.Errorf("%s: error %d, want %d", what, got, want)
	}
}

// The examples of the chapter.

func TestExampleOfReader(t *testing.T) {
	b := []byte{1, 172, 2, 7, 0, 9}
	r := cursor.NewReader(b)
	if x, e := r.Byte(); x != 1 || e != api.OK {
		t.Errorf("Byte: %d, %d", x, e)
	}
	if x, e := r.Number(299); x != 0 || e != cursor.ErrMost {
		t.Errorf("Number(299): %d, %d", x, e)
	}
	place(t, r, 1, 5)
	if x, e := r.Number(300); x != 300 || e != api.OK {
		t.Errorf("Number(300): %d, %d", x, e)
	}
	place(t, r, 3, 3)
	if x, e := r.Fixed(2); x != 7 || e != api.OK {
		t.Errorf("Fixed(2): %d, %d", x, e)
	}
	if x, e := r.Count(10, 1); x != 0 || e != cursor.ErrEnd {
		t.Errorf("Count(10, 1): %d, %d", x, e)
	}
	place(t, r, 5, 1)
	if x, e := r.Byte(); x != 9 || e != api.OK {
		t.Errorf("Byte: %d, %d", x, e)
	}
	if x, e := r.Byte(); x != 0 || e != cursor.ErrEnd {
		t.Errorf("Byte: %d, %d", x, e)
	}
	place(t, r, 6, 0)
}

func TestExampleOfWriter(t *testing.T) {
	w := writer(t, 3)
	expect(t, "Number(300)", w.Number(300), api.OK)
	expect(t, "Byte(5)", w.Byte(5), api.OK)
	expect(t, "Byte(6)", w.Byte(6), api.ErrFull)
	written(t, w, 172, 2, 5)
	expect(t, "Fixed(256, 1)", w.Fixed(256, 1), api.ErrArg)
	written(t, w, 172, 2, 5)
}

// P2.1

func TestNewReaderIsAtTheFirstByte(t *testing.T) {
	place(t, cursor.NewReader(nil), 0, 0)
	place(t, cursor.NewReader([]byte{}), 0, 0)
	place(t, cursor.NewReader([]byte{0}), 0, 1)
	place(t, cursor.NewReader(make([]byte, cursor.MaxLimit+1)), 0, cursor.MaxLimit+1)
}

func TestPlaceMovesBehindWhatIsTaken(t *testing.T) {
	r := cursor.NewReader([]byte{5, 6, 7, 8, 9, 10, 200, 1, 1, 77})
	r.Byte()
	place(t, r, 1, 9)
	r.Bytes(2)
	place(t, r, 3, 7)
	r.Fixed(3)
	place(t, r, 6, 4)
	r.Number(200)
	place(t, r, 8, 2)
	r.Count(1, 1)
	place(t, r, 9, 1)
	r.Bytes(0)
	place(t, r, 9, 1)
	r.Byte()
	place(t, r, 10, 0)
}

func TestReaderKeepsNoArgument(t *testing.T) {
	all := []byte{1, 2, 3, 4, 5}
	b := all[:3]
	r := cursor.NewReader(b)
	got, _ := r.Bytes(2)
	if !bytes.Equal(all, []byte{1, 2, 3, 4, 5}) {
		t.Errorf("the argument is now %v", all)
	}
	for i := range all {
		all[i] = 99
	}
	if !bytes.Equal(got, []byte{1, 2}) {
		t.Errorf("the result changed with the argument: %v", got)
	}
	if x, _ := r.Byte(); x != 3 {
		t.Errorf("the reader changed with the argument: %d", x)
	}
}

func TestReadersAreApart(t *testing.T) {
	b := []byte{1, 2}
	r, s := cursor.NewReader(b), cursor.NewReader(b)
	r.Byte()
	place(t, r, 1, 1)
	place(t, s, 0, 2)
}

// P2.2

func TestReadByte(t *testing.T) {
	all := make([]byte, 256)
	for i := range all {
		all[i] = byte(i)
	}
	r := cursor.NewReader(all)
	for i := range all {
		if x, e := r.Byte(); x != byte(i) || e != api.OK {
			t.Errorf("byte %d: %d, %d", i, x, e)
		}
	}
	for range 2 {
		if x, e := r.Byte(); x != 0 || e != cursor.ErrEnd {
			t.Errorf("no byte: %d, %d", x, e)
		}
		place(t, r, 256, 0)
	}
}

func TestReadBytes(t *testing.T) {
	for _, c := range []struct {
		n    int
		want []byte
		e    api.Errno
	}{
		{0, nil, api.OK},
		{1, []byte{4}, api.OK},
		{2, []byte{4, 5}, api.OK},
		{3, []byte{4, 5, 6}, api.OK},
		{4, nil, cursor.ErrEnd},
		{math.MaxInt, nil, cursor.ErrEnd},
		{-1, nil, api.ErrArg},
		{math.MinInt, nil, api.ErrArg},
	} {
		r := cursor.NewReader([]byte{3, 4, 5, 6})
		r.Byte()
		got, e := r.Bytes(c.n)
		if !slices.Equal(got, c.want) || e != c.e {
			t.Errorf("Bytes(%d): %v, %d", c.n, got, e)
		}
		if e != api.OK && got != nil {
			t.Errorf("Bytes(%d): a result with an error", c.n)
		}
		place(t, r, 1+len(c.want), 3-len(c.want))
	}
}

func TestReadBytesOfNothing(t *testing.T) {
	r := cursor.NewReader(nil)
	if got, e := r.Bytes(0); len(got) != 0 || e != api.OK {
		t.Errorf("Bytes(0): %v, %d", got, e)
	}
	if _, e := r.Bytes(-1); e != api.ErrArg {
		t.Errorf("Bytes(-1): %d", e)
	}
	if _, e := r.Bytes(1); e != cursor.ErrEnd {
		t.Errorf("Bytes(1): %d", e)
	}
}

func TestReadBytesShareNoMemory(t *testing.T) {
	r := cursor.NewReader([]byte{1, 2, 3, 4})
	first, _ := r.Bytes(2)
	first = append(first, 88, 88)
	first[0] = 77
	second, _ := r.Bytes(2)
	if !bytes.Equal(second, []byte{3, 4}) {
		t.Errorf("the reader changed with a result: %v", second)
	}
	second[0] = 66
	if !bytes.Equal(first, []byte{77, 2, 88, 88}) {
		t.Errorf("one result changed with another: %v", first)
	}
}

func TestReadFixed(t *testing.T) {
	b := []byte{1, 2, 3, 4, 5, 6, 7, 200}
	for n, want := range []uint64{1: 1, 0x0201, 0x030201, 0x04030201, 0x0504030201, 0x060504030201, 0x07060504030201, 0xc807060504030201} {
		if n == 0 {
			continue
		}
		r := cursor.NewReader(b)
		if x, e := r.Fixed(n); x != want || e != api.OK {
			t.Errorf("Fixed(%d): %x, %d", n, x, e)
		}
		place(t, r, n, 8-n)
	}
	for n := 1; n <= 8; n++ {
		for left := range n {
			r := cursor.NewReader(b[:left])
			if x, e := r.Fixed(n); x != 0 || e != cursor.ErrEnd {
				t.Errorf("Fixed(%d) of %d bytes: %x, %d", n, left, x, e)
			}
			place(t, r, 0, left)
		}
	}
	for _, n := range []int{0, 9, -1, 16, math.MaxInt, math.MinInt} {
		for _, left := range []int{0, 8} {
			r := cursor.NewReader(b[:left])
			if x, e := r.Fixed(n); x != 0 || e != api.ErrArg {
				t.Errorf("Fixed(%d) of %d bytes: %x, %d", n, left, x, e)
			}
			place(t, r, 0, left)
		}
	}
	r := cursor.NewReader(bytes.Repeat([]byte{255}, 8))
	if x, e := r.Fixed(8); x != math.MaxUint64 || e != api.OK {
		t.Errorf("Fixed(8): %x, %d", x, e)
	}
}

// P2.3

// wrong are bytes that begin with no number.
var wrong = []struct {
	b []byte
	e api.Errno
}{
	{nil, varint.ErrShort},
	{[]byte{128}, varint.ErrShort},
	{bytes.Repeat([]byte{255}, 9), varint.ErrShort},
	{append(bytes.Repeat([]byte{255}, 9), 2), varint.ErrOver},
	{append(bytes.Repeat([]byte{255}, 9), 128, 0), varint.ErrOver},
	{[]byte{128, 0}, varint.ErrZero},
	{[]byte{255, 128, 0, 1, 1}, varint.ErrZero},
}

func TestReadNumber(t *testing.T) {
	for _, c := range []struct {
		x, most uint64
		e       api.Errno
	}{
		{0, 0, api.OK},
		{1, 0, cursor.ErrMost},
		{1, 1, api.OK},
		{127, 128, api.OK},
		{128, 128, api.OK},
		{129, 128, cursor.ErrMost},
		{300, 299, cursor.ErrMost},
		{1 << 63, 1<<63 - 1, cursor.ErrMost},
		{1 << 63, 1 << 63, api.OK},
		{math.MaxUint64, math.MaxUint64 - 1, cursor.ErrMost},
		{math.MaxUint64, math.MaxUint64, api.OK},
		{math.MaxUint64, 0, cursor.ErrMost},
	} {
		form := varint.Write(c.x)
		all := slices.Concat([]byte{255, 255}, form, []byte{128, 0})
		r := cursor.NewReader(all)
		r.Bytes(2)
		x, e := r.Number(c.most)
		if e != c.e || e == api.OK && x != c.x || e != api.OK && x != 0 {
			t.Errorf("Number(%d) of %d: %d, %d", c.most, c.x, x, e)
		}
		if e == api.OK {
			place(t, r, 2+len(form), 2)
		} else {
			place(t, r, 2, len(form)+2)
		}
	}
}

func TestReadNumberThatIsNone(t *testing.T) {
	for _, c := range wrong {
		for _, most := range []uint64{0, 1, math.MaxUint64} {
			r := cursor.NewReader(append([]byte{1}, c.b...))
			r.Byte()
			if x, e := r.Number(most); x != 0 || e != c.e {
				t.Errorf("Number(%d) of %v: %d, %d, want %d", most, c.b, x, e, c.e)
			}
			place(t, r, 1, len(c.b))
		}
	}
}

func TestReadCount(t *testing.T) {
	for _, c := range []struct {
		x          uint64
		most, size int
		behind     int
		e          api.Errno
	}{
		{0, 0, 1, 0, api.OK},
		{0, 0, math.MaxInt, 0, api.OK},
		{0, 10, 4, 3, api.OK},
		{1, 0, 1, 9, cursor.ErrMost},
		{1, 0, 1, 0, cursor.ErrMost},
		{3, 3, 1, 3, api.OK},
		{3, 3, 1, 4, api.OK},
		{3, 3, 1, 2, cursor.ErrEnd},
		{4, 3, 1, 2, cursor.ErrMost},
		{4, 3, 1, 200, cursor.ErrMost},
		{3, 3, 4, 11, cursor.ErrEnd},
		{3, 3, 4, 12, api.OK},
		{3, 3, 4, 13, api.OK},
		{3, 3, 4, 15, api.OK},
		{1, 9, 13, 12, cursor.ErrEnd},
		{1, 9, 13, 13, api.OK},
		{130, 130, 1, 129, cursor.ErrEnd}, // its own two bytes are not behind it
		{130, 130, 1, 130, api.OK},
		{1, 1, math.MaxInt, 8, cursor.ErrEnd},
		{2, 2, math.MaxInt, 8, cursor.ErrEnd},       // a product that wraps to -2
		{4, 4, 1 << 62, 8, cursor.ErrEnd},           // a product that wraps to 0
		{1 << 62, math.MaxInt, 4, 8, cursor.ErrEnd}, // and so do these
		{1 << 62, math.MaxInt, 5, 8, cursor.ErrEnd}, //
		{math.MaxInt, math.MaxInt, 1, 8, cursor.ErrEnd},
		{math.MaxInt, math.MaxInt, math.MaxInt, 8, cursor.ErrEnd}, // a product that wraps to 1
		{1 << 63, math.MaxInt, 1, 8, cursor.ErrMost},
		{1 << 63, 0, 1, 8, cursor.ErrMost},
		{math.MaxUint64, math.MaxInt, 1, 8, cursor.ErrMost},
		{math.MaxUint64, 5, 1, 8, cursor.ErrMost},
	} {
		form := varint.Write(c.x)
		r := cursor.NewReader(slices.Concat([]byte{9, 9, 9}, form, make([]byte, c.behind)))
		r.Bytes(3)
		x, e := r.Count(c.most, c.size)
		if e != c.e || e == api.OK && uint64(x) != c.x || e != api.OK && x != 0 {
			t.Errorf("Count(%d, %d) of %d with %d bytes behind: %d, %d, want %d", c.most, c.size, c.x, c.behind, x, e, c.e)
		}
		if e == api.OK {
			place(t, r, 3+len(form), c.behind)
		} else {
			place(t, r, 3, len(form)+c.behind)
		}
	}
}

func TestReadCountThatIsNone(t *testing.T) {
	for _, c := range wrong {
		r := cursor.NewReader(c.b)
		for _, a := range []struct {
			most, size int
			e          api.Errno
		}{
			{0, 1, c.e},
			{math.MaxInt, math.MaxInt, c.e},
			{-1, 1, api.ErrArg},
			{math.MinInt, 1, api.ErrArg},
			{1, 0, api.ErrArg},
			{1, -1, api.ErrArg},
			{1, math.MinInt, api.ErrArg},
			{-1, 0, api.ErrArg},
		} {
			if x, e := r.Count(a.most, a.size); x != 0 || e != a.e {
				t.Errorf("Count(%d, %d) of %v: %d, %d, want %d", a.most, a.size, c.b, x, e, a.e)
			}
			place(t, r, 0, len(c.b))
		}
	}
}

func TestReadCountChecksArgumentsFirst(t *testing.T) {
	r := cursor.NewReader([]byte{2, 0, 0})
	for _, a := range [][2]int{{-1, 1}, {2, 0}, {2, -1}, {-1, -1}} {
		if x, e := r.Count(a[0], a[1]); x != 0 || e != api.ErrArg {
			t.Errorf("Count(%d, %d): %d, %d", a[0], a[1], x, e)
		}
		place(t, r, 0, 3)
	}
	if x, e := r.Count(2, 1); x != 2 || e != api.OK {
		t.Errorf("Count(2, 1): %d, %d", x, e)
	}
}

// P2.4

func TestNewWriter(t *testing.T) {
	for _, limit := range []int{0, 1, 255, 1<<24 - 1, 1 << 24} {
		written(t, writer(t, limit))
	}
	for _, limit := range []int{-1, 1<<24 + 1, math.MinInt, math.MaxInt} {
		if w, e := cursor.NewWriter(limit); w != nil || e != api.ErrArg {
			t.Errorf("NewWriter(%d): %v, %d", limit, w, e)
		}
	}
	if cursor.MaxLimit != 1<<24 {
		t.Errorf("MaxLimit: %d", cursor.MaxLimit)
	}
}

func TestOutSharesNoMemory(t *testing.T) {
	w := writer(t, 10)
	w.Bytes([]byte{1, 2, 3})
	first, second := w.Out(), w.Out()
	first[0] = 99
	first = append(first, 98)
	if !bytes.Equal(second, []byte{1, 2, 3}) {
		t.Errorf("one result changed with another: %v", second)
	}
	w.Byte(4)
	second = append(second, 97)
	written(t, w, 1, 2, 3, 4)
	if !bytes.Equal(first, []byte{99, 2, 3, 98}) {
		t.Errorf("a result changed with the writer: %v", first)
	}
}

func TestWritersAreApart(t *testing.T) {
	v, w := writer(t, 2), writer(t, 2)
	v.Byte(1)
	w.Byte(2)
	w.Byte(3)
	written(t, v, 1)
	written(t, w, 2, 3)
}

// P2.5

func TestWriteByte(t *testing.T) {
	w := writer(t, 256)
	var want []byte
	for i := range 256 {
		expect(t, "Byte", w.Byte(byte(i)), api.OK)
		want = append(want, byte(i))
	}
	written(t, w, want...)
	expect(t, "Byte behind the limit", w.Byte(0), api.ErrFull)
	written(t, w, want...)
	expect(t, "Byte with the limit 0", writer(t, 0).Byte(0), api.ErrFull)
}

func TestWriteBytes(t *testing.T) {
	w := writer(t, 5)
	expect(t, "Bytes of nothing", w.Bytes(nil), api.OK)
	written(t, w)
	expect(t, "more bytes than the limit", w.Bytes(make([]byte, 6)), api.ErrFull)
	written(t, w)
	expect(t, "2 bytes", w.Bytes([]byte{7, 8}), api.OK)
	expect(t, "4 more bytes", w.Bytes([]byte{1, 2, 3, 4}), api.ErrFull)
	written(t, w, 7, 8)
	expect(t, "3 more bytes", w.Bytes([]byte{1, 2, 3}), api.OK)
	written(t, w, 7, 8, 1, 2, 3)
	expect(t, "Bytes of nothing when full", w.Bytes([]byte{}), api.OK)
	expect(t, "a byte when full", w.Bytes([]byte{9}), api.ErrFull)
	written(t, w, 7, 8, 1, 2, 3)
}

func TestWriteAsMuchAsTheGreatestLimit(t *testing.T) {
	w := writer(t, cursor.MaxLimit)
	expect(t, "one byte too many", w.Bytes(make([]byte, cursor.MaxLimit+1)), api.ErrFull)
	expect(t, "all bytes", w.Bytes(make([]byte, cursor.MaxLimit)), api.OK)
	expect(t, "one more byte", w.Byte(0), api.ErrFull)
	if w.Len() != cursor.MaxLimit || len(w.Out()) != cursor.MaxLimit {
		t.Errorf("Len: %d", w.Len())
	}
}

func TestWriterKeepsNoArgument(t *testing.T) {
	all := []byte{1, 2, 3, 4, 5}
	w := writer(t, 10)
	w.Bytes(all[:2])
	w.Byte(9)
	if !bytes.Equal(all, []byte{1, 2, 3, 4, 5}) {
		t.Errorf("the argument is now %v", all)
	}
	all[0] = 88
	written(t, w, 1, 2, 9)
}

func TestWriteFixed(t *testing.T) {
	const x = 0xc807060504030201
	for n := 1; n <= 8; n++ {
		w := writer(t, n)
		low := uint64(x) << (64 - 8*n) >> (64 - 8*n)
		expect(t, "Fixed", w.Fixed(low, n), api.OK)
		written(t, w, []byte{1, 2, 3, 4, 5, 6, 7, 200}[:n]...)
		expect(t, "Fixed when full", w.Fixed(0, 1), api.ErrFull)

		greatest := uint64(math.MaxUint64) >> (64 - 8*n)
		w = writer(t, 20)
		expect(t, "the greatest number", w.Fixed(greatest, n), api.OK)
		written(t, w, bytes.Repeat([]byte{255}, n)...)
		if n < 8 {
			expect(t, "256^n", w.Fixed(greatest+1, n), api.ErrArg)
			expect(t, "the greatest number of all", w.Fixed(math.MaxUint64, n), api.ErrArg)
		}
		expect(t, "zero", w.Fixed(0, n), api.OK)
		written(t, w, append(bytes.Repeat([]byte{255}, n), make([]byte, n)...)...)
	}
	for n := 1; n <= 8; n++ {
		w := writer(t, n)
		w.Byte(5)
		expect(t, "one byte too few", w.Fixed(1, n), api.ErrFull)
		written(t, w, 5)
	}
}

func TestWriteFixedChecksArgumentsFirst(t *testing.T) {
	for _, limit := range []int{0, 20} {
		w := writer(t, limit)
		for _, n := range []int{0, 9, -1, -8, 16, math.MaxInt, math.MinInt} {
			for _, x := range []uint64{0, 1, math.MaxUint64} {
				expect(t, "Fixed", w.Fixed(x, n), api.ErrArg)
			}
		}
		expect(t, "Fixed(256, 1)", w.Fixed(256, 1), api.ErrArg)
		expect(t, "Fixed(1 << 56, 7)", w.Fixed(1<<56, 7), api.ErrArg)
		written(t, w)
	}
}

func TestWriteNumber(t *testing.T) {
	for _, x := range []uint64{0, 1, 127, 128, 300, 16383, 16384, 1 << 32, 1<<63 - 1, 1 << 63, math.MaxUint64} {
		form := varint.Write(x)
		w := writer(t, len(form))
		expect(t, "Number", w.Number(x), api.OK)
		written(t, w, form...)
		expect(t, "Number when full", w.Number(x), api.ErrFull)
		written(t, w, form...)

		w = writer(t, len(form))
		w.Byte(3)
		expect(t, "one byte too few", w.Number(x), api.ErrFull)
		written(t, w, 3)
	}
}

func TestRefusedIsNotTheEnd(t *testing.T) {
	w := writer(t, 2)
	w.Byte(1)
	expect(t, "Number(300)", w.Number(300), api.ErrFull)
	expect(t, "Number(3)", w.Number(3), api.OK)
	written(t, w, 1, 3)
}

// P2.6

// step is one call of a writer, and the call of a reader that takes it back.
type step struct {
	write func(w *cursor.Writer) api.Errno
	read  func(r *cursor.Reader) bool
}

func randomStep(random *rand.Rand) step {
	x := random.Uint64() >> random.Intn(64)
	switch random.Intn(5) {
	case 0:
		return step{
			func(w *cursor.Writer) api.Errno { return w.Byte(byte(x)) },
			func(r *cursor.Reader) bool { y, e := r.Byte(); return y == byte(x) && e == api.OK },
		}
	case 1:
		b := make([]byte, random.Intn(20))
		random.Read(b)
		return step{
			func(w *cursor.Writer) api.Errno { return w.Bytes(b) },
			func(r *cursor.Reader) bool { c, e := r.Bytes(len(b)); return bytes.Equal(b, c) && e == api.OK },
		}
	case 2:
		n := 1 + random.Intn(8)
		x >>= 64 - 8*n
		return step{
			func(w *cursor.Writer) api.Errno { return w.Fixed(x, n) },
			func(r *cursor.Reader) bool { y, e := r.Fixed(n); return y == x && e == api.OK },
		}
	case 3:
		return step{
			func(w *cursor.Writer) api.Errno { return w.Number(x) },
			func(r *cursor.Reader) bool { y, e := r.Number(x); return y == x && e == api.OK },
		}
	}
	return step{
		func(w *cursor.Writer) api.Errno { return w.Number(0) },
		func(r *cursor.Reader) bool { n, e := r.Count(0, 1); return n == 0 && e == api.OK },
	}
}

func TestWrittenIsTakenBack(t *testing.T) {
	random := rand.New(rand.NewSource(2))
	for range 500 {
		limit := random.Intn(200)
		w := writer(t, limit)
		var done []step
		for range 30 {
			s := randomStep(random)
			before := w.Out()
			switch e := s.write(w); e {
			case api.OK:
				done = append(done, s)
			case api.ErrFull:
				written(t, w, before...)
			default:
				t.Fatalf("error %d", e)
			}
			if w.Len() > limit {
				t.Fatalf("%d bytes with the limit %d", w.Len(), limit)
			}
		}
		r := cursor.NewReader(w.Out())
		for i, s := range done {
			if !s.read(r) {
				t.Fatalf("step %d of %d is not taken back", i, len(done))
			}
		}
		place(t, r, w.Len(), 0)
	}
}

func TestNothingBeyondTheBytesIsLookedAt(t *testing.T) {
	all := []byte{128, 1, 2, 3, 4, 5, 6, 7, 8}
	r := cursor.NewReader(all[:1])
	if _, e := r.Number(math.MaxUint64); e != varint.ErrShort {
		t.Errorf("Number: %d", e)
	}
	if _, e := r.Count(math.MaxInt, 1); e != varint.ErrShort {
		t.Errorf("Count: %d", e)
	}
	if _, e := r.Fixed(2); e != cursor.ErrEnd {
		t.Errorf("Fixed(2): %d", e)
	}
	if _, e := r.Bytes(2); e != cursor.ErrEnd {
		t.Errorf("Bytes(2): %d", e)
	}
	place(t, r, 0, 1)
}

// R8

func TestNoReader(t *testing.T) {
	for _, r := range []*cursor.Reader{nil, {}, new(cursor.Reader)} {
		if r.At() != 0 || r.Left() != 0 {
			t.Errorf("At %d, Left %d", r.At(), r.Left())
		}
		if x, e := r.Byte(); x != 0 || e != api.ErrNil {
			t.Errorf("Byte: %d, %d", x, e)
		}
		for _, n := range []int{-1, 0, 1, 9} {
			if b, e := r.Bytes(n); b != nil || e != api.ErrNil {
				t.Errorf("Bytes(%d): %v, %d", n, b, e)
			}
			if x, e := r.Fixed(n); x != 0 || e != api.ErrNil {
				t.Errorf("Fixed(%d): %d, %d", n, x, e)
			}
			if x, e := r.Count(n, n); x != 0 || e != api.ErrNil {
				t.Errorf("Count(%d, %d): %d, %d", n, n, x, e)
			}
		}
		if x, e := r.Number(0); x != 0 || e != api.ErrNil {
			t.Errorf("Number: %d, %d", x, e)
		}
		expect(t, "End", r.End(), api.ErrNil)
	}
}

func TestNoWriter(t *testing.T) {
	for _, w := range []*cursor.Writer{nil, {}, new(cursor.Writer)} {
		for range 2 {
			expect(t, "Byte", w.Byte(1), api.ErrNil)
			expect(t, "Bytes of nothing", w.Bytes(nil), api.ErrNil)
			expect(t, "Bytes", w.Bytes([]byte{1}), api.ErrNil)
			expect(t, "Fixed(256, 1)", w.Fixed(256, 1), api.ErrNil)
			expect(t, "Fixed(0, 0)", w.Fixed(0, 0), api.ErrNil)
			expect(t, "Fixed(1, 1)", w.Fixed(1, 1), api.ErrNil)
			expect(t, "Number", w.Number(300), api.ErrNil)
			written(t, w)
		}
	}
}

func TestErrorNumbers(t *testing.T) {
	if cursor.ErrEnd != 20 || cursor.ErrMost != 21 || cursor.ErrRest != 22 {
		t.Errorf("%d, %d, %d", cursor.ErrEnd, cursor.ErrMost, cursor.ErrRest)
	}
}
