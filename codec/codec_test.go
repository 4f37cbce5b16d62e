package codec_test

import (
	"bytes"
	"encoding/binary"
	"math"
	"math/big"
	"math/rand"
	"slices"
	"testing"

	"quantum/api"
	"quantum/codec"
	"quantum/event"
	"quantum/varint"
)

const (
	maxSeq  = 281474976710656
	maxTime = 281474976710656
)

var (
	spawn = event.Event{Seq: 1, Time: 0, Cpu: 2, Kind: api.KindSpawn, Task: 7, Group: 0, Weight: 1024, Mask: 255}
	tick  = event.Event{Seq: 5, Time: 340, Cpu: 2, Kind: api.KindTick, Ticks: 40, Got: 7}
)

// least and greatest are a right event of each kind, with the least values, and with the greatest ones.
var (
	least = []event.Event{
		{Seq: 1, Kind: api.KindSpawn, Task: 1, Weight: 1, Mask: 1},
		{Seq: 1, Kind: api.KindWake, Task: 1},
		{Seq: 1, Kind: api.KindBlock, Got: 1},
		{Seq: 1, Kind: api.KindExit, Got: 1},
		{Seq: 1, Kind: api.KindTick, Ticks: 1},
		{Seq: 1, Kind: api.KindPick},
		{Seq: 1, Kind: api.KindReweight, Task: 1, Weight: 1},
		{Seq: 1, Kind: api.KindRegroup, Group: 1, Weight: 1},
		{Seq: 1, Cpu: 1, Kind: api.KindMigrate, Task: 1, To: 0},
		{Seq: 1, Kind: api.KindBalance, Got: 1},
	}
	greatest = []event.Event{
		{Seq: maxSeq, Time: maxTime, Cpu: 63, Kind: api.KindSpawn, Task: 65535, Group: 255, Weight: 65536, Mask: math.MaxUint64},
		{Seq: maxSeq, Time: maxTime, Cpu: 63, Kind: api.KindWake, Task: 65535},
		{Seq: maxSeq, Time: maxTime, Cpu: 63, Kind: api.KindBlock, Got: 65535},
		{Seq: maxSeq, Time: maxTime, Cpu: 63, Kind: api.KindExit, Got: 65535},
		{Seq: maxSeq, Time: maxTime, Cpu: 63, Kind: api.KindTick, Ticks: 1<<32 - 1, Got: 65535},
		{Seq: maxSeq, Time: maxTime, Cpu: 63, Kind: api.KindPick, Got: 65535},
		{Seq: maxSeq, Time: maxTime, Cpu: 63, Kind: api.KindReweight, Task: 65535, Weight: 65536},
		{Seq: maxSeq, Time: maxTime, Cpu: 63, Kind: api.KindRegroup, Group: 255, Weight: 65536},
		{Seq: maxSeq, Time: maxTime, Cpu: 62, Kind: api.KindMigrate, Task: 65535, To: 63},
		{Seq: maxSeq, Time: maxTime, Cpu: 63, Kind: api.KindBalance, Got: 65535},
	}
)

// wrong are events that are not right, with each error of event.Check.
var wrong = []event.Event{
	{},
	{Seq: 5, Kind: 11, Got: 1},
	{Seq: 5, Kind: 255},
	{Kind: api.KindPick},
	{Seq: -1, Time: -1, Kind: api.KindPick},
	{Seq: maxSeq + 1, Kind: api.KindPick},
	{Seq: 5, Time: maxTime + 1, Kind: api.KindPick},
	{Seq: 5, Cpu: 64, Kind: api.KindPick},
	{Seq: 5, Kind: api.KindBlock},
	{Seq: 5, Cpu: 2, Kind: api.KindMigrate, Task: 1, To: 2},
	{Seq: 5, Cpu: 2, Kind: api.KindSpawn, Task: 7, Weight: 1024, Mask: 3},
	{Seq: 5, Kind: api.KindWake, Task: 7, Got: 1},
	{Seq: 5, Kind: api.KindPick, Mask: 1},
}

// someRight returns right events without a pattern, small ones as often as great ones.
func someRight(random *rand.Rand, n int) []event.Event {
	below := func(most int) int { return random.Intn(min(most, 1<<random.Intn(50)) + 1) }
	var l []event.Event
	for len(l) < n {
		kind := uint8(1 + random.Intn(10))
		e := event.Event{Seq: 1 + below(maxSeq-1), Time: below(maxTime), Cpu: uint8(random.Intn(64)), Kind: kind}
		var values []uint64
		for _, name := range event.Fields(kind) {
			switch name {
			case "mask":
				values = append(values, random.Uint64()>>random.Intn(64)|1<<e.Cpu)
			case "ticks":
				values = append(values, uint64(1+below(1<<32-2)))
			case "group":
				values = append(values, uint64(1+below(254)))
			case "to":
				values = append(values, uint64(random.Intn(64)))
			default:
				values = append(values, uint64(1+below(65534)))
			}
		}
		// Not one that migrates to its own CPU.
		if e, err := event.With(e, values); err == api.OK {
			l = append(l, e)
		}
	}
	return l
}

func allRight() []event.Event {
	l := []event.Event{spawn, tick}
	l = append(l, least...)
	l = append(l, greatest...)
	return append(l, someRight(rand.New(rand.NewSource(7)), 300)...)
}

// basesAbout returns bases, right and not, that an event is just behind, or just not.
func basesAbout(e event.Event) []codec.Base {
	seqs := []int{math.MinInt, -1, 0, 1, 2, e.Seq - 200, e.Seq - 1, e.Seq, e.Seq + 1, maxSeq - 1, maxSeq, maxSeq + 1, math.MaxInt}
	times := []int{math.MinInt, -1, 0, 1, e.Time - 20000, e.Time - 1, e.Time, e.Time + 1, maxTime - 1, maxTime, maxTime + 1, math.MaxInt}
	var l []codec.Base
	for _, seq := range seqs {
		for _, time := range times {
			l = append(l, codec.Base{Seq: seq, Time: time})
		}
	}
	return l
}

// The same by the definitions.

func rightBase(b codec.Base) bool {
	return b.Seq >= 1 && b.Seq <= maxSeq && b.Time >= 0 && b.Time <= maxTime
}

func isBehind(b codec.Base, e event.Event) bool { return !(e.Seq < b.Seq) && !(e.Time < b.Time) }

// recordOf returns the record of an event, by its definition.
func recordOf(b codec.Base, e event.Event) []byte {
	var values []int
	switch e.Kind {
	case 1:
		values = []int{e.Task, e.Group, e.Weight}
	case 2:
		values = []int{e.Task}
	case 3, 4, 6, 10:
		values = []int{e.Got}
	case 5:
		values = []int{e.Ticks, e.Got}
	case 7:
		values = []int{e.Task, e.Weight}
	case 8:
		values = []int{e.Group, e.Weight}
	case 9:
		values = []int{e.Task, e.To}
	}
	l := []byte{e.Kind}
	for _, x := range append([]int{e.Seq - b.Seq, e.Time - b.Time}, values...) {
		l = binary.AppendUvarint(l, uint64(x))
	}
	if e.Kind == 1 {
		l = binary.AppendUvarint(l, e.Mask)
	}
	return l
}

// putOf returns what Put has to.
func putOf(b codec.Base, e event.Event) ([]byte, api.Errno) {
	if err := event.Check(e); err != api.OK {
		return nil, err
	}
	if !rightBase(b) || !isBehind(b, e) {
		return nil, codec.ErrBase
	}
	return recordOf(b, e), api.OK
}

// sum returns a number and one more, if they are together at most a limit.
func sum(x int, more uint64, most int) (int, bool) {
	s := new(big.Int).Add(big.NewInt(int64(x)), new(big.Int).SetUint64(more))
	if s.Cmp(big.NewInt(int64(most))) > 0 {
		return 0, false
	}
	return int(s.Int64()), true
}

// eventOf returns the only event that may have a record of these numbers.
func eventOf(b codec.Base, cpu, kind uint8, numbers []uint64) (event.Event, bool) {
	seq, okSeq := sum(b.Seq, numbers[0], maxSeq)
	time, okTime := sum(b.Time, numbers[1], maxTime)
	if !okSeq || !okTime {
		return event.Event{}, false
	}
	e := event.Event{Seq: seq, Time: time, Cpu: cpu, Kind: kind}
	var places []*int
	switch kind {
	case 1:
		places, e.Mask = []*int{&e.Task, &e.Group, &e.Weight}, numbers[5]
	case 2:
		places = []*int{&e.Task}
	case 3, 4, 6, 10:
		places = []*int{&e.Got}
	case 5:
		places = []*int{&e.Ticks, &e.Got}
	case 7:
		places = []*int{&e.Task, &e.Weight}
	case 8:
		places = []*int{&e.Group, &e.Weight}
	case 9:
		places = []*int{&e.Task, &e.To}
	}
	for i, p := range places {
		x, ok := sum(0, numbers[2+i], 1<<32-1) // no field is greater
		if !ok {
			return event.Event{}, false
		}
		*p = x
	}
	return e, event.Check(e) == api.OK
}

// countOf is how many numbers follow a kind, 0 for what is no kind.
func countOf(kind byte) int {
	if kind > 10 {
		return 0
	}
	return []int{0, 6, 3, 3, 3, 4, 3, 4, 4, 4, 3}[kind]
}

// takeOf returns what Take has to, by the list of steps.
func takeOf(b codec.Base, cpu uint8, l []byte) (event.Event, int, api.Errno) {
	if !rightBase(b) {
		return event.Event{}, 0, codec.ErrBase
	}
	if len(l) == 0 {
		return event.Event{}, 0, varint.ErrShort
	}
	if countOf(l[0]) == 0 {
		return event.Event{}, 0, event.ErrKind
	}
	size := 1
	var numbers []uint64
	for range countOf(l[0]) {
		x, n, err := varint.Read(l[size:])
		if err != api.OK {
			return event.Event{}, 0, err
		}
		numbers, size = append(numbers, x), size+n
	}
	e, ok := eventOf(b, cpu, l[0], numbers)
	if !ok {
		return event.Event{}, 0, event.ErrField
	}
	return e, size, api.OK
}

// puts fails unless Put and Size return what they have to.
func puts(t *testing.T, b codec.Base, e event.Event, want []byte, wantErr api.Errno) {
	t.Helper()
	if l, err := codec.Put(b, e); !slices.Equal(l, want) || err != wantErr {
		t.Fatalf("Put(%v, %+v) = %v, %d, want %v, %d", b, e, l, err, want, wantErr)
	}
	if n, err := codec.Size(b, e); n != len(want) || err != wantErr {
		t.Fatalf("Size(%v, %+v) = %d, %d, want %d, %d", b, e, n, err, len(want), wantErr)
	}
}

// takes fails unless Take returns what it has to.
func takes(t *testing.T, b codec.Base, cpu uint8, l []byte, want event.Event, size int, wantErr api.Errno) {
	t.Helper()
	if e, n, err := codec.Take(b, cpu, l); e != want || n != size || err != wantErr {
		t.Fatalf("Take(%v, %d, %v) = %+v, %d, %d, want %+v, %d, %d", b, cpu, l, e, n, err, want, size, wantErr)
	}
}

// takesAsDefined fails unless Take does as the list of steps does, which is returned.
func takesAsDefined(t *testing.T, b codec.Base, cpu uint8, l []byte) api.Errno {
	t.Helper()
	e, n, err := takeOf(b, cpu, l)
	takes(t, b, cpu, l, e, n, err)
	return err
}

func TestConstants(t *testing.T) {
	if codec.MaxRecord != 33 || codec.ErrBase != 70 || codec.ErrRow != 71 {
		t.Error("a constant is not that of the chapter")
	}
}

// P7.1

func TestPutExamples(t *testing.T) {
	puts(t, codec.Base{Seq: 1}, spawn, []byte{1, 0, 0, 7, 0, 128, 8, 255, 1}, api.OK)
	puts(t, codec.Base{Seq: 3, Time: 300}, tick, []byte{5, 2, 40, 40, 7}, api.OK)
	puts(t, codec.Base{Seq: 3}, tick, []byte{5, 2, 212, 2, 40, 7}, api.OK)
	puts(t, codec.Base{Seq: 6}, tick, nil, codec.ErrBase)
	puts(t, codec.Base{Seq: 5, Time: 340}, tick, []byte{5, 0, 0, 40, 7}, api.OK)
	puts(t, codec.Base{Seq: 5, Time: 341}, tick, nil, codec.ErrBase)
}

func TestPutEachKind(t *testing.T) {
	for i, want := range [][]byte{
		{1, 0, 0, 1, 0, 1, 1},
		{2, 0, 0, 1},
		{3, 0, 0, 1},
		{4, 0, 0, 1},
		{5, 0, 0, 1, 0},
		{6, 0, 0, 0},
		{7, 0, 0, 1, 1},
		{8, 0, 0, 1, 1},
		{9, 0, 0, 1, 0},
		{10, 0, 0, 1},
	} {
		puts(t, codec.Base{Seq: 1}, least[i], want, api.OK)
	}
	begin := []byte{255, 255, 255, 255, 255, 255, 63, 128, 128, 128, 128, 128, 128, 64} // 2^48 - 1 and 2^48
	for i, want := range [][]byte{
		{255, 255, 3, 255, 1, 128, 128, 4, 255, 255, 255, 255, 255, 255, 255, 255, 255, 1},
		{255, 255, 3},
		{255, 255, 3},
		{255, 255, 3},
		{255, 255, 255, 255, 15, 255, 255, 3},
		{255, 255, 3},
		{255, 255, 3, 128, 128, 4},
		{255, 1, 128, 128, 4},
		{255, 255, 3, 63},
		{255, 255, 3},
	} {
		puts(t, codec.Base{Seq: 1}, greatest[i], slices.Concat([]byte{byte(i + 1)}, begin, want), api.OK)
		puts(t, codec.Base{Seq: maxSeq, Time: maxTime}, greatest[i], slices.Concat([]byte{byte(i + 1), 0, 0}, want), api.OK)
	}
}

func TestPutByTheDefinition(t *testing.T) {
	seen := map[api.Errno]int{}
	for _, e := range append(allRight(), wrong...) {
		for _, b := range basesAbout(e) {
			want, err := putOf(b, e)
			puts(t, b, e, want, err)
			seen[err]++
		}
	}
	for _, err := range []api.Errno{api.OK, codec.ErrBase, event.ErrKind, event.ErrField, event.ErrOther} {
		if seen[err] < 100 {
			t.Errorf("only %d times %d", seen[err], err)
		}
	}
}

func TestPutErrorsOfEventsFirst(t *testing.T) {
	for _, b := range []codec.Base{{}, {Seq: -1, Time: -1}, {Seq: maxSeq, Time: maxTime}, {Seq: maxSeq + 1}, {Seq: 1}} {
		for _, e := range wrong {
			err := event.Check(e)
			if err == api.OK {
				t.Fatalf("%+v is right", e)
			}
			puts(t, b, e, nil, err)
		}
	}
}

// P7.2

func TestTakeExamples(t *testing.T) {
	b := codec.Base{Seq: 3, Time: 300}
	takes(t, b, 2, []byte{5, 2, 40, 40, 7, 9}, tick, 5, api.OK)
	takes(t, b, 2, nil, event.Event{}, 0, varint.ErrShort)
	takes(t, b, 2, []byte{}, event.Event{}, 0, varint.ErrShort)
	takes(t, b, 2, []byte{5, 2, 40}, event.Event{}, 0, varint.ErrShort)
	takes(t, b, 2, []byte{0}, event.Event{}, 0, event.ErrKind)
	takes(t, b, 2, []byte{5, 2, 40, 0, 7}, event.Event{}, 0, event.ErrField)
	takes(t, b, 64, []byte{5, 2, 40, 40, 7}, event.Event{}, 0, event.ErrField)
	takes(t, codec.Base{Seq: 1}, 2, []byte{1, 0, 0, 7, 0, 128, 8, 255, 1}, spawn, 9, api.OK)
	takes(t, codec.Base{Seq: 1}, 8, []byte{1, 0, 0, 7, 0, 128, 8, 255, 1}, event.Event{}, 0, event.ErrField)
}

func TestTakeErrors(t *testing.T) {
	over := slices.Concat([]byte{6, 0, 0}, bytes.Repeat([]byte{255}, 9), []byte{2})
	for _, c := range []struct {
		name  string
		b     codec.Base
		cpu   uint8
		bytes []byte
		want  api.Errno
	}{
		{"base with Seq 0, nothing", codec.Base{}, 0, nil, codec.ErrBase},
		{"base with Seq 0, no kind", codec.Base{}, 64, []byte{0}, codec.ErrBase},
		{"base with Time -1", codec.Base{Seq: 1, Time: -1}, 0, []byte{6, 0, 1, 0}, codec.ErrBase},
		{"base with too great a Seq", codec.Base{Seq: maxSeq + 1}, 0, []byte{6, 0, 0, 0}, codec.ErrBase},
		{"base with too great a Time", codec.Base{Seq: 1, Time: maxTime + 1}, 0, []byte{6, 0, 0, 0}, codec.ErrBase},
		{"no kind 11", codec.Base{Seq: 1}, 0, []byte{11, 0, 0, 0}, event.ErrKind},
		{"no kind 128", codec.Base{Seq: 1}, 0, []byte{128, 6, 0, 0, 0}, event.ErrKind},
		{"no kind, no CPU", codec.Base{Seq: 1}, 64, []byte{255}, event.ErrKind},
		{"the kind alone", codec.Base{Seq: 1}, 64, []byte{6}, varint.ErrShort},
		{"one number of three", codec.Base{Seq: 1}, 0, []byte{6, 0}, varint.ErrShort},
		{"two numbers of three", codec.Base{Seq: 1}, 0, []byte{6, 0, 0}, varint.ErrShort},
		{"a number that goes on", codec.Base{Seq: 1}, 0, []byte{6, 0, 0, 128}, varint.ErrShort},
		{"a last byte 0", codec.Base{Seq: 1}, 0, []byte{6, 0, 128, 0, 0}, varint.ErrZero},
		{"a last byte 0, and too few", codec.Base{Seq: 1}, 0, []byte{6, 128, 0}, varint.ErrZero},
		{"above 2^64 - 1", codec.Base{Seq: 1}, 0, over, varint.ErrOver},
		{"above 2^64 - 1 behind a 0", codec.Base{Seq: 1}, 0, append([]byte{6, 128, 0}, over[3:]...), varint.ErrZero},
		{"a number too much for no CPU, and a last byte 0", codec.Base{Seq: 1}, 64, []byte{6, 0, 0, 128, 0}, varint.ErrZero},
		{"a Seq too great", codec.Base{Seq: maxSeq}, 0, []byte{6, 1, 0, 0}, event.ErrField},
		{"a Time too great", codec.Base{Seq: 1, Time: maxTime}, 0, []byte{6, 0, 1, 0}, event.ErrField},
		{"the greatest Seq and Time", codec.Base{Seq: maxSeq, Time: maxTime}, 0, []byte{6, 0, 0, 0}, api.OK},
		{"a migrate to the CPU", codec.Base{Seq: 1}, 3, []byte{9, 0, 0, 1, 3}, event.ErrField},
		{"a migrate to another CPU", codec.Base{Seq: 1}, 4, []byte{9, 0, 0, 1, 3}, api.OK},
		{"a regroup of the root", codec.Base{Seq: 1}, 4, []byte{8, 0, 0, 0, 3}, event.ErrField},
	} {
		if err := takesAsDefined(t, c.b, c.cpu, c.bytes); err != c.want {
			t.Errorf("%s: %d, want %d", c.name, err, c.want)
		}
	}
}

// TestTakeGreatNumbers has numbers that are right modulo 2^64, or 2^32, or would be less than the base.
func TestTakeGreatNumbers(t *testing.T) {
	seen := map[api.Errno]int{}
	for _, e := range append([]event.Event{spawn, tick}, append(least, greatest...)...) {
		for _, b := range []codec.Base{{Seq: 1}, {Seq: e.Seq, Time: e.Time}, {Seq: max(1, e.Seq-9), Time: max(0, e.Time-9)}, {Seq: maxSeq, Time: maxTime}, {Seq: 1 << 47, Time: 1 << 47}} {
			if !isBehind(b, e) {
				continue
			}
			numbers, err := varint.ReadAll(recordOf(b, e)[1:])
			if err != api.OK {
				t.Fatal(err)
			}
			for i, before := range numbers {
				for _, x := range []uint64{
					0, 1, before + 1, before - 1, -before, before + 1<<32, before + 1<<63, before | 1<<63, 63, 64, 255, 256, 65535, 65536, 65537, 1<<32 - 1, 1 << 32,
					1<<48 - 1, 1 << 48, 1<<48 + 1, maxSeq - uint64(b.Seq), maxSeq - uint64(b.Seq) + 1, maxTime - uint64(b.Time), maxTime - uint64(b.Time) + 1,
					1<<63 - 1, 1 << 63, 1<<63 + 1, math.MaxUint64, math.MaxUint64 - 1, -uint64(b.Seq), -uint64(b.Seq) + 1, -uint64(b.Time), -uint64(b.Time) + 1,
				} {
					changed := slices.Clone(numbers)
					changed[i] = x
					seen[takesAsDefined(t, b, e.Cpu, append([]byte{e.Kind}, varint.WriteAll(changed)...))]++
				}
			}
		}
	}
	if seen[api.OK] < 100 || seen[event.ErrField] < 100 || len(seen) != 2 {
		t.Errorf("%v", seen)
	}
}

func TestTakeWithEachCPU(t *testing.T) {
	for _, e := range allRight() {
		l := recordOf(codec.Base{Seq: 1}, e)
		for cpu := range 256 {
			takesAsDefined(t, codec.Base{Seq: 1}, uint8(cpu), l)
		}
	}
}

// TestTakeOfChangedRecords takes records of which a byte is another one, is missing, or is there in addition.
func TestTakeOfChangedRecords(t *testing.T) {
	seen := map[api.Errno]int{}
	for _, e := range allRight()[:60] {
		b := codec.Base{Seq: max(1, e.Seq-300), Time: max(0, e.Time-300)}
		check := func(parts ...[]byte) { seen[takesAsDefined(t, b, e.Cpu, slices.Concat(parts...))]++ }
		l := recordOf(b, e)
		for i := range len(l) + 1 {
			check(l[:i])
			check(l[i:])
			for x := range 256 {
				check(l[:i], []byte{byte(x)}, l[i:])
				if i < len(l) {
					check(l[:i], []byte{byte(x)}, l[i+1:])
				}
			}
			if i < len(l) {
				check(l[:i], l[i+1:])
			}
		}
	}
	for _, err := range []api.Errno{api.OK, varint.ErrShort, varint.ErrZero, event.ErrKind, event.ErrField} {
		if seen[err] < 100 {
			t.Errorf("only %d times %d", seen[err], err)
		}
	}
}

func TestTakeOfAllShortBytes(t *testing.T) {
	edges := []byte{0, 1, 2, 5, 6, 9, 11, 127, 128, 255}
	var extend func(l []byte, n int)
	extend = func(l []byte, n int) {
		takesAsDefined(t, codec.Base{Seq: 1}, 0, l)
		takesAsDefined(t, codec.Base{Seq: 2, Time: 1}, 63, l)
		if n == 0 {
			return
		}
		for _, x := range edges {
			extend(append(slices.Clone(l), x), n-1)
		}
	}
	extend(nil, 5)
}

func TestTakeLooksAtNothingBehindTheRecord(t *testing.T) {
	for _, e := range allRight() {
		b := codec.Base{Seq: 1}
		l := recordOf(b, e)
		for _, more := range [][]byte{{0}, {128}, {255, 255}, l, bytes.Repeat([]byte{255}, 100)} {
			all := slices.Concat(l, more)
			takes(t, b, e.Cpu, all, e, len(l), api.OK)
			takes(t, b, e.Cpu, all[:len(l)], e, len(l), api.OK)
			// What is beyond the slice is not its bytes.
			takes(t, b, e.Cpu, all[:len(l)-1], event.Event{}, 0, varint.ErrShort)
		}
	}
}
