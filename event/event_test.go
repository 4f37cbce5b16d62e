package event_test

import (
	"math"
	"math/rand"
	"reflect"
	"slices"
	"strings"
	"testing"

	"quantum/api"
	"quantum/event"
)

// span is a field of a kind, with the least and the greatest value. Of a mask one bit counts alone.
type span struct {
	name        string
	least, most int
}

// kinds is the table of the chapter, with the limits of each field.
var kinds = []struct {
	kind  uint8
	name  string
	spans []span
}{
	{1, "spawn", []span{{"task", 1, 65535}, {"group", 0, 255}, {"weight", 1, 65536}, {"mask", 0, 0}}},
	{2, "wake", []span{{"task", 1, 65535}}},
	{3, "block", []span{{"got", 1, 65535}}},
	{4, "exit", []span{{"got", 1, 65535}}},
	{5, "tick", []span{{"ticks", 1, 4294967295}, {"got", 0, 65535}}},
	{6, "pick", []span{{"got", 0, 65535}}},
	{7, "reweight", []span{{"task", 1, 65535}, {"weight", 1, 65536}}},
	{8, "regroup", []span{{"group", 1, 255}, {"weight", 1, 65536}}},
	{9, "migrate", []span{{"task", 1, 65535}, {"to", 0, 63}}},
	{10, "balance", []span{{"got", 1, 65535}}},
}

// common are the fields of all kinds.
var common = []span{{"seq", 1, 281474976710656}, {"time", 0, 281474976710656}, {"cpu", 0, 63}}

// fieldOrder is the order of all fields, that of P6.5.
var fieldOrder = []string{"seq", "time", "cpu", "kind", "task", "group", "to", "weight", "ticks", "mask", "got"}

// right are right events, of each kind one with the least values at least, and one with the greatest.
var right = []event.Event{
	{Seq: 1, Time: 0, Cpu: 2, Kind: api.KindSpawn, Task: 7, Group: 0, Weight: 1024, Mask: 255},
	{Seq: 1, Time: 0, Cpu: 0, Kind: api.KindSpawn, Task: 1, Group: 0, Weight: 1, Mask: 1},
	{Seq: 1 << 48, Time: 1 << 48, Cpu: 63, Kind: api.KindSpawn, Task: 65535, Group: 255, Weight: 65536, Mask: math.MaxUint64},
	{Seq: 12, Time: 30, Cpu: 63, Kind: api.KindSpawn, Task: 10, Group: 9, Weight: 100, Mask: 1 << 63},
	{Seq: 1, Time: 0, Cpu: 0, Kind: api.KindWake, Task: 1},
	{Seq: 1 << 48, Time: 1 << 48, Cpu: 63, Kind: api.KindWake, Task: 65535},
	{Seq: 1, Time: 0, Cpu: 0, Kind: api.KindBlock, Got: 1},
	{Seq: 1 << 48, Time: 1 << 48, Cpu: 63, Kind: api.KindBlock, Got: 65535},
	{Seq: 1, Time: 0, Cpu: 0, Kind: api.KindExit, Got: 1},
	{Seq: 1 << 48, Time: 1 << 48, Cpu: 63, Kind: api.KindExit, Got: 65535},
	{Seq: 5, Time: 40, Cpu: 2, Kind: api.KindTick, Ticks: 40, Got: 7},
	{Seq: 1, Time: 0, Cpu: 0, Kind: api.KindTick, Ticks: 1, Got: 0},
	{Seq: 1 << 48, Time: 1 << 48, Cpu: 63, Kind: api.KindTick, Ticks: 1<<32 - 1, Got: 65535},
	{Seq: 1, Time: 0, Cpu: 0, Kind: api.KindPick, Got: 0},
	{Seq: 1 << 48, Time: 1 << 48, Cpu: 63, Kind: api.KindPick, Got: 65535},
	{Seq: 1, Time: 0, Cpu: 0, Kind: api.KindReweight, Task: 1, Weight: 1},
	{Seq: 1 << 48, Time: 1 << 48, Cpu: 63, Kind: api.KindReweight, Task: 65535, Weight: 65536},
	{Seq: 1, Time: 0, Cpu: 0, Kind: api.KindRegroup, Group: 1, Weight: 1},
	{Seq: 1 << 48, Time: 1 << 48, Cpu: 63, Kind: api.KindRegroup, Group: 255, Weight: 65536},
	{Seq: 1, Time: 0, Cpu: 1, Kind: api.KindMigrate, Task: 1, To: 0},
	{Seq: 1 << 48, Time: 1 << 48, Cpu: 62, Kind: api.KindMigrate, Task: 65535, To: 63},
	{Seq: 4, Time: 4, Cpu: 63, Kind: api.KindMigrate, Task: 4, To: 62},
	{Seq: 1, Time: 0, Cpu: 0, Kind: api.KindBalance, Got: 1},
	{Seq: 1 << 48, Time: 1 << 48, Cpu: 63, Kind: api.KindBalance, Got: 65535},
}

// borders are values where a limit may be, and some that are beyond all of them.
var borders = []int{
	math.MinInt, math.MinInt + 1, -1 << 48, -1, 0, 1, 2, 3, 10, 11, 62, 63, 64, 65, 254, 255, 256, 257,
	65534, 65535, 65536, 65537, 1<<32 - 2, 1<<32 - 1, 1 << 32, 1<<32 + 1, 1<<48 - 1, 1 << 48, 1<<48 + 1, math.MaxInt - 1, math.MaxInt,
}

// The same by the definitions: fields are found by their names.

func fieldOf(e *event.Event, name string) reflect.Value {
	return reflect.ValueOf(e).Elem().FieldByName(strings.ToUpper(name[:1]) + name[1:])
}

// valueOf returns a field as a number with a sign; of a mask all bits stay.
func valueOf(e event.Event, name string) int {
	if v := fieldOf(&e, name); v.CanUint() {
		return int(v.Uint())
	} else {
		return int(v.Int())
	}
}

// changed returns an event with another value in a field; of a CPU and a kind the lowest byte is taken.
func changed(e event.Event, name string, x int) event.Event {
	v := fieldOf(&e, name)
	switch v.Kind() {
	case reflect.Uint8:
		v.SetUint(uint64(uint8(x)))
	case reflect.Uint64:
		v.SetUint(uint64(x))
	default:
		v.SetInt(int64(x))
	}
	return e
}

// spansOf returns the fields of a kind, and whether there is one.
func spansOf(kind uint8) ([]span, bool) {
	for _, k := range kinds {
		if k.kind == kind {
			return k.spans, true
		}
	}
	return nil, false
}

func namesOf(spans []span) []string {
	var l []string
	for _, s := range spans {
		l = append(l, s.name)
	}
	return l
}

// checkOf returns what Check has to.
func checkOf(e event.Event) api.Errno {
	spans, ok := spansOf(e.Kind)
	if !ok {
		return event.ErrKind
	}
	has := map[string]bool{"kind": true}
	wrong := false
	for _, s := range append(slices.Clone(common), spans...) {
		has[s.name] = true
		x := valueOf(e, s.name)
		switch {
		case s.name == "mask":
			wrong = wrong || e.Cpu > 63 || e.Mask&(1<<e.Cpu) == 0
		case s.name == "to" && x == int(e.Cpu):
			wrong = true
		default:
			wrong = wrong || x < s.least || x > s.most
		}
	}
	if wrong {
		return event.ErrField
	}
	for _, name := range fieldOrder {
		if !has[name] && valueOf(e, name) != 0 {
			return event.ErrOther
		}
	}
	return api.OK
}

// someEvents calls f with the right events, and with all events that have other values in one or two of the fields.
func someEvents(f func(e event.Event)) {
	for _, e := range right {
		f(e)
		for i, first := range fieldOrder {
			for _, x := range borders {
				once := changed(e, first, x)
				f(once)
				for _, second := range fieldOrder[i+1:] {
					for _, y := range []int{math.MinInt, -1, 0, 1, 63, 64, 256, 65536, 1 << 32, 1<<48 + 1} {
						f(changed(once, second, y))
					}
				}
			}
		}
	}
}

// P6.1

func TestConstants(t *testing.T) {
	if event.MaxSeq != 281474976710656 || event.MaxTask != 65535 || event.MaxTicks != 4294967295 || event.Kinds != 10 {
		t.Error("a limit is not that of the chapter")
	}
	if event.ErrKind != 60 || event.ErrField != 61 || event.ErrOther != 62 || event.ErrText != 63 {
		t.Error("an error is not that of the chapter")
	}
}

func TestCheckRight(t *testing.T) {
	for _, e := range right {
		if err := event.Check(e); err != api.OK {
			t.Errorf("Check(%+v) = %d", e, err)
		}
	}
}

func TestCheckExamples(t *testing.T) {
	for _, c := range []struct {
		name string
		e    event.Event
		want api.Errno
	}{
		{"nothing at all", event.Event{}, event.ErrKind},
		{"kind 0", event.Event{Seq: 1, Got: 1}, event.ErrKind},
		{"kind 11", event.Event{Seq: 1, Kind: 11, Got: 1}, event.ErrKind},
		{"kind 255", event.Event{Seq: 1, Kind: 255, Got: 1}, event.ErrKind},
		{"kind 0, and a field beyond its limits", event.Event{Cpu: 64, Time: -1}, event.ErrKind},
		{"mask 3 on CPU 2", event.Event{Seq: 1, Cpu: 2, Kind: 1, Task: 7, Weight: 1024, Mask: 3}, event.ErrField},
		{"no mask", event.Event{Seq: 1, Cpu: 2, Kind: 1, Task: 7, Weight: 1024}, event.ErrField},
		{"mask of the other CPUs", event.Event{Seq: 1, Cpu: 63, Kind: 1, Task: 7, Weight: 1024, Mask: math.MaxInt64}, event.ErrField},
		{"mask on CPU 64", event.Event{Seq: 1, Cpu: 64, Kind: 1, Task: 7, Weight: 1024, Mask: math.MaxUint64}, event.ErrField},
		{"wake with Got", event.Event{Seq: 1, Kind: 2, Task: 7, Got: 1}, event.ErrOther},
		{"wake without a task", event.Event{Seq: 1, Kind: 2}, event.ErrField},
		{"migrate to the same CPU", event.Event{Seq: 1, Cpu: 2, Kind: 9, Task: 7, To: 2}, event.ErrField},
		{"migrate to CPU 64", event.Event{Seq: 1, Cpu: 2, Kind: 9, Task: 7, To: 64}, event.ErrField},
		{"migrate to CPU -1", event.Event{Seq: 1, Cpu: 2, Kind: 9, Task: 7, To: -1}, event.ErrField},
		{"migrate from CPU 64", event.Event{Seq: 1, Cpu: 64, Kind: 9, Task: 7, To: 2}, event.ErrField},
		{"regroup of the root", event.Event{Seq: 1, Kind: 8, Weight: 7}, event.ErrField},
		{"regroup of group 256", event.Event{Seq: 1, Kind: 8, Group: 256, Weight: 7}, event.ErrField},
		{"spawn in group 256", event.Event{Seq: 1, Kind: 1, Task: 7, Group: 256, Weight: 7, Mask: 1}, event.ErrField},
		{"spawn in group -1", event.Event{Seq: 1, Kind: 1, Task: 7, Group: -1, Weight: 7, Mask: 1}, event.ErrField},
		{"block of nobody", event.Event{Seq: 1, Kind: 3}, event.ErrField},
		{"exit of nobody", event.Event{Seq: 1, Kind: 4}, event.ErrField},
		{"tick of nobody", event.Event{Seq: 1, Kind: 5, Ticks: 1}, api.OK},
		{"tick of -1", event.Event{Seq: 1, Kind: 5, Ticks: 1, Got: -1}, event.ErrField},
		{"tick of 0", event.Event{Seq: 1, Kind: 5, Ticks: 0, Got: 1}, event.ErrField},
		{"tick of 2^32", event.Event{Seq: 1, Kind: 5, Ticks: 1 << 32, Got: 1}, event.ErrField},
		{"pick of nobody", event.Event{Seq: 1, Kind: 6}, api.OK},
		{"pick of 65536", event.Event{Seq: 1, Kind: 6, Got: 65536}, event.ErrField},
		{"balance of nobody", event.Event{Seq: 1, Kind: 10}, event.ErrField},
		{"reweight to 0", event.Event{Seq: 1, Kind: 7, Task: 1}, event.ErrField},
		{"reweight to 65537", event.Event{Seq: 1, Kind: 7, Task: 1, Weight: 65537}, event.ErrField},
		{"reweight of 65536", event.Event{Seq: 1, Kind: 7, Task: 65536, Weight: 1}, event.ErrField},
		{"no number", event.Event{Kind: 6}, event.ErrField},
		{"a number that is too great", event.Event{Seq: 1<<48 + 1, Kind: 6}, event.ErrField},
		{"a time that is too great", event.Event{Seq: 1, Time: 1<<48 + 1, Kind: 6}, event.ErrField},
		{"a time below 0", event.Event{Seq: 1, Time: -1, Kind: 6}, event.ErrField},
		{"CPU 64", event.Event{Seq: 1, Cpu: 64, Kind: 6}, event.ErrField},
		{"CPU 255", event.Event{Seq: 1, Cpu: 255, Kind: 6}, event.ErrField},
		{"other, below 0", event.Event{Seq: 1, Kind: 6, Task: -1}, event.ErrOther},
		{"other, the mask", event.Event{Seq: 1, Kind: 6, Mask: 1 << 63}, event.ErrOther},
		{"a field and another one", event.Event{Seq: 1, Kind: 6, Got: -1, Task: 1}, event.ErrField},
		{"no number, and another field", event.Event{Kind: 6, Got: 1, Task: 1}, event.ErrField},
	} {
		if err := event.Check(c.e); err != c.want {
			t.Errorf("%s: Check = %d, want %d", c.name, err, c.want)
		}
	}
}

func TestCheckByTheDefinition(t *testing.T) {
	seen := map[api.Errno]int{}
	someEvents(func(e event.Event) {
		want := checkOf(e)
		seen[want]++
		if err := event.Check(e); err != want {
			t.Fatalf("Check(%+v) = %d, want %d", e, err, want)
		}
	})
	for _, want := range []api.Errno{api.OK, event.ErrKind, event.ErrField, event.ErrOther} {
		if seen[want] < 100 {
			t.Errorf("only %d of the events make %d", seen[want], want)
		}
	}
}

func TestCheckEachBitOfAMask(t *testing.T) {
	for cpu := range uint8(70) {
		for bit := range 64 {
			for _, m := range []uint64{1 << bit, ^uint64(1 << bit)} {
				e := event.Event{Seq: 1, Cpu: cpu, Kind: api.KindSpawn, Task: 7, Weight: 1, Mask: m}
				want := event.ErrField
				if cpu < 64 && (m == 1<<bit) == (bit == int(cpu)) {
					want = api.OK
				}
				if err := event.Check(e); err != want {
					t.Fatalf("CPU %d, mask %#x: %d, want %d", cpu, m, err, want)
				}
			}
		}
	}
}

// P6.2

func TestNames(t *testing.T) {
	names := map[uint8]string{}
	for _, k := range kinds {
		names[k.kind] = k.name
	}
	for kind := range 256 {
		if got := event.Name(uint8(kind)); got != names[uint8(kind)] {
			t.Errorf("Name(%d) = %q, want %q", kind, got, names[uint8(kind)])
		}
	}
	if names[api.KindSpawn] != "spawn" || names[api.KindBalance] != "balance" {
		t.Error("the kinds of api are other ones")
	}
}

func TestFind(t *testing.T) {
	for _, k := range kinds {
		if kind, ok := event.Find(k.name); kind != k.kind || !ok {
			t.Errorf("Find(%q) = %d, %t", k.name, kind, ok)
		}
	}
	for _, name := range []string{
		"", " ", "0", "1", "Spawn", "SPAWN", "spaw", "spawns", "spawn ", " spawn", "spawn wake", "spawn\x00", "task", "got", "kind", "w", "re", "weight", "group", "bal\xffance", strings.Repeat("pick", 1<<18),
	} {
		if kind, ok := event.Find(name); kind != 0 || ok {
			t.Errorf("Find(%.20q) = %d, %t", name, kind, ok)
		}
	}
}

func TestFields(t *testing.T) {
	for kind := range 256 {
		spans, _ := spansOf(uint8(kind))
		if got := event.Fields(uint8(kind)); !slices.Equal(got, namesOf(spans)) {
			t.Errorf("Fields(%d) = %v, want %v", kind, got, namesOf(spans))
		}
	}
	if got := event.Fields(9); !slices.Equal(got, []string{"task", "to"}) {
		t.Errorf("Fields(9) = %v", got)
	}
}

// P6.3

// valuesOf returns the values of a right event.
func valuesOf(e event.Event) []uint64 {
	spans, _ := spansOf(e.Kind)
	var l []uint64
	for _, s := range spans {
		l = append(l, uint64(valueOf(e, s.name)))
	}
	return l
}

func TestValues(t *testing.T) {
	if l, err := event.Values(right[0]); !slices.Equal(l, []uint64{7, 0, 1024, 255}) || err != api.OK {
		t.Errorf("Values of the example = %v, %d", l, err)
	}
	if l, err := event.Values(right[2]); !slices.Equal(l, []uint64{65535, 255, 65536, math.MaxUint64}) || err != api.OK {
		t.Errorf("Values of the greatest spawn = %v, %d", l, err)
	}
	someEvents(func(e event.Event) {
		want := checkOf(e)
		l, err := event.Values(e)
		switch {
		case err != want:
			t.Fatalf("Values(%+v): %d, want %d", e, err, want)
		case err == api.OK && !slices.Equal(l, valuesOf(e)):
			t.Fatalf("Values(%+v) = %v, want %v", e, l, valuesOf(e))
		case err != api.OK && len(l) != 0:
			t.Fatalf("Values(%+v) = %v with an error", e, l)
		}
	})
}

func withs(t *testing.T, e event.Event, values []uint64, want event.Event, wantErr api.Errno) {
	t.Helper()
	if got, err := event.With(e, values); got != want || err != wantErr {
		t.Fatalf("With(%+v, %v) = %+v, %d, want %+v, %d", e, values, got, err, want, wantErr)
	}
}

func TestWithExamples(t *testing.T) {
	pick := event.Event{Seq: 3, Time: 4, Cpu: 5, Kind: api.KindPick}
	withs(t, pick, []uint64{0}, pick, api.OK)
	withs(t, pick, []uint64{0, 0}, event.Event{}, api.ErrArg)
	withs(t, pick, nil, event.Event{}, api.ErrArg)
	withs(t, pick, []uint64{9}, event.Event{Seq: 3, Time: 4, Cpu: 5, Kind: api.KindPick, Got: 9}, api.OK)
	spawn := event.Event{Seq: 1, Cpu: 2, Kind: api.KindSpawn}
	withs(t, spawn, []uint64{7, 0, 1024, 255}, right[0], api.OK)
	withs(t, spawn, []uint64{7, 0, 1024, 3}, event.Event{}, event.ErrField)
}

func TestWithReplacesAllOtherFields(t *testing.T) {
	for _, e := range right {
		full := event.Event{Seq: e.Seq, Time: e.Time, Cpu: e.Cpu, Kind: e.Kind, Task: -5, Group: 999, To: -1, Weight: 1 << 50, Ticks: -9, Mask: math.MaxUint64, Got: math.MinInt}
		withs(t, full, valuesOf(e), e, api.OK)
		withs(t, e, valuesOf(e), e, api.OK)
	}
}

func TestWithErrors(t *testing.T) {
	for _, e := range right {
		values := valuesOf(e)
		for _, kind := range []uint8{0, 11, 12, 128, 255} {
			other := changed(e, "kind", int(kind))
			withs(t, other, values, event.Event{}, event.ErrKind)
			withs(t, other, nil, event.Event{}, event.ErrKind)
			withs(t, changed(other, "seq", 0), append(values, 1), event.Event{}, event.ErrKind)
		}
		for _, wrong := range [][]uint64{nil, {}, values[1:], append(slices.Clone(values), 0), append(slices.Clone(values), 0, 0, 0, 0, 0), make([]uint64, 1<<16)} {
			if len(wrong) != len(values) {
				withs(t, e, wrong, event.Event{}, api.ErrArg)
				withs(t, changed(e, "seq", 0), wrong, event.Event{}, api.ErrArg)
			}
		}
		for _, s := range common {
			if s.least > 0 {
				withs(t, changed(e, s.name, s.least-1), values, event.Event{}, event.ErrField)
			}
			withs(t, changed(e, s.name, s.most+1), values, event.Event{}, event.ErrField)
		}
		withs(t, changed(e, "time", -1), values, event.Event{}, event.ErrField)
		withs(t, changed(e, "seq", math.MinInt), values, event.Event{}, event.ErrField)
	}
}

func TestWithByTheDefinition(t *testing.T) {
	great := []uint64{1 << 63, 1<<63 + 1, 1<<63 + 7, math.MaxUint64 - 1, math.MaxUint64, 1<<32 + 7, 1<<40 + 1}
	for _, x := range borders {
		great = append(great, uint64(x))
	}
	for _, e := range right {
		spans, _ := spansOf(e.Kind)
		for i, s := range spans {
			for _, x := range great {
				values := valuesOf(e)
				values[i] = x
				made := changed(e, s.name, int(x))
				// No right event has a value that is not its field.
				if s.name != "mask" && x > math.MaxInt || checkOf(made) != api.OK {
					withs(t, e, values, event.Event{}, event.ErrField)
				} else {
					withs(t, e, values, made, api.OK)
				}
			}
		}
	}
}

// P6.5

func TestDiffersExample(t *testing.T) {
	other := right[0]
	other.Weight, other.Time = 1, 9
	if got := event.Differs(right[0], other); got != "time" {
		t.Errorf("Differs = %q, want time", got)
	}
}

func TestDiffers(t *testing.T) {
	differs := func(a, b event.Event, want string) {
		t.Helper()
		if got := event.Differs(a, b); got != want {
			t.Fatalf("Differs(%+v, %+v) = %q, want %q", a, b, got, want)
		}
		if got := event.Differs(b, a); got != want {
			t.Fatalf("Differs(%+v, %+v) = %q, want %q", b, a, got, want)
		}
	}
	starts := append(slices.Clone(right), event.Event{}, event.Event{Seq: -1, Time: math.MinInt, Cpu: 255, Kind: 255, Task: -1, Group: -1, To: -1, Weight: -1, Ticks: -1, Mask: math.MaxUint64, Got: math.MinInt})
	for _, e := range starts {
		differs(e, e, "")
		for i, first := range fieldOrder {
			for _, x := range borders {
				once := changed(e, first, x)
				if once == e {
					differs(e, once, "")
					continue
				}
				differs(e, once, first)
				for _, second := range fieldOrder[i+1:] {
					differs(e, changed(once, second, valueOf(e, second)+1), first)
				}
			}
		}
	}
}

// P6.6

func TestValuesMakeTheSameEvent(t *testing.T) {
	someEvents(func(e event.Event) {
		l, err := event.Values(e)
		if err != api.OK {
			return
		}
		withs(t, event.Event{Seq: e.Seq, Time: e.Time, Cpu: e.Cpu, Kind: e.Kind}, l, e, api.OK)
	})
}

// What holds of all promises: results depend on nothing else, and are new memory; arguments stay as they are.

func TestArgumentsAreNotModified(t *testing.T) {
	values := make([]uint64, 4, 8)
	copy(values, []uint64{7, 0, 1024, 255})
	whole := slices.Clone(values[:cap(values)])
	event.With(event.Event{Seq: 1, Cpu: 2, Kind: api.KindSpawn}, values)
	event.With(event.Event{Seq: 1, Cpu: 2, Kind: api.KindWake}, values)
	if !slices.Equal(values[:cap(values)], whole) {
		t.Error("With changed its values")
	}
}

func TestResultsShareNoMemory(t *testing.T) {
	for _, e := range right {
		names, again := event.Fields(e.Kind), event.Fields(e.Kind)
		for i := range names {
			names[i] = "x"
		}
		if slices.Contains(again, "x") || slices.Contains(event.Fields(e.Kind), "x") {
			t.Fatalf("results of Fields(%d) share memory", e.Kind)
		}
		if spans, _ := spansOf(e.Kind); !slices.Equal(event.Fields(e.Kind), namesOf(spans)) {
			t.Fatalf("a result of Fields(%d) is the table", e.Kind)
		}
		l, _ := event.Values(e)
		for i := range l {
			l[i]++
		}
		if m, _ := event.Values(e); !slices.Equal(m, valuesOf(e)) {
			t.Fatalf("results of Values(%+v) share memory", e)
		}
	}
}

// someRight returns right events without a pattern.
func someRight(n int) []event.Event {
	random := rand.New(rand.NewSource(6))
	between := func(least, most int) int {
		// Small ones as often as great ones.
		return least + random.Intn(min(most-least, 1<<random.Intn(50))+1)
	}
	var l []event.Event
	for len(l) < n {
		k := kinds[random.Intn(len(kinds))]
		e := event.Event{Seq: between(1, 1<<48), Time: between(0, 1<<48), Cpu: uint8(random.Intn(64)), Kind: k.kind}
		for _, s := range k.spans {
			e = changed(e, s.name, between(s.least, s.most))
		}
		if k.kind == api.KindSpawn {
			e.Mask = random.Uint64()>>random.Intn(64) | 1<<e.Cpu
		}
		if checkOf(e) == api.OK { // not one that migrates to its own CPU
			l = append(l, e)
		}
	}
	return l
}

func TestSomeRight(t *testing.T) {
	for _, e := range someRight(20000) {
		l, err := event.Values(e)
		if !slices.Equal(l, valuesOf(e)) || err != api.OK || event.Check(e) != api.OK {
			t.Fatalf("Values(%+v) = %v, %d", e, l, err)
		}
		withs(t, event.Event{Seq: e.Seq, Time: e.Time, Cpu: e.Cpu, Kind: e.Kind}, l, e, api.OK)
	}
}
