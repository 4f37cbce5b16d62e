package codec_test

import (
	"bytes"
	"math"
	"math/rand"
	"slices"
	"testing"

	"quantum/api"
	"quantum/codec"
	"quantum/event"
	"quantum/varint"
)

// rowOf returns what Row has to.
func rowOf(l []event.Event) (int, api.Errno) {
	for i := range l {
		if err := event.Check(l[i]); err != api.OK {
			return i, err
		}
		if i == 0 {
			continue
		}
		if l[i].Cpu != l[i-1].Cpu || l[i].Seq <= l[i-1].Seq || l[i].Time < l[i-1].Time {
			return i, codec.ErrRow
		}
	}
	return -1, api.OK
}

// writeOf returns what Write has to.
func writeOf(b codec.Base, l []event.Event) ([]byte, api.Errno) {
	if _, err := rowOf(l); err != api.OK {
		return nil, err
	}
	if !rightBase(b) || len(l) > 0 && !isBehind(b, l[0]) {
		return nil, codec.ErrBase
	}
	return recordsOf(b, l), api.OK
}

func recordsOf(b codec.Base, l []event.Event) []byte {
	var all []byte
	for i, e := range l {
		if i == 0 {
			all = append(all, recordOf(b, e)...)
		} else {
			all = append(all, recordOf(codec.Base{Seq: l[i-1].Seq, Time: l[i-1].Time}, e)...)
		}
	}
	return all
}

// readOf returns what Read has to.
func readOf(b codec.Base, cpu uint8, n int, all []byte) ([]event.Event, int, api.Errno) {
	if n < 0 {
		return nil, 0, api.ErrArg
	}
	if !rightBase(b) {
		return nil, 0, codec.ErrBase
	}
	var l []event.Event
	at := 0
	for i := 0; i < n; i++ {
		e, size, err := takeOf(b, cpu, all[at:])
		if err != api.OK {
			return nil, 0, err
		}
		if i > 0 && e.Seq == l[i-1].Seq {
			return nil, 0, codec.ErrRow
		}
		l, at, b = append(l, e), at+size, codec.Base{Seq: e.Seq, Time: e.Time}
	}
	return l, at, api.OK
}

// someRow returns a row without a pattern.
func someRow(random *rand.Rand, n int) []event.Event {
	l := someRight(random, n)
	seq, time, cpu := 1+random.Intn(300), random.Intn(300), uint8(random.Intn(64))
	for i := range l {
		if l[i].Kind == api.KindMigrate {
			l[i] = event.Event{Kind: api.KindWake, Task: l[i].Task}
		}
		if l[i].Kind == api.KindSpawn {
			l[i].Mask |= 1 << cpu
		}
		l[i].Seq, l[i].Time, l[i].Cpu = seq, time, cpu
		seq += 1 + random.Intn(1<<random.Intn(20))
		time += random.Intn(1 << random.Intn(20))
	}
	return l
}

func writes(t *testing.T, b codec.Base, l []event.Event, want []byte, wantErr api.Errno) {
	t.Helper()
	if all, err := codec.Write(b, l); !slices.Equal(all, want) || err != wantErr {
		t.Fatalf("Write(%v, %+v) = %v, %d, want %v, %d", b, l, all, err, want, wantErr)
	}
}

func reads(t *testing.T, b codec.Base, cpu uint8, n int, all []byte, want []event.Event, size int, wantErr api.Errno) {
	t.Helper()
	if l, k, err := codec.Read(b, cpu, n, all); !slices.Equal(l, want) || k != size || err != wantErr {
		t.Fatalf("Read(%v, %d, %d, %v) = %+v, %d, %d, want %+v, %d, %d", b, cpu, n, all, l, k, err, want, size, wantErr)
	}
}

// readsAsDefined fails unless Read does as its definition does, whose error is returned.
func readsAsDefined(t *testing.T, b codec.Base, cpu uint8, n int, all []byte) api.Errno {
	t.Helper()
	l, size, err := readOf(b, cpu, n, all)
	reads(t, b, cpu, n, all, l, size, err)
	return err
}

// brokenRows calls f with rows of up to six events, and with the same of which one is another one.
func brokenRows(f func(l []event.Event)) {
	random := rand.New(rand.NewSource(73))
	for n := range 7 {
		for range 20 {
			l := someRow(random, n)
			f(l)
			for i := range l {
				with := func(change func(e *event.Event)) {
					other := slices.Clone(l)
					change(&other[i])
					f(other)
				}
				for _, d := range []int{-1, 0, 1} {
					with(func(e *event.Event) { e.Seq = l[max(0, i-1)].Seq + d })
					with(func(e *event.Event) { e.Time = l[max(0, i-1)].Time + d })
					with(func(e *event.Event) { e.Seq, e.Time = l[max(0, i-1)].Seq+d, l[max(0, i-1)].Time-d })
				}
				with(func(e *event.Event) {
					*e = event.Event{Seq: e.Seq, Time: e.Time, Cpu: (e.Cpu + 1) % 64, Kind: api.KindPick}
				})
				for _, bad := range wrong {
					with(func(e *event.Event) { *e = bad })
				}
				with(func(e *event.Event) { e.Cpu = 64 })
				with(func(e *event.Event) { e.Seq, e.Kind = 0, 0 })
			}
		}
	}
}

// P7.3

func TestRowExamples(t *testing.T) {
	pick := event.Event{Seq: 9, Time: 340, Cpu: 2, Kind: api.KindPick}
	at := func(change func(e *event.Event)) event.Event {
		e := pick
		change(&e)
		return e
	}
	for _, c := range []struct {
		name string
		l    []event.Event
		i    int
		want api.Errno
	}{
		{"nothing", nil, -1, api.OK},
		{"nothing at all", []event.Event{}, -1, api.OK},
		{"one", []event.Event{tick}, -1, api.OK},
		{"two", []event.Event{spawn, tick}, -1, api.OK},
		{"three, two at the same time", []event.Event{spawn, tick, pick}, -1, api.OK},
		{"the wrong way", []event.Event{tick, spawn}, 1, codec.ErrRow},
		{"twice", []event.Event{spawn, tick, tick}, 2, codec.ErrRow},
		{"the same Seq later", []event.Event{tick, at(func(e *event.Event) { e.Seq, e.Time = 5, 999 })}, 1, codec.ErrRow},
		{"a greater Seq earlier", []event.Event{tick, at(func(e *event.Event) { e.Time-- })}, 1, codec.ErrRow},
		{"the next Seq", []event.Event{tick, at(func(e *event.Event) { e.Seq = 6 })}, -1, api.OK},
		{"another CPU", []event.Event{spawn, tick, at(func(e *event.Event) { e.Cpu = 3 })}, 2, codec.ErrRow},
		{"another CPU in the middle", []event.Event{spawn, at(func(e *event.Event) { e.Seq, e.Cpu = 3, 1 }), pick}, 1, codec.ErrRow},
		{"the first is not right", []event.Event{{}, tick, pick}, 0, event.ErrKind},
		{"the second is neither right nor behind", []event.Event{tick, {Kind: api.KindPick}, pick}, 1, event.ErrField},
		{"the third has another field", []event.Event{spawn, tick, at(func(e *event.Event) { e.Task = 1 })}, 2, event.ErrOther},
		{"no row before one that is not right", []event.Event{tick, spawn, {}}, 1, codec.ErrRow},
		{"one that is not right before no row", []event.Event{tick, {}, spawn}, 1, event.ErrKind},
		{"no such CPU", []event.Event{tick, at(func(e *event.Event) { e.Cpu = 64 })}, 1, event.ErrField},
		{"as far as it goes", []event.Event{{Seq: 1, Cpu: 63, Kind: api.KindPick}, greatest[0]}, -1, api.OK},
	} {
		if i, err := codec.Row(c.l); i != c.i || err != c.want {
			t.Errorf("%s: Row = %d, %d, want %d, %d", c.name, i, err, c.i, c.want)
		}
	}
}

func TestRowByTheDefinition(t *testing.T) {
	seen := map[api.Errno]int{}
	brokenRows(func(l []event.Event) {
		want, wantErr := rowOf(l)
		if i, err := codec.Row(l); i != want || err != wantErr {
			t.Fatalf("Row(%+v) = %d, %d, want %d, %d", l, i, err, want, wantErr)
		}
		seen[wantErr]++
	})
	for _, err := range []api.Errno{api.OK, codec.ErrRow, event.ErrKind, event.ErrField, event.ErrOther} {
		if seen[err] < 100 {
			t.Errorf("only %d times %d", seen[err], err)
		}
	}
}

func TestWriteExamples(t *testing.T) {
	both := []event.Event{spawn, tick}
	writes(t, codec.Base{Seq: 1}, both, []byte{1, 0, 0, 7, 0, 128, 8, 255, 1, 5, 4, 212, 2, 40, 7}, api.OK)
	writes(t, codec.Base{Seq: 2}, both, nil, codec.ErrBase)
	writes(t, codec.Base{Seq: 1, Time: 1}, both, nil, codec.ErrBase)
	writes(t, codec.Base{Seq: 0}, both, nil, codec.ErrBase)
	writes(t, codec.Base{Seq: 1}, []event.Event{tick, spawn}, nil, codec.ErrRow)
	writes(t, codec.Base{Seq: 1}, nil, nil, api.OK)
	for _, b := range []codec.Base{{}, {Seq: 1, Time: -1}, {Seq: maxSeq + 1}, {Seq: 1, Time: maxTime + 1}} {
		writes(t, b, nil, nil, codec.ErrBase)
		writes(t, b, []event.Event{}, nil, codec.ErrBase)
		writes(t, b, []event.Event{tick, tick}, nil, codec.ErrRow)
		writes(t, b, []event.Event{{}}, nil, event.ErrKind)
	}
	writes(t, codec.Base{Seq: maxSeq, Time: maxTime}, nil, nil, api.OK)
	writes(t, codec.Base{Seq: maxSeq, Time: maxTime}, greatest[:1], recordOf(codec.Base{Seq: maxSeq, Time: maxTime}, greatest[0]), api.OK)
}

func TestWriteByTheDefinition(t *testing.T) {
	seen := map[api.Errno]int{}
	brokenRows(func(l []event.Event) {
		first := event.Event{Seq: 100, Time: 100}
		if len(l) > 0 {
			first = l[0]
		}
		for _, b := range []codec.Base{{Seq: 1}, {Seq: first.Seq, Time: first.Time}, {Seq: first.Seq + 1}, {Seq: 1, Time: first.Time + 1}, {Seq: first.Seq - 1, Time: first.Time - 1}, {}, {Seq: 1, Time: -1}} {
			want, err := writeOf(b, l)
			writes(t, b, l, want, err)
			seen[err]++
		}
	})
	for _, err := range []api.Errno{api.OK, codec.ErrRow, codec.ErrBase, event.ErrKind, event.ErrField, event.ErrOther} {
		if seen[err] < 100 {
			t.Errorf("only %d times %d", seen[err], err)
		}
	}
}

// P7.4

func TestReadExamples(t *testing.T) {
	b := codec.Base{Seq: 1}
	both := []byte{1, 0, 0, 7, 0, 128, 8, 255, 1, 5, 4, 212, 2, 40, 7}
	reads(t, b, 2, 2, both, []event.Event{spawn, tick}, 15, api.OK)
	reads(t, b, 2, 2, append(slices.Clone(both), 128), []event.Event{spawn, tick}, 15, api.OK)
	reads(t, b, 2, 1, both, []event.Event{spawn}, 9, api.OK)
	reads(t, b, 2, 0, both, nil, 0, api.OK)
	reads(t, b, 2, 3, both, nil, 0, varint.ErrShort)
	reads(t, b, 2, 2, []byte{6, 0, 0, 0, 6, 0, 0, 0}, nil, 0, codec.ErrRow)
	reads(t, b, 2, 1, []byte{6, 0, 0, 0, 6, 0, 0, 0}, []event.Event{{Seq: 1, Cpu: 2, Kind: api.KindPick}}, 4, api.OK)
	reads(t, b, 2, 2, []byte{6, 0, 0, 0, 6, 1, 0, 0}, []event.Event{{Seq: 1, Cpu: 2, Kind: api.KindPick}, {Seq: 2, Cpu: 2, Kind: api.KindPick}}, 8, api.OK)
}

func TestReadErrors(t *testing.T) {
	for _, c := range []struct {
		name  string
		b     codec.Base
		cpu   uint8
		n     int
		bytes []byte
		want  api.Errno
	}{
		{"-1 records, no base", codec.Base{}, 0, -1, nil, api.ErrArg},
		{"-1 records", codec.Base{Seq: 1}, 0, -1, []byte{6, 0, 0, 0}, api.ErrArg},
		{"far fewer than none", codec.Base{Seq: 1}, 0, math.MinInt, nil, api.ErrArg},
		{"no base, no records", codec.Base{}, 0, 0, nil, codec.ErrBase},
		{"no base, no kind", codec.Base{Seq: maxSeq + 1}, 0, 1, []byte{0}, codec.ErrBase},
		{"base with Time -1", codec.Base{Seq: 1, Time: -1}, 0, 1, []byte{6, 0, 1, 0}, codec.ErrBase},
		{"no records, no CPU, no kind", codec.Base{Seq: 1}, 255, 0, []byte{0}, api.OK},
		{"nothing", codec.Base{Seq: 1}, 0, 1, nil, varint.ErrShort},
		{"no CPU", codec.Base{Seq: 1}, 64, 1, []byte{6, 0, 0, 0}, event.ErrField},
		{"the second is no kind", codec.Base{Seq: 1}, 0, 2, []byte{6, 0, 0, 0, 0}, event.ErrKind},
		{"the second ends", codec.Base{Seq: 1}, 0, 2, []byte{6, 0, 0, 0, 6, 0, 0}, varint.ErrShort},
		{"the second has a last byte 0", codec.Base{Seq: 1}, 0, 2, []byte{6, 0, 0, 0, 6, 0, 128, 0, 0}, varint.ErrZero},
		{"the second has the same Seq, and is wrong", codec.Base{Seq: 1}, 0, 2, []byte{6, 0, 0, 0, 3, 0, 0, 0}, event.ErrField},
		{"the second has the same Seq, later", codec.Base{Seq: 1}, 0, 2, []byte{6, 0, 0, 0, 6, 0, 1, 0}, codec.ErrRow},
		{"the second has the same Seq, the third is no kind", codec.Base{Seq: 1}, 0, 3, []byte{6, 0, 0, 0, 6, 0, 1, 0, 0}, codec.ErrRow},
		{"the third has the same Seq", codec.Base{Seq: 1}, 0, 3, []byte{6, 0, 0, 0, 6, 1, 1, 0, 6, 0, 0, 0}, codec.ErrRow},
		{"the third is no kind, the fourth has the same Seq", codec.Base{Seq: 1}, 0, 4, []byte{6, 0, 0, 0, 6, 1, 1, 0, 11, 0, 0, 0, 6, 0, 0, 0}, event.ErrKind},
		{"the second has too great a Seq", codec.Base{Seq: maxSeq - 1}, 0, 2, []byte{6, 1, 0, 0, 6, 1, 0, 0}, event.ErrField},
		{"the second has too great a Time", codec.Base{Seq: 1, Time: maxTime}, 0, 2, []byte{6, 1, 0, 0, 6, 1, 1, 0}, event.ErrField},
		{"all records there are", codec.Base{Seq: 1}, 0, math.MaxInt, bytes.Repeat([]byte{6, 1, 0, 0}, 1000), varint.ErrShort},
	} {
		if err := readsAsDefined(t, c.b, c.cpu, c.n, c.bytes); err != c.want {
			t.Errorf("%s: %d, want %d", c.name, err, c.want)
		}
	}
}

func TestReadByTheDefinition(t *testing.T) {
	random := rand.New(rand.NewSource(74))
	seen := map[api.Errno]int{}
	check := func(b codec.Base, cpu uint8, n int, all []byte) { seen[readsAsDefined(t, b, cpu, n, all)]++ }
	for n := range 9 {
		for range 60 {
			l := someRow(random, n)
			b, cpu := codec.Base{Seq: 1}, uint8(9)
			if n > 0 {
				b, cpu = codec.Base{Seq: l[0].Seq, Time: l[0].Time}, l[0].Cpu
			}
			all := recordsOf(b, l)
			for _, k := range []int{-1, 0, n - 1, n, n + 1, math.MaxInt} {
				check(b, cpu, k, all)
			}
			check(codec.Base{}, cpu, n, all)
			check(b, cpu+64, n, all)
			for range 100 {
				i := random.Intn(len(all) + 1)
				check(b, cpu, n, all[:i])
				check(b, cpu, n, slices.Concat(all[:i], []byte{byte(random.Intn(256))}, all[i:]))
				check(b, cpu, n, slices.Concat(all[:i], []byte{byte(random.Intn(12))}, all[min(i+1, len(all)):]))
				check(b, cpu, n, slices.Concat(all[:i], all[min(i+1, len(all)):]))
			}
		}
	}
	for _, err := range []api.Errno{api.OK, api.ErrArg, codec.ErrBase, codec.ErrRow, varint.ErrShort, varint.ErrZero, event.ErrKind, event.ErrField} {
		if seen[err] < 100 {
			t.Errorf("only %d times %d", seen[err], err)
		}
	}
}

// TestReadOfPicks reads all records of picks with small numbers.
func TestReadOfPicks(t *testing.T) {
	for x := range 1 << 8 {
		l := []byte{6, byte(x & 1), byte(x >> 1 & 1), 0, 6, byte(x >> 2 & 3), byte(x >> 4 & 1), 1, 6, byte(x >> 5 & 3), byte(x >> 7), 2}
		for n := range 5 {
			readsAsDefined(t, codec.Base{Seq: 1}, 0, n, l)
			readsAsDefined(t, codec.Base{Seq: maxSeq - 3, Time: maxTime - 2}, 0, n, l)
		}
	}
}

// P7.5

func TestWrittenIsReadBack(t *testing.T) {
	random := rand.New(rand.NewSource(75))
	for range 1000 {
		l := someRow(random, 1+random.Intn(40))
		for _, b := range []codec.Base{{Seq: 1}, {Seq: l[0].Seq, Time: l[0].Time}} {
			all, err := codec.Write(b, l)
			if err != api.OK {
				t.Fatal(err)
			}
			reads(t, b, l[0].Cpu, len(l), all, l, len(all), api.OK)
			size := 0
			for i, e := range l {
				if i > 0 {
					b = codec.Base{Seq: l[i-1].Seq, Time: l[i-1].Time}
				}
				n, err := codec.Size(b, e)
				if n > codec.MaxRecord || err != api.OK {
					t.Fatalf("Size(%v, %+v) = %d, %d", b, e, n, err)
				}
				takes(t, b, e.Cpu, all[size:], e, n, api.OK)
				size += n
			}
			if size != len(all) {
				t.Fatalf("%d bytes of records, %d written", size, len(all))
			}
		}
	}
}

func TestReadIsWrittenAsTheSameBytes(t *testing.T) {
	random := rand.New(rand.NewSource(76))
	read := 0
	for range 300000 {
		all := make([]byte, 4+random.Intn(20))
		for i := range all {
			all[i] = byte(random.Intn(12))
			if random.Intn(8) == 0 {
				all[i] |= 128
			}
		}
		b, cpu := codec.Base{Seq: 1 + random.Intn(3), Time: random.Intn(3)}, uint8(random.Intn(4))
		for n := range 5 {
			l, size, err := codec.Read(b, cpu, n, all)
			if err != api.OK {
				break
			}
			writes(t, b, l, all[:size], api.OK)
			read += n
		}
	}
	if read < 1000 {
		t.Errorf("only %d events", read)
	}
}

func TestDifferentEventsHaveDifferentRecords(t *testing.T) {
	seen := map[string]event.Event{}
	for _, e := range append(allRight(), someRight(rand.New(rand.NewSource(77)), 20000)...) {
		l, err := codec.Put(codec.Base{Seq: 1}, e)
		if err != api.OK {
			t.Fatal(err)
		}
		key := string(e.Cpu) + string(l)
		if other, ok := seen[key]; ok && other != e {
			t.Fatalf("%+v and %+v have the record %v", e, other, l)
		}
		seen[key] = e
	}
}

func TestMaxRecord(t *testing.T) {
	for i, e := range greatest {
		n, err := codec.Size(codec.Base{Seq: 1}, e)
		if n > 33 || err != api.OK || (n == 33) != (i == 0) {
			t.Errorf("Size(%+v) = %d, %d", e, n, err)
		}
	}
}

func TestLongRow(t *testing.T) {
	const n = 1 << 17
	l := make([]event.Event, n)
	for i := range l {
		l[i] = event.Event{Seq: i + 1, Time: i / 2, Cpu: 63, Kind: api.KindPick, Got: i % 100}
	}
	all, err := codec.Write(codec.Base{Seq: 1}, l)
	if len(all) != 4*n || err != api.OK {
		t.Fatalf("%d bytes, %d", len(all), err)
	}
	back, size, err := codec.Read(codec.Base{Seq: 1}, 63, n, all)
	if !slices.Equal(back, l) || size != len(all) || err != api.OK {
		t.Fatalf("%d events, %d bytes, %d", len(back), size, err)
	}
	if i, err := codec.Row(l); i != -1 || err != api.OK {
		t.Fatalf("Row = %d, %d", i, err)
	}
}

// What holds of all promises: results depend on nothing else, and are new memory; arguments stay as they are.

func TestArgumentsAreNotModified(t *testing.T) {
	b := codec.Base{Seq: 1}
	events := append(make([]event.Event, 0, 4), spawn, tick)
	allEvents := slices.Clone(events[:cap(events)])
	records := append(make([]byte, 0, 40), recordsOf(b, events)...)
	allRecords := slices.Clone(records[:cap(records)])

	codec.Row(events)
	codec.Write(b, events)
	codec.Write(codec.Base{Seq: 9}, events)
	for n := range 4 {
		codec.Read(b, 2, n, records)
		codec.Take(b, uint8(n), records)
	}
	if !slices.Equal(events[:cap(events)], allEvents) {
		t.Error("the events were changed")
	}
	if !slices.Equal(records[:cap(records)], allRecords) {
		t.Error("the records were changed")
	}
}

func TestResultsShareNoMemory(t *testing.T) {
	b := codec.Base{Seq: 1}
	both := []event.Event{spawn, tick}
	want := recordsOf(b, both)

	one, _ := codec.Put(b, spawn)
	whole := one[:cap(one)]
	for i := range whole {
		whole[i] = 99
	}
	all, _ := codec.Write(b, both)
	whole = all[:cap(all)]
	for i := range whole {
		whole[i] = 99
	}
	puts(t, b, spawn, recordOf(b, spawn), api.OK)
	writes(t, b, both, want, api.OK)

	l, _, _ := codec.Read(b, 2, 2, want)
	clear(l[:cap(l)])
	reads(t, b, 2, 2, want, both, len(want), api.OK)
	m, _, _ := codec.Read(b, 2, 2, want)
	clear(want)
	if !slices.Equal(m, both) {
		t.Error("the events are made of the bytes that were read")
	}
}
