package block_test

import (
	"encoding/binary"
	"hash/crc32"
	"math"
	"math/rand"
	"slices"
	"strconv"
	"testing"

	"quantum/api"
	"quantum/block"
	"quantum/event"
)

var tick = event.Event{Seq: 5, Time: 340, Cpu: 2, Kind: api.KindTick, Ticks: 40, Got: 7}

// Numbers whose forms have one byte, two, and so on up to seven, at their ends.
var borders = []int{0, 1, 127, 128, 1<<14 - 1, 1 << 14, 1 << 21, 1 << 28, 1 << 35, 1<<42 - 1, 1 << 42, 1<<48 - 1, 1 << 48}

func events(cpu uint8, lost int, l ...event.Event) block.Block {
	return block.Block{Kind: block.KindEvents, Cpu: cpu, Lost: lost, Events: l}
}

func end(next int) block.Block { return block.Block{Kind: block.KindEnd, Next: next} }

// sealOf returns the bytes with a body, their length and checksum right.
func sealOf(head [4]byte, body []byte) []byte {
	b := binary.LittleEndian.AppendUint32(nil, uint32(12+len(body)))
	b = append(append(b, head[:]...), body...)
	return binary.LittleEndian.AppendUint32(b, crc32.ChecksumIEEE(b))
}

// bodyOf returns the body of a block, right or too long, by the definition.
func bodyOf(t *testing.T, b block.Block) []byte {
	t.Helper()
	if b.Kind == block.KindEnd {
		return binary.AppendUvarint(nil, uint64(b.Next))
	}
	var body []byte
	put := func(x uint64) { body = binary.AppendUvarint(body, x) }
	put(uint64(b.Cpu))
	put(uint64(b.Lost))
	put(uint64(len(b.Events)))
	if len(b.Events) > 0 {
		put(uint64(b.Events[0].Seq))
		put(uint64(b.Events[0].Time))
	}
	for i, e := range b.Events {
		before := b.Events[max(0, i-1)]
		values, err := event.Values(e)
		if err != api.OK {
			t.Fatalf("an event of the test is not right: %+v", e)
		}
		body = append(body, e.Kind)
		put(uint64(e.Seq - before.Seq))
		put(uint64(e.Time - before.Time))
		for _, x := range values {
			put(x)
		}
	}
	return body
}

// bytesOf returns the bytes of a block, right or too long, by the definition.
func bytesOf(t *testing.T, b block.Block) []byte {
	t.Helper()
	return sealOf([4]byte{113, 116, 1, b.Kind}, bodyOf(t, b))
}

// isBlock reports whether a block is one of events or an end, by the definition.
func isBlock(b block.Block) bool {
	if b.Kind == 2 {
		return b.Next >= 1 && b.Next <= 1<<48+1 && b.Cpu == 0 && b.Lost == 0 && len(b.Events) == 0
	}
	if b.Kind != 1 || b.Cpu > 63 || b.Lost < 0 || b.Lost > 1<<48 || b.Next != 0 || b.Lost == 0 && len(b.Events) == 0 {
		return false
	}
	for i, e := range b.Events {
		if event.Check(e) != api.OK || e.Cpu != b.Cpu {
			return false
		}
		if i > 0 && (e.Seq <= b.Events[i-1].Seq || e.Time < b.Events[i-1].Time) {
			return false
		}
	}
	return true
}

// first returns a block with its first n events alone.
func first(b block.Block, n int) block.Block {
	b.Events = b.Events[:n]
	return b
}

// someEvent returns a right event without a pattern, of any kind.
func someEvent(random *rand.Rand, cpu uint8) event.Event {
	below := func(n int) int { return random.Intn(n>>random.Intn(8) + 1) }
	e := event.Event{Cpu: cpu, Kind: uint8(1 + random.Intn(event.Kinds))}
	for _, name := range event.Fields(e.Kind) {
		switch name {
		case "task":
			e.Task = 1 + below(event.MaxTask-1)
		case "group":
			e.Group = 1 + below(api.MaxGroups-2)
		case "to":
			e.To = (int(cpu) + 1 + random.Intn(63)) % 64
		case "weight":
			e.Weight = 1 + below(api.MaxWeight-1)
		case "ticks":
			e.Ticks = 1 + below(event.MaxTicks-1)
		case "mask":
			e.Mask = random.Uint64()>>random.Intn(64) | 1<<cpu
		case "got":
			e.Got = 1 + below(event.MaxTask-1)
		}
	}
	return e
}

// someRow returns a row of a CPU without a pattern, whose steps have up to so many bits.
func someRow(random *rand.Rand, cpu uint8, n, bits int) []event.Event {
	var l []event.Event
	seq, time := 1+random.Intn(300), random.Intn(300)
	for range n {
		e := someEvent(random, cpu)
		e.Seq, e.Time = seq, time
		l = append(l, e)
		seq += 1 + random.Intn(1<<random.Intn(bits))
		time += random.Intn(1 << random.Intn(bits))
	}
	return l
}

// longSpawns returns a row of the CPU 63 with a first record of 21 bytes, some with 33, and all others with 31: of 140 about 128 fit into a block.
func longSpawns(n, long int) []event.Event {
	var l []event.Event
	at := 0
	for i := range n {
		l = append(l, event.Event{Seq: 1 + at, Time: at, Cpu: 63, Kind: api.KindSpawn, Task: 65535, Group: 255, Weight: 65536, Mask: math.MaxUint64})
		if i < long {
			at += 1 << 42
		} else {
			at += 1 << 36
		}
	}
	return l
}

// picks returns a row of the CPU 0 with records of four bytes, but for the first ones, which have six.
func picks(n, six int) []event.Event {
	var l []event.Event
	for i := range n {
		e := event.Event{Seq: 1 + i, Kind: api.KindPick, Got: 1}
		if i < six {
			e.Got = 65535
		}
		l = append(l, e)
	}
	return l
}

// rightBlocks returns right blocks, with all kinds of events and numbers of all sizes.
func rightBlocks() []block.Block {
	var l []block.Block
	for _, n := range borders[1:] {
		l = append(l, end(n))
	}
	l = append(l, end(2), end(7), end(13), end(1<<48+1))
	for _, cpu := range []uint8{0, 1, 2, 63} {
		for _, n := range borders {
			if n > 0 {
				l = append(l, events(cpu, n))
			}
			l = append(l, events(cpu, n, event.Event{Seq: max(1, n), Time: n, Cpu: cpu, Kind: api.KindPick}))
			l = append(l, events(cpu, n, event.Event{Seq: 1, Cpu: cpu, Kind: api.KindExit, Got: 9}, event.Event{Seq: max(2, n), Time: n, Cpu: cpu, Kind: api.KindWake, Task: 9}))
		}
	}
	random := rand.New(rand.NewSource(101))
	for n := range 60 {
		cpu := uint8(random.Intn(64))
		l = append(l, events(cpu, borders[1+random.Intn(12)], someRow(random, cpu, n, 30)...))
		l = append(l, events(cpu, 0, someRow(random, cpu, n+1, 1)...))
	}
	// Nearly, and just, as many bytes as a block can have.
	l = append(l, events(0, 1, picks(1019, 0)...), events(0, 1, picks(1018, 3)...), events(0, 1<<14, picks(1019, 0)...))
	return append(l, events(63, 5, longSpawns(130, 0)...))
}

// wrongBlocks returns what is neither a block of events nor an end.
func wrongBlocks() map[string]block.Block {
	pick := func(seq, time int, cpu uint8) event.Event {
		return event.Event{Seq: seq, Time: time, Cpu: cpu, Kind: api.KindPick}
	}
	l := map[string]block.Block{
		"zero":                   {},
		"no kind":                {Lost: 1, Events: []event.Event{pick(1, 0, 0)}},
		"no kind, but Next":      {Next: 7},
		"kind 3":                 {Kind: 3, Lost: 1},
		"kind 255":               {Kind: 255, Next: 1},
		"CPU 64":                 events(64, 1),
		"CPU 255":                events(255, 1),
		"CPU 64 and its events":  events(64, 1, pick(1, 0, 64)),
		"lost less than 0":       events(2, -1, tick),
		"the least lost":         events(2, math.MinInt, tick),
		"lost beyond":            events(2, block.MaxLost+1, tick),
		"the greatest lost":      events(2, math.MaxInt),
		"nothing":                events(2, 0),
		"no events at all":       {Kind: block.KindEvents, Events: []event.Event{}},
		"other CPU":              events(3, 0, tick),
		"other CPU first":        events(2, 0, pick(1, 0, 3), tick),
		"other CPU last":         events(2, 0, tick, pick(6, 340, 3)),
		"same Seq":               events(2, 0, tick, pick(5, 341, 2)),
		"lesser Seq":             events(2, 0, tick, pick(4, 340, 2)),
		"lesser Time":            events(2, 0, tick, pick(6, 339, 2)),
		"event of no kind":       events(2, 1, event.Event{}),
		"event with a wrong Seq": events(2, 1, pick(0, 0, 2)),
		"event with another":     events(2, 1, event.Event{Seq: 1, Cpu: 2, Kind: api.KindWake, Task: 7, Got: 1}),
		"last event wrong":       events(2, 1, tick, pick(6, 1<<48+1, 2)),
		"end of 0":               end(0),
		"end before 0":           end(-1),
		"least end":              end(math.MinInt),
		"end beyond":             end(event.MaxSeq + 2),
		"greatest end":           end(math.MaxInt),
		"end of a CPU":           {Kind: block.KindEnd, Cpu: 1, Next: 7},
		"end with lost":          {Kind: block.KindEnd, Lost: 1, Next: 7},
		"end with less than 0":   {Kind: block.KindEnd, Lost: -1, Next: 7},
		"end with events":        {Kind: block.KindEnd, Next: 7, Events: []event.Event{pick(1, 0, 0)}},
	}
	for _, next := range []int{1, -1, 7, math.MinInt, math.MaxInt} {
		l["events with Next "+strconv.Itoa(next)] = block.Block{Kind: block.KindEvents, Cpu: 2, Lost: 1, Next: next, Events: []event.Event{tick}}
	}
	long := picks(3000, 0)
	long[2999].Got = -1
	l["too long, and the last event wrong"] = events(0, 0, long...)
	l["too long, of another CPU"] = events(1, 0, picks(3000, 0)...)
	l["too long, and lost less than 0"] = events(0, -1, picks(3000, 0)...)
	return l
}

// isWritten fails unless a block is written as these bytes, or not, for which the error is another one than OK.
func isWritten(t *testing.T, b block.Block, want []byte, wantErr api.Errno) {
	t.Helper()
	bytes, err := block.Write(b)
	if !slices.Equal(bytes, want) || err != wantErr {
		t.Fatalf("Write(%+v) = %v, %d, want %v, %d", b, bytes, err, want, wantErr)
	}
	if size, err := block.Size(b); size != len(want) || err != wantErr {
		t.Fatalf("Size(%+v) = %d, %d, want %d, %d", b, size, err, len(want), wantErr)
	}
	if err := block.Check(b); err != wantErr {
		t.Fatalf("Check(%+v) = %d, want %d", b, err, wantErr)
	}
}

// P10.1

func TestWriteExamples(t *testing.T) {
	for _, c := range []struct {
		b    block.Block
		want string
	}{
		{end(7), "\x0d\x00\x00\x00qt\x01\x02\x07"},
		{events(2, 0, tick), "\x17\x00\x00\x00qt\x01\x01\x02\x00\x01\x05\xd4\x02\x05\x00\x00\x28\x07"},
		{events(2, 3), "\x0f\x00\x00\x00qt\x01\x01\x02\x03\x00"},
	} {
		isWritten(t, c.b, binary.LittleEndian.AppendUint32([]byte(c.want), crc32.ChecksumIEEE([]byte(c.want))), api.OK)
	}
}

func TestWriteByItsDefinition(t *testing.T) {
	for _, b := range rightBlocks() {
		if !isBlock(b) {
			t.Fatalf("a block of the test is not right: %+v", b)
		}
		isWritten(t, b, bytesOf(t, b), api.OK)
	}
}

func TestWrongBlocks(t *testing.T) {
	for name, b := range wrongBlocks() {
		t.Run(name, func(t *testing.T) {
			if isBlock(b) {
				t.Fatal("a block of the test is right")
			}
			isWritten(t, b, nil, block.ErrBlock)
		})
	}
}

func TestEachFieldAtItsLimits(t *testing.T) {
	values := []int{math.MinInt, -1, 0, 1, 2, 63, 64, 1<<48 - 1, 1 << 48, 1<<48 + 1, 1<<48 + 2, math.MaxInt}
	for kind := range 4 {
		for _, cpu := range []uint8{0, 1, 63, 64, 255} {
			for _, lost := range values {
				for _, next := range values {
					for _, l := range [][]event.Event{nil, {{Seq: 1, Cpu: cpu, Kind: api.KindPick}}} {
						b := block.Block{Kind: uint8(kind), Cpu: cpu, Lost: lost, Next: next, Events: l}
						if isBlock(b) {
							isWritten(t, b, bytesOf(t, b), api.OK)
						} else {
							isWritten(t, b, nil, block.ErrBlock)
						}
					}
				}
			}
		}
	}
}

func TestAsLongAsCanBe(t *testing.T) {
	for _, c := range []struct {
		lost, picks, six int
		size             int
	}{
		{0, 1019, 0, 4094}, {127, 1019, 0, 4094}, {128, 1019, 0, 4095}, {1 << 14, 1019, 0, 4096}, {1 << 21, 1019, 0, 4097},
		{0, 1019, 1, 4096}, {128, 1019, 1, 4097}, {0, 1020, 0, 4098}, {0, 1018, 3, 4096}, {0, 3000, 0, 12018},
	} {
		b := events(0, c.lost, picks(c.picks, c.six)...)
		want := bytesOf(t, b)
		if len(want) != c.size {
			t.Fatalf("a block of the test has %d bytes, not %d", len(want), c.size)
		}
		if c.size <= block.MaxBlock {
			isWritten(t, b, want, api.OK)
		} else {
			isWritten(t, b, nil, api.ErrLong)
		}
	}
}

// P10.3

// fills fails unless as many events fit as by the definition, and returns how many: one more makes a block longer.
func fills(t *testing.T, b block.Block) int {
	t.Helper()
	fit := func(n int) bool { return len(bytesOf(t, first(b, n))) <= block.MaxBlock }
	n, err := block.Fill(b)
	if n < 1 || n > len(b.Events) || err != api.OK || !fit(n) || n < len(b.Events) && fit(n+1) {
		t.Fatalf("Fill of %d events with Lost %d = %d, %d", len(b.Events), b.Lost, n, err)
	}
	return n
}

func TestFillByItsDefinition(t *testing.T) {
	random := rand.New(rand.NewSource(103))
	for _, bits := range []int{1, 2, 10, 30} {
		for _, n := range []int{1, 2, 127, 128, 200, 500, 1030, 2000} {
			cpu := uint8(random.Intn(64))
			for _, lost := range []int{0, 1, 1 << 48} {
				fills(t, events(cpu, lost, someRow(random, cpu, n, bits)...))
			}
		}
	}
	for _, lost := range borders {
		for six := range 6 {
			fills(t, events(0, lost, picks(1100, six)...))
			// How many these are has a longer form than how many fit.
			fills(t, events(0, lost, picks(1<<14, six)...))
		}
	}
}

func TestFillWhereTheNumberOfEventsHasOneByteMore(t *testing.T) {
	seen := map[int]int{}
	for _, lost := range borders {
		for long := range 61 {
			seen[fills(t, events(63, lost, longSpawns(140, long)...))]++
		}
	}
	for _, n := range []int{127, 128, 129} {
		if seen[n] == 0 {
			t.Errorf("no block is filled with %d events", n)
		}
	}
}

func TestFillOfBlocksThatFit(t *testing.T) {
	for _, b := range rightBlocks() {
		if n, err := block.Fill(b); n != len(b.Events) || err != api.OK {
			t.Fatalf("Fill(%+v) = %d, %d, want %d", b, n, err, len(b.Events))
		}
	}
}

func TestFillOfWrongBlocks(t *testing.T) {
	for name, b := range wrongBlocks() {
		if n, err := block.Fill(b); n != 0 || err != block.ErrBlock {
			t.Errorf("%s: Fill = %d, %d, want %d", name, n, err, block.ErrBlock)
		}
	}
}

func TestTheLongestFirstEventFits(t *testing.T) {
	long := event.Event{Seq: 1 << 48, Time: 1 << 48, Cpu: 63, Kind: api.KindSpawn, Task: 65535, Group: 255, Weight: 65536, Mask: math.MaxUint64}
	if n, err := block.Fill(events(63, block.MaxLost, long)); n != 1 || err != api.OK {
		t.Errorf("Fill = %d, %d", n, err)
	}
}

// P10.4

func TestSame(t *testing.T) {
	pick := event.Event{Seq: 9, Time: 340, Cpu: 2, Kind: api.KindPick}
	changed := func(change func(e *event.Event)) event.Event {
		e := pick
		change(&e)
		return e
	}
	others := []block.Block{
		{}, {Kind: 1}, {Cpu: 1}, {Lost: 1}, {Next: 1}, {Kind: 255}, {Cpu: 255}, {Lost: -1}, {Next: -1}, {Lost: 1, Next: 1}, {Kind: 1, Cpu: 1},
		{Events: []event.Event{{}}}, {Events: []event.Event{{}, {}}},
		end(7), end(8), events(2, 3), events(2, 3, tick), events(2, 3, tick, pick), events(2, 3, pick, tick), events(2, 3, pick), events(2, 3, tick, tick), events(2, 4, tick),
		events(2, 3, tick, changed(func(e *event.Event) { e.Seq++ })),
		events(2, 3, tick, changed(func(e *event.Event) { e.Time++ })),
		events(2, 3, tick, changed(func(e *event.Event) { e.Cpu++ })),
		events(2, 3, tick, changed(func(e *event.Event) { e.Kind++ })),
		events(2, 3, tick, changed(func(e *event.Event) { e.Task++ })),
		events(2, 3, tick, changed(func(e *event.Event) { e.Group++ })),
		events(2, 3, tick, changed(func(e *event.Event) { e.To++ })),
		events(2, 3, tick, changed(func(e *event.Event) { e.Weight++ })),
		events(2, 3, tick, changed(func(e *event.Event) { e.Ticks++ })),
		events(2, 3, tick, changed(func(e *event.Event) { e.Mask++ })),
		events(2, 3, tick, changed(func(e *event.Event) { e.Got++ })),
	}
	for i, a := range others {
		for j, b := range others {
			b.Events = slices.Clone(b.Events)
			if got := block.Same(a, b); got != (i == j) {
				t.Errorf("Same(%+v, %+v) = %t", a, b, got)
			}
		}
	}
	if !block.Same(block.Block{Kind: block.KindEnd, Next: 7, Events: []event.Event{}}, end(7)) {
		t.Error("no events are not the same as none")
	}
}

func TestWrittenWithoutEventsOrWithNone(t *testing.T) {
	empty := end(7)
	empty.Events = []event.Event{}
	isWritten(t, empty, bytesOf(t, end(7)), api.OK)
	empty = events(2, 3)
	empty.Events = []event.Event{}
	isWritten(t, empty, bytesOf(t, events(2, 3)), api.OK)
}

// Arguments and results.

func TestBlocksStayAsTheyAre(t *testing.T) {
	random := rand.New(rand.NewSource(107))
	all := someRow(random, 5, 1500, 5)
	for _, n := range []int{0, 1, 10, 1000} {
		before := slices.Clone(all)
		b := events(5, 1, all[:n]...)
		block.Check(b)
		block.Size(b)
		block.Write(b)
		block.Fill(b)
		block.Same(b, b)
		if !slices.Equal(all, before) || len(b.Events) != n {
			t.Fatalf("%d events, or those after them, were changed", n)
		}
	}
}

func TestWrittenBytesAreTheirOwn(t *testing.T) {
	for _, b := range []block.Block{end(7), events(2, 3), events(2, 0, tick)} {
		want := bytesOf(t, b)
		one, _ := block.Write(b)
		two, _ := block.Write(b)
		for i := range one[:cap(one)] {
			one[:cap(one)][i] = 9
		}
		three, _ := block.Write(b)
		if !slices.Equal(two, want) || !slices.Equal(three, want) {
			t.Errorf("other bytes of %+v were changed", b)
		}
	}
}
