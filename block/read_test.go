package block_test

import (
	"encoding/binary"
	"hash/crc32"
	"math"
	"math/rand"
	"slices"
	"testing"

	"quantum/api"
	"quantum/block"
	"quantum/event"
)

// lengthOf returns what Length has to, by the first three steps.
func lengthOf(bytes []byte) (int, api.Errno) {
	if len(bytes) < 4 {
		return 0, block.ErrShort
	}
	n := binary.LittleEndian.Uint32(bytes)
	if n < 13 || n > 4096 {
		return 0, block.ErrLength
	}
	if len(bytes) < int(n) {
		return 0, block.ErrShort
	}
	return int(n), api.OK
}

// readOf returns what Read has to, by the steps: the last one holds the bytes of the one block that may have them against these.
func readOf(t *testing.T, bytes []byte) (block.Block, int, api.Errno) {
	t.Helper()
	n, err := lengthOf(bytes)
	if err != api.OK {
		return block.Block{}, 0, err
	}
	own := bytes[:n]
	switch {
	case crc32.ChecksumIEEE(own[:n-4]) != binary.LittleEndian.Uint32(own[n-4:]):
		err = block.ErrSum
	case own[4] != 113 || own[5] != 116:
		err = block.ErrMagic
	case own[6] != 1:
		err = block.ErrVersion
	case own[7] != 1 && own[7] != 2:
		err = block.ErrKind
	}
	if err != api.OK {
		return block.Block{}, 0, err
	}
	b := guess(own[7], own[8:n-4])
	if !isBlock(b) || !slices.Equal(bytesOf(t, b), own) {
		return block.Block{}, 0, block.ErrBody
	}
	return b, n, api.OK
}

// guess returns a block that may have a body, whatever else is wrong with that.
func guess(kind uint8, body []byte) block.Block {
	next := func() int {
		x, size := binary.Uvarint(body)
		body = body[max(0, size):]
		return int(x)
	}
	b := block.Block{Kind: kind}
	if kind == block.KindEnd {
		b.Next = next()
		return b
	}
	b.Cpu = uint8(next())
	b.Lost = next()
	n := next()
	if n == 0 {
		return b
	}
	e := event.Event{Seq: next(), Time: next(), Cpu: b.Cpu}
	for len(b.Events) < n && len(body) > 0 {
		e.Kind = body[0]
		body = body[1:]
		e.Seq += next()
		e.Time += next()
		values := make([]uint64, len(event.Fields(e.Kind)))
		for i := range values {
			values[i] = uint64(next())
		}
		right, err := event.With(e, values)
		if err != api.OK {
			return block.Block{}
		}
		b.Events = append(b.Events, right)
	}
	return b
}

// readsAs fails unless bytes are read so.
func readsAs(t *testing.T, bytes []byte, want block.Block, size int, wantErr api.Errno) {
	t.Helper()
	b, n, err := block.Read(bytes)
	if b.Kind != want.Kind || b.Cpu != want.Cpu || b.Lost != want.Lost || b.Next != want.Next || !slices.Equal(b.Events, want.Events) || n != size || err != wantErr {
		t.Fatalf("Read(%v) = %+v, %d, %d, want %+v, %d, %d", bytes, b, n, err, want, size, wantErr)
	}
}

// fails fails unless bytes are not read.
func fails(t *testing.T, bytes []byte, want api.Errno) {
	t.Helper()
	readsAs(t, bytes, block.Block{}, 0, want)
}

// readsAsDefined fails unless bytes are read as by the steps, and returns the error of these.
func readsAsDefined(t *testing.T, bytes []byte) api.Errno {
	t.Helper()
	b, n, err := readOf(t, bytes)
	readsAs(t, bytes, b, n, err)
	return err
}

// P10.2

func TestReadExamples(t *testing.T) {
	fails(t, nil, block.ErrShort)
	fails(t, []byte{}, block.ErrShort)
	fails(t, []byte{13, 0, 0, 0}, block.ErrShort)
	fails(t, []byte{12, 0, 0, 0}, block.ErrLength)
	bytes := sealOf([4]byte{113, 116, 1, 2}, []byte{7})
	readsAs(t, bytes, end(7), 13, api.OK)
	for k := 32; k < 8*13; k++ {
		changed := slices.Clone(bytes)
		changed[k/8] ^= 1 << (k % 8)
		fails(t, changed, block.ErrSum)
	}
	readsAs(t, sealOf([4]byte{113, 116, 1, 1}, []byte{2, 0, 1, 5, 212, 2, 5, 0, 0, 40, 7}), events(2, 0, tick), 23, api.OK)
	readsAs(t, sealOf([4]byte{113, 116, 1, 1}, []byte{2, 3, 0}), events(2, 3), 15, api.OK)
}

func TestLengthByItsDefinition(t *testing.T) {
	room := make([]byte, 5000)
	for _, n := range []uint32{0, 1, 4, 12, 13, 14, 127, 128, 255, 256, 4095, 4096, 4097, 4096 + 65536, 13 + 1<<16, 13 + 1<<24, 1 << 31, 13 + 1<<31, math.MaxUint32 - 12, math.MaxUint32} {
		binary.LittleEndian.PutUint32(room, n)
		for _, size := range []int{0, 1, 2, 3, 4, 5, 12, 13, 14, int(n%5000) - 1, int(n % 5000), int(n%5000) + 1, 4096, 5000} {
			if size < 0 || size > len(room) {
				continue
			}
			want, wantErr := lengthOf(room[:size])
			got, err := block.Length(room[:size])
			if got != want || err != wantErr {
				t.Errorf("Length of %d bytes that begin with %d: %d, %d, want %d, %d", size, n, got, err, want, wantErr)
			}
			// Not sealed, so nothing of it can be read.
			if err == api.OK {
				wantErr = block.ErrSum
			}
			fails(t, room[:size], wantErr)
		}
	}
}

func TestBytesAfterABlockAreNotLookedAt(t *testing.T) {
	for _, b := range rightBlocks() {
		bytes := bytesOf(t, b)
		n := len(bytes)
		for _, after := range [][]byte{{0}, {13, 0, 0}, bytes, {255, 255, 255, 255, 255}} {
			all := append(slices.Clone(bytes), after...)
			readsAs(t, all, b, n, api.OK)
			if got, err := block.Length(all); got != n || err != api.OK {
				t.Fatalf("Length = %d, %d, want %d", got, err, n)
			}
		}
	}
}

func TestBytesThatEndTooEarly(t *testing.T) {
	for _, b := range []block.Block{end(7), events(2, 3), events(2, 0, tick), events(0, 1, picks(1019, 0)...)} {
		bytes := bytesOf(t, b)
		for n := range bytes {
			fails(t, bytes[:n], block.ErrShort)
			if got, err := block.Length(bytes[:n]); got != 0 || err != block.ErrShort {
				t.Fatalf("Length of %d bytes = %d, %d", n, got, err)
			}
		}
	}
}

func TestHeadsInTheOrderOfTheSteps(t *testing.T) {
	some := []byte{0, 1, 2, 3, 112, 113, 114, 116, 117, 255}
	for _, body := range [][]byte{{7}, {0}, {2, 3, 0}, {128, 0}, {2, 0, 1, 5, 212, 2, 5, 0, 0, 40, 7}} {
		for _, q := range some {
			for _, u := range some {
				for _, version := range some {
					for _, kind := range some {
						bytes := sealOf([4]byte{q, u, version, kind}, body)
						readsAsDefined(t, bytes)
						bytes[len(bytes)-1]++
						fails(t, bytes, block.ErrSum)
					}
				}
			}
		}
	}
}

func TestEachByteOfTheHead(t *testing.T) {
	wrong := [4]api.Errno{block.ErrMagic, block.ErrMagic, block.ErrVersion, block.ErrKind}
	right := [4]byte{113, 116, 1, 2}
	for i, want := range wrong {
		for x := range 256 {
			head := right
			head[i] = byte(x)
			switch bytes := sealOf(head, []byte{7}); {
			case head == right:
				readsAs(t, bytes, end(7), 13, api.OK)
			case i == 3 && x == 1:
				fails(t, bytes, block.ErrBody)
			default:
				fails(t, bytes, want)
			}
		}
	}
}

func TestAllShortBodies(t *testing.T) {
	right := map[string]block.Block{}
	add := func(b block.Block) { right[string(bytesOf(t, b))] = b }
	for next := 1; next < 1<<14; next++ {
		add(end(next))
	}
	for cpu := range uint8(64) {
		for lost := 1; lost < 128; lost++ {
			add(events(cpu, lost))
		}
	}
	check := func(kind uint8, body ...byte) {
		t.Helper()
		bytes := sealOf([4]byte{113, 116, 1, kind}, body)
		b, ok := right[string(bytes)]
		if !ok {
			want := block.ErrBody
			if len(body) == 0 {
				want = block.ErrLength
			}
			fails(t, bytes, want)
			return
		}
		readsAs(t, bytes, b, len(bytes), api.OK)
	}
	for kind := uint8(1); kind <= 2; kind++ {
		check(kind)
		for x := range 256 {
			check(kind, byte(x))
			for y := range 256 {
				check(kind, byte(x), byte(y))
				if kind == block.KindEvents {
					check(kind, byte(x), byte(y), 0)
				}
			}
		}
	}
}

// wrongBodies returns bodies of no block of events, by what is wrong with them.
func wrongBodies() map[string][]byte {
	const kind = 5 // a tick, whose record has two numbers more
	return map[string][]byte{
		"CPU 64":                          {64, 0, 1, 5, 0, kind, 0, 0, 40, 7},
		"CPU 64 without events":           {64, 3, 0},
		"CPU 256":                         {128, 2, 3, 0},
		"CPU 258 and an event":            {130, 2, 0, 1, 5, 0, kind, 0, 0, 40, 7},
		"CPU in two bytes":                {130, 0, 0, 1, 5, 0, kind, 0, 0, 40, 7},
		"no lost and no events":           {2, 0, 0},
		"lost beyond":                     {2, 129, 128, 128, 128, 128, 128, 64, 0},
		"lost of 2^63":                    {2, 128, 128, 128, 128, 128, 128, 128, 128, 128, 1, 0},
		"lost above all numbers":          {2, 255, 255, 255, 255, 255, 255, 255, 255, 255, 2, 0},
		"lost in two bytes":               {2, 131, 0, 0},
		"nothing":                         {2},
		"no number of events":             {2, 3},
		"number in two bytes":             {2, 3, 128, 0},
		"ends in the number":              {2, 3, 129},
		"one event less":                  {2, 0, 2, 5, 0, kind, 0, 0, 40, 7},
		"one event more":                  {2, 0, 1, 5, 0, kind, 0, 0, 40, 7, 6, 1, 0, 0},
		"no events, but a base":           {2, 3, 0, 5, 0},
		"one byte more":                   {2, 0, 1, 5, 0, kind, 0, 0, 40, 7, 0},
		"one byte more, no events":        {2, 3, 0, 0},
		"number of 2^40":                  {2, 0, 128, 128, 128, 128, 128, 32, 5, 0, kind, 0, 0, 40, 7},
		"number of 2^63":                  {2, 0, 128, 128, 128, 128, 128, 128, 128, 128, 128, 1, 5, 0, kind, 0, 0, 40, 7},
		"number of 2^64 - 1":              {2, 0, 255, 255, 255, 255, 255, 255, 255, 255, 255, 1, 5, 0, kind, 0, 0, 40, 7},
		"Seq 0":                           {2, 0, 1, 0, 0, kind, 0, 0, 40, 7},
		"Seq 0 at the base":               {2, 0, 1, 0, 0, kind, 5, 0, 40, 7},
		"Seq beyond":                      {2, 0, 1, 129, 128, 128, 128, 128, 128, 64, 0, kind, 0, 0, 40, 7},
		"Seq of 2^63":                     {2, 0, 1, 128, 128, 128, 128, 128, 128, 128, 128, 128, 1, 0, kind, 0, 0, 40, 7},
		"Seq in two bytes":                {2, 0, 1, 133, 0, 0, kind, 0, 0, 40, 7},
		"Time beyond":                     {2, 0, 1, 5, 129, 128, 128, 128, 128, 128, 64, kind, 0, 0, 40, 7},
		"Time in two bytes":               {2, 0, 1, 5, 128, 0, kind, 0, 0, 40, 7},
		"no Time":                         {2, 0, 1, 5},
		"no base":                         {2, 0, 1},
		"no record":                       {2, 0, 1, 5, 0},
		"first Seq is not that before it": {2, 0, 1, 4, 0, kind, 1, 0, 40, 7},
		"first Time is not that before":   {2, 0, 1, 5, 0, kind, 0, 1, 40, 7},
		"event of no kind":                {2, 0, 1, 5, 0, 0, 0, 0, 40, 7},
		"event of the kind 11":            {2, 0, 1, 5, 0, 11, 0, 0},
		"field beyond its limits":         {2, 0, 1, 5, 0, kind, 0, 0, 0, 7},
		"record in more bytes":            {2, 0, 1, 5, 0, kind, 0, 0, 168, 0, 7},
		"record that ends":                {2, 0, 1, 5, 0, kind, 0, 0, 40},
		"the same Seq again":              {2, 0, 2, 5, 0, kind, 0, 0, 40, 7, 6, 0, 0, 0},
		"a mask without the CPU":          {2, 0, 1, 5, 0, 1, 0, 0, 7, 0, 1, 3},
	}
}

func TestWrongBodies(t *testing.T) {
	for name, body := range wrongBodies() {
		t.Run(name, func(t *testing.T) {
			bytes := sealOf([4]byte{113, 116, 1, block.KindEvents}, body)
			fails(t, bytes, block.ErrBody)
			if err := readsAsDefined(t, bytes); err != block.ErrBody {
				t.Errorf("by the definition: %d", err)
			}
		})
	}
	for name, body := range map[string][]byte{
		"Next 0":              {0},
		"Next beyond":         {130, 128, 128, 128, 128, 128, 64},
		"Next of 2^63":        {128, 128, 128, 128, 128, 128, 128, 128, 128, 1},
		"Next of 2^64 - 1":    {255, 255, 255, 255, 255, 255, 255, 255, 255, 1},
		"above all numbers":   {255, 255, 255, 255, 255, 255, 255, 255, 255, 2},
		"Next in two bytes":   {135, 0},
		"one byte more":       {7, 0},
		"one number more":     {7, 7},
		"Next that ends":      {135},
		"a block of no event": {2, 3, 0},
	} {
		t.Run(name, func(t *testing.T) { fails(t, sealOf([4]byte{113, 116, 1, block.KindEnd}, body), block.ErrBody) })
	}
	readsAs(t, sealOf([4]byte{113, 116, 1, block.KindEnd}, []byte{129, 128, 128, 128, 128, 128, 64}), end(event.MaxSeq+1), 19, api.OK)
}

func TestEachChangeOfABodyByTheSteps(t *testing.T) {
	random := rand.New(rand.NewSource(109))
	errs := map[api.Errno]int{}
	for _, b := range []block.Block{
		end(7), end(1 << 48), events(2, 3), events(63, 1<<48), events(2, 0, tick), events(2, 128, tick, event.Event{Seq: 9, Time: 340, Cpu: 2, Kind: api.KindPick}),
		events(7, 1, someRow(random, 7, 3, 4)...), events(0, 0, someRow(random, 0, 4, 20)...),
	} {
		bytes := bytesOf(t, b)
		head, body := [4]byte(bytes[4:]), bytes[8:len(bytes)-4]
		check := func(body []byte) { errs[readsAsDefined(t, sealOf(head, body))]++ }
		for i := range body {
			check(body[:i])
			check(body[i:])
			check(slices.Delete(slices.Clone(body), i, i+1))
			for x := range 256 {
				changed := slices.Clone(body)
				changed[i] = byte(x)
				check(changed)
				check(slices.Insert(slices.Clone(body), i, byte(x)))
				for range 3 {
					twice := slices.Clone(changed)
					twice[random.Intn(len(body))] = byte(random.Intn(256))
					check(twice)
				}
			}
		}
	}
	for _, err := range []api.Errno{api.OK, block.ErrBody} {
		if errs[err] < 1000 {
			t.Errorf("only %d bodies with %d", errs[err], err)
		}
	}
}

// P10.5

func TestWhatIsWrittenIsReadBack(t *testing.T) {
	seen := map[string]bool{}
	for _, b := range rightBlocks() {
		bytes, err := block.Write(b)
		if err != api.OK {
			t.Fatalf("Write(%+v): %d", b, err)
		}
		readsAs(t, bytes, b, len(bytes), api.OK)
		seen[string(bytes)] = true
	}
	if len(seen) < 200 {
		t.Errorf("only %d blocks", len(seen))
	}
}

func TestWhatIsReadIsWrittenAsTheSameBytes(t *testing.T) {
	random := rand.New(rand.NewSource(113))
	read := 0
	for range 200000 {
		var body []byte
		for range 1 + random.Intn(12) {
			body = append(body, byte(random.Intn(1<<(1+random.Intn(8)))))
		}
		bytes := sealOf([4]byte{113, 116, 1, byte(1 + random.Intn(2))}, body)
		b, n, err := block.Read(bytes)
		if err != api.OK {
			fails(t, bytes, block.ErrBody)
			continue
		}
		read++
		if form, err := block.Write(b); !slices.Equal(form, bytes) || n != len(bytes) || err != api.OK {
			t.Fatalf("%v, as read, is written as %v, %d", bytes, form, err)
		}
	}
	if read < 5000 {
		t.Errorf("only %d were blocks", read)
	}
}

// isFound fails unless bytes are not read after some bits were changed, which are changed back.
func isFound(t *testing.T, bytes []byte, bits ...int) {
	t.Helper()
	flip := func() {
		for _, k := range bits {
			bytes[k/8] ^= 1 << (k % 8)
		}
	}
	flip()
	if b, n, err := block.Read(bytes); err != block.ErrSum || n != 0 || !block.Same(b, block.Block{}) {
		t.Fatalf("Read with the bits %v changed = %+v, %d, %d", bits, b, n, err)
	}
	flip()
}

func TestUpToThreeBitsAreFound(t *testing.T) {
	for _, b := range []block.Block{end(7), events(2, 3)} {
		bytes := bytesOf(t, b)
		for i := 32; i < 8*len(bytes); i++ {
			isFound(t, bytes, i)
			for j := i + 1; j < 8*len(bytes); j++ {
				isFound(t, bytes, i, j)
				for k := j + 1; k < 8*len(bytes); k++ {
					isFound(t, bytes, i, j, k)
				}
			}
		}
	}
}

func TestUpToThreeBitsOfALongBlockAreFound(t *testing.T) {
	bytes := bytesOf(t, events(0, 1<<14, picks(1019, 0)...))
	if len(bytes) != block.MaxBlock {
		t.Fatalf("%d bytes", len(bytes))
	}
	for i := 32; i < 8*len(bytes); i += 7 {
		isFound(t, bytes, i)
	}
	random := rand.New(rand.NewSource(127))
	for range 3000 {
		bits := random.Perm(8*len(bytes) - 32)[:2+random.Intn(2)]
		for i := range bits {
			bits[i] += 32
		}
		isFound(t, bytes, bits...)
	}
}

func TestBurstsAreFound(t *testing.T) {
	random := rand.New(rand.NewSource(131))
	for _, b := range []block.Block{end(7), events(2, 3), events(2, 0, tick), events(63, 5, longSpawns(130, 0)...)} {
		bytes := bytesOf(t, b)
		for from := 32; from < 8*len(bytes); from += 1 + len(bytes)/50 {
			for range 40 {
				bits := []int{from}
				for k := from + 1; k < min(from+32, 8*len(bytes)); k++ {
					if random.Intn(2) == 1 {
						bits = append(bits, k)
					}
				}
				isFound(t, bytes, bits...)
			}
		}
	}
}

// Arguments and results.

func TestBytesStayAsTheyAre(t *testing.T) {
	for _, b := range []block.Block{end(7), events(2, 3), events(2, 0, tick)} {
		all := append(bytesOf(t, b), 1, 2, 3, 4, 5)
		before := slices.Clone(all)
		for n := range len(all) + 1 {
			block.Length(all[:n])
			block.Read(all[:n])
		}
		for _, body := range wrongBodies() {
			bytes := sealOf([4]byte{113, 116, 1, b.Kind}, body)
			same := slices.Clone(bytes)
			block.Read(bytes)
			if !slices.Equal(bytes, same) {
				t.Fatal("wrong bytes were changed")
			}
		}
		if !slices.Equal(all, before) {
			t.Fatal("bytes, or those after them, were changed")
		}
	}
}

func TestBlocksThatAreReadAreTheirOwn(t *testing.T) {
	want := events(2, 0, tick, event.Event{Seq: 9, Time: 340, Cpu: 2, Kind: api.KindPick})
	bytes := bytesOf(t, want)
	one, _, _ := block.Read(bytes)
	two, n, err := block.Read(bytes)
	for i := range one.Events[:cap(one.Events)] {
		one.Events[:cap(one.Events)][i].Seq = 1
	}
	clear(bytes)
	if !block.Same(two, want) || n != 27 || err != api.OK {
		t.Errorf("the other block was changed: %+v, %d, %d", two, n, err)
	}
}
