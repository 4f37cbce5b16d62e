package event_test

import (
	"fmt"
	"math"
	"slices"
	"strings"
	"testing"

	"quantum/api"
	"quantum/event"
)

// texts are right events and their texts.
var texts = []struct {
	e    event.Event
	text string
}{
	{event.Event{Seq: 1, Cpu: 2, Kind: api.KindSpawn, Task: 7, Weight: 1024, Mask: 255}, "1 0 2 spawn 7 0 1024 255"},
	{event.Event{Seq: 5, Time: 40, Cpu: 2, Kind: api.KindTick, Ticks: 40, Got: 7}, "5 40 2 tick 40 7"},
	{event.Event{Seq: 1 << 48, Time: 1 << 48, Cpu: 63, Kind: api.KindSpawn, Task: 65535, Group: 255, Weight: 65536, Mask: math.MaxUint64}, "281474976710656 281474976710656 63 spawn 65535 255 65536 18446744073709551615"},
	{event.Event{Seq: 10, Time: 100, Cpu: 0, Kind: api.KindWake, Task: 20}, "10 100 0 wake 20"},
	{event.Event{Seq: 1, Time: 2, Cpu: 3, Kind: api.KindBlock, Got: 4}, "1 2 3 block 4"},
	{event.Event{Seq: 1, Time: 2, Cpu: 3, Kind: api.KindExit, Got: 4}, "1 2 3 exit 4"},
	{event.Event{Seq: 1, Time: 2, Cpu: 3, Kind: api.KindTick, Ticks: 4294967295}, "1 2 3 tick 4294967295 0"},
	{event.Event{Seq: 1, Time: 2, Cpu: 3, Kind: api.KindPick}, "1 2 3 pick 0"},
	{event.Event{Seq: 1, Time: 2, Cpu: 3, Kind: api.KindReweight, Task: 4, Weight: 5}, "1 2 3 reweight 4 5"},
	{event.Event{Seq: 1, Time: 2, Cpu: 3, Kind: api.KindRegroup, Group: 4, Weight: 5}, "1 2 3 regroup 4 5"},
	{event.Event{Seq: 1, Time: 2, Cpu: 3, Kind: api.KindMigrate, Task: 4, To: 5}, "1 2 3 migrate 4 5"},
	{event.Event{Seq: 1, Time: 2, Cpu: 3, Kind: api.KindBalance, Got: 4}, "1 2 3 balance 4"},
}

// textOf returns the text of a right event, by its definition.
func textOf(e event.Event) string {
	name := ""
	for _, k := range kinds {
		if k.kind == e.Kind {
			name = k.name
		}
	}
	s := fmt.Sprintf("%d %d %d %s", e.Seq, e.Time, e.Cpu, name)
	for _, x := range valuesOf(e) {
		s += fmt.Sprintf(" %d", x)
	}
	return s
}

// reads fails unless Read finds an event.
func reads(t *testing.T, s string, want event.Event) {
	t.Helper()
	if e, err := event.Read(s); e != want || err != api.OK {
		t.Fatalf("Read(%q) = %+v, %d, want %+v", s, e, err, want)
	}
}

// refused fails unless Read refuses a string, and returns nothing with the error.
func refused(t *testing.T, s string) {
	t.Helper()
	if e, err := event.Read(s); e != (event.Event{}) || err != event.ErrText {
		t.Fatalf("Read(%.200q) = %+v, %d, want no event, %d", s, e, err, event.ErrText)
	}
}

// P6.4

func TestText(t *testing.T) {
	for _, c := range texts {
		if s, err := event.Text(c.e); s != c.text || err != api.OK {
			t.Errorf("Text(%+v) = %q, %d, want %q", c.e, s, err, c.text)
		}
	}
	someEvents(func(e event.Event) {
		want := checkOf(e)
		s, err := event.Text(e)
		switch {
		case err != want:
			t.Fatalf("Text(%+v): %d, want %d", e, err, want)
		case err == api.OK && s != textOf(e):
			t.Fatalf("Text(%+v) = %q, want %q", e, s, textOf(e))
		case err != api.OK && s != "":
			t.Fatalf("Text(%+v) = %q with an error", e, s)
		}
	})
}

func TestRead(t *testing.T) {
	for _, c := range texts {
		reads(t, c.text, c.e)
	}
	for _, e := range append(slices.Clone(right), someRight(20000)...) {
		reads(t, textOf(e), e)
	}
}

func TestReadOfNoText(t *testing.T) {
	for _, s := range []string{
		"", " ", "  ", "   ", "    ", "1", "1 2", "1 2 3", "1 2 3 ", "pick", "pick 0", "1 2 pick 0", "a b c d", "1 2 3 4",
		// other numbers of words
		"1 2 3 pick", "1 2 3 pick 0 0", "1 2 3 pick 0 ", " 1 2 3 pick 0", "1  2 3 pick 0", "1 2 3  pick 0", "1 2 3 pick  0", "1 2 3 4 pick 0",
		"1 0 2 spawn 7 0 1024", "1 0 2 spawn 7 0 1024 255 0", "1 0 2 spawn 7 0 1024 255 ", "1 0 2 spawn 7 0 1024  255", "1 2 3 tick 4", "1 2 3 tick 4 5 6", "1 2 3 wake", "1 2 3 wake 4 5",
		// other spaces
		"1\t2\t3\tpick\t0", "1 2 3 pick 0\n", "\n1 2 3 pick 0", "1 2 3 pick\n0", "1,2,3,pick,0", "1 2 3 pick\u00a00", "1 2 3 pick\x000", "123pick0", "1 2 3pick 0", "1 2 3 pick0",
		// other names
		"1 2 3 Pick 0", "1 2 3 PICK 0", "1 2 3 pic 0", "1 2 3 picks 0", "1 2 3 6 0", "1 2 3 kind 0", "1 2 3 \x00 0", "1 2 3 none 0",
		// other forms of numbers
		"01 2 3 pick 0", "1 02 3 pick 0", "1 2 03 pick 0", "1 2 3 pick 00", "1 2 3 pick 07", "05 40 2 tick 40 7", "5 40 2 tick 040 7", "1 00 3 pick 0",
		"+1 2 3 pick 0", "1 +2 3 pick 0", "1 2 +3 pick 0", "1 2 3 pick +4", "1 2 3 pick -4", "1 2 3 pick -0", "-1 2 3 pick 0", "1 -0 3 pick 0", "1 2 -3 pick 0",
		"1_0 2 3 pick 0", "1 2 3 pick 1_0", "0x1 2 3 pick 0", "1 2 3 pick 0x4", "1 2 3 pick 4.0", "1 2 3 pick 4e0", "1 2 3 pick a", "a 2 3 pick 0", "1 a 3 pick 0", "1 2 a pick 0",
		"1 2 3 pick ٣", "１ 2 3 pick 0", "1 2 3 pick \xff", "1 2 3 pick 4\x00", "1 2 3 pick four", "1 2 3 pick NaN",
		// beyond the limits
		"0 2 3 pick 0", "281474976710657 2 3 pick 0", "1 281474976710657 3 pick 0", "1 2 64 pick 0", "1 2 255 pick 0", "1 2 3 pick 65536",
		"1 2 3 wake 0", "1 2 3 wake 65536", "1 2 3 block 0", "1 2 3 exit 0", "1 2 3 balance 0", "1 2 3 tick 0 4", "1 2 3 tick 4294967296 4",
		"1 2 3 reweight 4 0", "1 2 3 reweight 4 65537", "1 2 3 reweight 0 5", "1 2 3 regroup 0 5", "1 2 3 regroup 256 5", "1 2 3 migrate 4 3", "1 2 3 migrate 4 64",
		"1 0 2 spawn 7 0 1024 3", "1 0 2 spawn 7 0 1024 0", "1 0 2 spawn 7 256 1024 255", "1 0 2 spawn 0 0 1024 255", "1 0 2 spawn 7 0 0 255",
		// right modulo a power of two
		"1 2 256 pick 0", "1 2 259 pick 0", "1 2 18446744073709551619 pick 0", "18446744073709551617 2 3 pick 0", "9223372036854775809 2 3 pick 0", "1 18446744073709551618 3 pick 0",
		"1 2 3 pick 18446744073709551616", "1 2 3 pick 18446744073709551620", "1 2 3 pick 18446744073709551615", "1 2 3 pick 9223372036854775808", "1 2 3 pick 4294967300", "1 2 3 pick 65540",
		"1 2 3 migrate 4 18446744073709551621", "1 2 3 migrate 4 69", "1 0 2 spawn 7 0 1024 18446744073709551616", "1 0 2 spawn 7 0 1024 18446744073709551871", "1 0 2 spawn 7 0 1024 18446744073709551620",
		"1 2 3 tick 4294967297 0", "1 2 3 tick 18446744073709551617 0", strings.Repeat("9", 400) + " 2 3 pick 0", "1 2 3 pick " + strings.Repeat("9", 400),
		// two of them
		"1 2 3 pick 0 1 2 3 pick 0", "1 2 3 pick 0\n1 2 3 pick 0", "1 2 3 pick 0|",
	} {
		refused(t, s)
	}
}

func TestReadOfLongStrings(t *testing.T) {
	for _, part := range []string{" ", "0", "1", "1 ", " 1", "1 2 3 pick 0 ", "\xff", "spawn ", "00 "} {
		s := strings.Repeat(part, 1<<20)
		refused(t, s)
		refused(t, "1 2 3 pick 0"+s)
		refused(t, "1 2 3 pick "+s)
		refused(t, s+" 1 2 3 pick 0")
		refused(t, "1 2 "+s+" pick 0")
	}
	refused(t, "1 2 3 pick "+strings.Repeat("0", 1<<20)+"4")
	refused(t, strings.Repeat("0", 1<<20)+"1 2 3 pick 4")
}

// TestReadTellsAllWrongBytes takes texts of which one byte is another one, is missing, or is there in addition.
func TestReadTellsAllWrongBytes(t *testing.T) {
	check := func(s string) {
		t.Helper()
		e, err := event.Read(s)
		switch {
		case err == api.OK && checkOf(e) == api.OK && textOf(e) == s:
		case err == event.ErrText && e == (event.Event{}):
			// Nothing but digits changed may still be a text: that is told by the list of words.
			if isText(s) {
				t.Fatalf("Read(%q): %d", s, err)
			}
		default:
			t.Fatalf("Read(%q) = %+v, %d", s, e, err)
		}
	}
	for _, c := range texts {
		for i := range len(c.text) + 1 {
			check(c.text[:i])
			check(c.text[i:])
			for x := range 256 {
				check(c.text[:i] + string([]byte{byte(x)}) + c.text[i:])
				if i < len(c.text) {
					check(c.text[:i] + string([]byte{byte(x)}) + c.text[i+1:])
				}
			}
			if i < len(c.text) {
				check(c.text[:i] + c.text[i+1:])
			}
		}
	}
}

// isText reports whether a string is the text of a right event, by taking each kind, and each of its fields, as fmt reads it.
func isText(s string) bool {
	for _, k := range kinds {
		e := event.Event{Kind: k.kind}
		format, at := "%d %d %d "+k.name, []any{&e.Seq, &e.Time, &e.Cpu}
		for _, span := range k.spans {
			format += " %d"
			at = append(at, fieldOf(&e, span.name).Addr().Interface())
		}
		if n, err := fmt.Sscanf(s, format, at...); n == len(at) && err == nil && checkOf(e) == api.OK && textOf(e) == s {
			return true
		}
	}
	return false
}

func TestIsText(t *testing.T) {
	for _, c := range texts {
		if !isText(c.text) || isText(c.text+"x") || isText(" "+c.text) || isText("0"+c.text) {
			t.Errorf("isText is wrong about %q", c.text)
		}
	}
}

// P6.6

func TestDifferentEventsHaveDifferentTexts(t *testing.T) {
	seen := map[string]event.Event{}
	someEvents(func(e event.Event) {
		s, err := event.Text(e)
		if err != api.OK {
			return
		}
		if other, ok := seen[s]; ok && other != e {
			t.Fatalf("%+v and %+v have the text %q", e, other, s)
		}
		seen[s] = e
	})
	if len(seen) < 500 {
		t.Errorf("only %d texts", len(seen))
	}
	for s, e := range seen {
		reads(t, s, e)
	}
}
