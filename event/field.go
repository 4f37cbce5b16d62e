package event

import "quantum/api"

// field is a field that some kinds have, and others do not.
type field uint8

// The fields, in the order in which events are compared.
const (
	task field = iota
	group
	to
	weight
	ticks
	mask
	got
)

var fieldNames = [...]string{
	task:   "task",
	group:  "group",
	to:     "to",
	weight: "weight",
	ticks:  "ticks",
	mask:   "mask",
	got:    "got",
}

// place returns where an event has a field: an *int, or a *uint64 for one without a sign.
func place(e *Event, f field) any {
	switch f {
	case task:
		return &e.Task
	case group:
		return &e.Group
	case to:
		return &e.To
	case weight:
		return &e.Weight
	case ticks:
		return &e.Ticks
	case mask:
		return &e.Mask
	}
	return &e.Got
}

// value returns what an event has in a field. Different numbers below 0 stay different, and are beyond all limits.
func value(e Event, f field) uint64 {
	p := place(&e, f)
	if signed, ok := p.(*int); ok {
		return uint64(*signed)
	}
	if unsigned, ok := p.(*uint64); ok {
		return *unsigned
	}
	return 0
}

// put gives a field a value. One that is too great for an int becomes less than 0, which is beyond all limits too.
func put(e *Event, f field, x uint64) {
	p := place(e, f)
	if signed, ok := p.(*int); ok {
		*signed = int(x)
	}
	if unsigned, ok := p.(*uint64); ok {
		*unsigned = x
	}
}

// fits reports whether a field of the kind is within its limits. The CPU is one.
func fits(e Event, f field) bool {
	switch f {
	case task:
		return between(1, e.Task, MaxTask)
	case group:
		return between(leastGroup(e.Kind), e.Group, api.MaxGroups-1)
	case to:
		return between(0, e.To, api.MaxCPUs-1) && e.To != int(e.Cpu)
	case weight:
		return between(1, e.Weight, api.MaxWeight)
	case ticks:
		return between(1, e.Ticks, MaxTicks)
	case mask:
		return e.Mask>>e.Cpu&1 == 1
	}
	return between(leastGot(e.Kind), e.Got, MaxTask)
}

// leastGroup returns the least group of a kind: the root has no weight that one could change.
func leastGroup(kind uint8) int {
	if kind == api.KindRegroup {
		return 1
	}
	return 0
}

// leastGot returns the least ID that came of a kind: there may be nobody to tick, or to pick.
func leastGot(kind uint8) int {
	if kind == api.KindTick || kind == api.KindPick {
		return 0
	}
	return 1
}

func between(least, x, most int) bool { return x >= least && x <= most }
