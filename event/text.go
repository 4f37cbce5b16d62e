package event

import (
	"strconv"
	"strings"

	"quantum/api"
)

// What texts are made of.
const (
	space    = " "
	nameAt   = 3 // the word that is the name of the kind
	maxWords = 8 // of a spawn
)

// Text returns the text of an event.
func Text(e Event) (string, api.Errno) {
	values, err := Values(e)
	if err != api.OK {
		return "", err
	}
	words := []string{strconv.Itoa(e.Seq), strconv.Itoa(e.Time), strconv.Itoa(int(e.Cpu)), Name(e.Kind)}
	for _, x := range values {
		words = append(words, strconv.FormatUint(x, 10))
	}
	return strings.Join(words, space), api.OK
}

// Read returns the event with a text.
func Read(s string) (Event, api.Errno) {
	e, ok := likely(s)
	if !ok {
		return Event{}, ErrText
	}
	// Numbers have other forms too, and some were too great: none of those is written as it was read.
	if text, err := Text(e); err != api.OK || text != s {
		return Event{}, ErrText
	}
	return e, api.OK
}

// likely returns the only event of which a string may be the text.
func likely(s string) (Event, bool) {
	// One word more than any text has is enough to tell that there are too many, however long the string is.
	words := strings.SplitN(s, space, maxWords+1)
	if len(words) <= nameAt {
		return Event{}, false
	}
	kind, ok := Find(words[nameAt])
	if !ok {
		return Event{}, false
	}
	begin, ok := numbers(words[:nameAt])
	if !ok {
		return Event{}, false
	}
	values, ok := numbers(words[nameAt+1:])
	if !ok {
		return Event{}, false
	}
	e, err := With(Event{Seq: int(begin[0]), Time: int(begin[1]), Cpu: uint8(begin[2]), Kind: kind}, values)
	return e, err == api.OK
}

// numbers returns the numbers that words are, in any of their decimal forms.
func numbers(words []string) ([]uint64, bool) {
	var l []uint64
	for _, w := range words {
		x, err := strconv.ParseUint(w, 10, 64)
		if err != nil {
			return nil, false
		}
		l = append(l, x)
	}
	return l, true
}
