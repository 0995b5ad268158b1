package seal

import (
	"slices"

	"donjon/api"
)

// Log knows what was sealed through it.
type Log struct {
	list   []thing                // in the order in which it was sealed
	labels map[string][]api.Label // of each block, those that it was sealed for, each once; nil till there is one
}

// A thing was sealed. Of one key and label, two blocks are the same just if the payloads are.
type thing struct {
	key   string
	label api.Label
	block string
}

// NewLog is a log of nothing.
func NewLog() *Log { return &Log{} }

// Seal is the page in which payload is sealed for l under key; the log knows of it then.
func (g *Log) Seal(key []byte, l api.Label, payload []byte) ([]byte, api.Errno) {
	if g == nil {
		return nil, api.ErrNil
	}
	b, e := Seal(key, l, payload)
	if e != api.OK {
		return nil, e
	}
	g.note(thing{string(key), l, string(b)})
	return b, api.OK
}

// note makes the log know of s.
func (g *Log) note(s thing) {
	g.list = append(g.list, s)
	if g.labels == nil {
		g.labels = map[string][]api.Label{}
	}
	of := g.labels[s.block]
	if !slices.Contains(of, s.label) {
		g.labels[s.block] = append(of, s.label)
	}
}

// Has tells whether block was sealed through the log.
func (g *Log) Has(block []byte) bool {
	return g != nil && len(g.labels[string(block)]) > 0
}

// Knows tells whether block was sealed through the log for just this label.
func (g *Log) Knows(l api.Label, block []byte) bool {
	return g != nil && slices.Contains(g.labels[string(block)], l)
}

// Count is how many times something was sealed through the log.
func (g *Log) Count() int {
	if g == nil {
		return 0
	}
	return len(g.list)
}

// Twice is the label of each thing under whose nonce something else was sealed earlier, in order.
func (g *Log) Twice() []api.Label {
	if g == nil {
		return nil
	}
	var list []api.Label
	uses := map[string]use{}
	for _, s := range g.list {
		nonce := string(NonceOf(s.label))
		u, ok := uses[nonce]
		if !ok {
			u.first = s
		}
		if u.mixed || s != u.first {
			u.mixed = true
			list = append(list, s.label)
		}
		uses[nonce] = u
	}
	return list
}

// A use of a nonce is what was sealed under it first, and whether anything else was since: whatever comes behind is then something else than one of them.
type use struct {
	first thing
	mixed bool
}
