package btree

import "cupel/api"

// span is which keys may stand at a place of a tree: those from low on, and below high. No key is empty, so that an empty high bounds nothing.
type span struct{ low, high string }

// below is the span of a page's kid, within the page's own.
func (s span) below(p api.Page, kid int) span {
	if kid > 0 {
		s.low = p.Keys[kid-1]
	}
	if kid < len(p.Keys) {
		s.high = p.Keys[kid]
	}
	return s
}

// holds tells whether a page's keys stand within the span. Those of a page with kids stand behind low, too, as nothing could be in its first kid else: so no such page comes twice in what is gone through, and a log in which pages lie below themselves is gone through to an end.
func (s span) holds(p api.Page) bool {
	if len(p.Keys) == 0 {
		return true
	}
	first, last := p.Keys[0], p.Keys[len(p.Keys)-1]
	if first < s.low || first == s.low && !p.Leaf {
		return false
	}
	return s.high == "" || last < s.high
}
