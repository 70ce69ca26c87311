package der

import "signet/api"

// behind: the place behind the element at a place that stands in so many constructed ones; -1: it is not well shaped.
func behind(v []api.Tlv, at, open int) int {
	if at >= len(v) || !sound(v[at]) {
		return -1
	}
	if isConstructed(v[at].Tag) && open >= api.MaxDepth {
		return -1
	}
	next := at + 1
	for range v[at].Kids {
		if next = behind(v, next, open+1); next < 0 {
			return -1
		}
	}
	return next
}

// sound: is the element as it may be, what stands in it aside?
func sound(t api.Tlv) bool {
	if !isTag(t.Tag) || !right(t.Tag, t.Data) {
		return false
	}
	if isConstructed(t.Tag) {
		return len(t.Data) == 0 && t.Kids >= 0
	}
	return t.Kids == 0
}
