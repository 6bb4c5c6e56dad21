package tests

import (
	"fmt"
	"testing"

	"loop.example/g00576/impl"
)

// leafCalls are the calls of leaves, with what they tell as a doc, so that it can be spoilt and looked at.
func leafCalls() map[string]func(d impl.Doc) impl.Doc {
	calls := map[string]func(d impl.Doc) impl.Doc{
		"LeavesOf": func(d impl.Doc) impl.Doc {
			var told impl.Doc
			for _, leaf := range impl.LeavesOf(d) {
				told.Holes = append(told.Holes, named(leaf.First, leaf.Many), named(leaf.Live, 0))
			}
			return told
		},
	}
	for _, n := range []int64{-1, 0, 1, 3, 8, 60} {
		calls[fmt.Sprintf("AtLive %d", n)] = func(d impl.Doc) impl.Doc { return impl.Doc{Holes: []impl.Id{impl.AtLive(d, n)}} }
		calls[fmt.Sprintf("LiveAhead %d", n)] = func(d impl.Doc) impl.Doc {
			return impl.Doc{Holes: []impl.Id{named(1, impl.LiveAhead(d, named(1, n)))}}
		}
		for _, to := range []int64{0, 2, 60} {
			calls[fmt.Sprintf("Slice %d, %d", n, to)] = func(d impl.Doc) impl.Doc { return typed(1, impl.Slice(d, n, to)) }
		}
	}
	return calls
}

// Nothing of a doc is changed or shared by what its leaves tell.
func TestLeavesLeaveTheDoc(t *testing.T) {
	for what, d := range handedDocs() {
		for name, call := range leafCalls() {
			docStays(t, name+", "+what, call, d)
		}
	}
}

// Nothing is kept from one call to the next: the leaves of two calls are apart, and each call tells the same.
func TestLeavesOfTwoCallsAreApart(t *testing.T) {
	d := without(typed(1, "abcdefghij"), 1)
	one, other := impl.LeavesOf(d), impl.LeavesOf(d)
	want := []impl.Leaf{{First: 0, Many: 8, Live: 7}, {First: 8, Many: 2, Live: 2}}
	for i := range one[:cap(one)] {
		one[:cap(one)][i] = impl.Leaf{First: 9, Many: 9, Live: 9}
	}
	sameLeaves(t, "the other ones, when these are spoilt", other, want)
	sameLeaves(t, "again", impl.LeavesOf(d), want)
	sameLeaves(t, "of another doc", impl.LeavesOf(typed(1, "a")), []impl.Leaf{{First: 0, Many: 1, Live: 1}})
	same(t, "one of it", impl.AtLive(typed(2, "a"), 0), named(2, 0))
	same(t, "the first doc again", impl.AtLive(d, 1), named(1, 2))
	same(t, "its text again", impl.Slice(d, 0, 9), "acdefghij")
}
