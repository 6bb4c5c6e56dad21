package tests

import (
	"fmt"
	"math"
	"testing"

	"loop.example/g00576/impl"
)

func leaf(first int64, many int64, live int64) impl.Leaf {
	return impl.Leaf{First: first, Many: many, Live: live}
}

// sameLeaves looks at leaves, of which an empty list and none are the same.
func sameLeaves(t *testing.T, what string, got []impl.Leaf, want []impl.Leaf) {
	t.Helper()
	same(t, what, append([]impl.Leaf{}, got...), append([]impl.Leaf{}, want...))
}

// leavesSlowly is what LeavesOf is to answer of a right doc.
func leavesSlowly(d impl.Doc) []impl.Leaf {
	var leaves []impl.Leaf
	for i, x := range d.Items {
		if i%8 == 0 {
			leaves = append(leaves, impl.Leaf{First: int64(i)})
		}
		last := &leaves[len(leaves)-1]
		last.Many++
		if !x.Gone {
			last.Live++
		}
	}
	return leaves
}

// atSlowly is what AtLive is to answer of a right doc.
func atSlowly(d impl.Doc, at int64) impl.Id {
	char := int64(0)
	for _, x := range d.Items {
		if x.Gone {
			continue
		}
		if char == at {
			return x.Id
		}
		char++
	}
	return none
}

// aheadSlowly is what LiveAhead is to answer of a right doc.
func aheadSlowly(d impl.Doc, id impl.Id) int64 {
	place, there := placesOf(d.Items)[id]
	if !there {
		return -1
	}
	return int64(len(textIn(d.Items[:place])))
}

// sliceSlowly is what Slice is to answer of a right doc of that text.
func sliceSlowly(text string, from int64, to int64) string {
	slice := ""
	if from < 0 || to > int64(len(text)) {
		return ""
	}
	for i := from; i < to; i++ {
		slice += text[i : i+1]
	}
	return slice
}

// nothingTold looks whether nothing is told of a doc that is not right, not even what is not there.
func nothingTold(t *testing.T, what string, d impl.Doc) {
	t.Helper()
	sameLeaves(t, what, impl.LeavesOf(d), nil)
	for _, at := range []int64{-1, 0, 1, 8, 60, 400} {
		same(t, fmt.Sprintf("AtLive, %s, %d", what, at), impl.AtLive(d, at), none)
		for _, to := range []int64{-1, 0, 1, 8, 60, 401} {
			same(t, fmt.Sprintf("Slice, %s, %d, %d", what, at, to), impl.Slice(d, at, to), "")
		}
	}
	for _, id := range namesNear(d) {
		same(t, fmt.Sprintf("LiveAhead, %s, %v", what, id), impl.LiveAhead(d, id), int64(0))
	}
}

// places are so many places from 0 on, and some that no text has.
func places(many int) []int64 {
	list := []int64{math.MinInt64, math.MinInt64 + 1, -1 << 32, -8, -2, -1}
	for i := range many {
		list = append(list, int64(i))
	}
	return append(list, 1<<32, 1<<32+1, math.MaxInt64-1, math.MaxInt64)
}

// namesNear are the names of all that a doc has or knows of, and some of which it has nothing.
func namesNear(d impl.Doc) []impl.Id {
	names := append(append(namesOf(d.Items), namesOf(d.Pend)...), d.Holes...)
	for _, x := range d.Pend {
		names = append(names, x.Left, x.Right)
	}
	for _, id := range wrongIds() {
		names = append(names, id)
	}
	return append(names, none, named(1, 0), named(1, 3), named(1, 59), named(1, 60), named(2, 0), named(8888, 0), named(9999, 1000000))
}

// allGone is the same doc, all of whose items are gone.
func allGone(d impl.Doc) impl.Doc {
	d = docTwin(d)
	for i := range d.Items {
		d.Items[i].Gone = true
	}
	return d
}

// leafDocs are right docs: those that were right so far, and others of each length.
func leafDocs() map[string]impl.Doc {
	docs := rightDocs()
	for what, d := range rightDocs() {
		docs[what+", all gone"] = allGone(d)
	}
	for many := range impl.MaxItems + 1 {
		d := typed(3, printed(many))
		docs["of length "+shown(many)] = d
		docs["all gone, of length "+shown(many)] = allGone(d)
		for _, step := range []int{2, 3, 8, 9} {
			some := docTwin(d)
			for i := 0; i < many; i += step {
				some.Items[i].Gone = true
			}
			docs["of length "+shown(many)+", gone each of "+shown(step)] = some
		}
	}
	for i := range 8 {
		d := allGone(typed(3, printed(impl.MaxItems)))
		for place := i * 8; place < min(i*8+8, impl.MaxItems); place++ {
			d.Items[place].Gone = false
		}
		docs["live in one leaf, "+shown(i)] = d
	}
	docs["two clients, holes, and what waits"] = holed(waiting(handed(), lonely(2)...), named(3, 0), named(4, 0))
	return docs
}
