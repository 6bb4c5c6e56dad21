package tests

import (
	"fmt"
	"testing"

	"loop.example/g00576/impl"
)

var behindItems = letter(named(3, 3), none, none, "behind")

// roomyItems are the same items, with room behind them into which a call could write.
func roomyItems(items []impl.Item) []impl.Item {
	roomy := append(append(make([]impl.Item, 0, len(items)+70), items...), behindItems)
	return roomy[:len(items)]
}

// roomyDoc is the same doc, with room behind its lists.
func roomyDoc(d impl.Doc) impl.Doc {
	holes := append(append(make([]impl.Id, 0, len(d.Holes)+9), d.Holes...), named(3, 3))
	return impl.Doc{Items: roomyItems(d.Items), Pend: roomyItems(d.Pend), Holes: holes[:len(d.Holes)]}
}

// spoilDoc turns every item of a doc, and all behind each list, into something else.
func spoilDoc(d impl.Doc) {
	for _, items := range [][]impl.Item{d.Items[:cap(d.Items)], d.Pend[:cap(d.Pend)]} {
		for i := range items {
			items[i] = letter(named(6, 6), named(6, 7), named(6, 8), "spoilt")
		}
	}
	holes := d.Holes[:cap(d.Holes)]
	for i := range holes {
		holes[i] = named(6, 6)
	}
}

// docCalls are calls to which a doc is handed in, with the doc that they answer with, if they do.
func docCalls() map[string]func(d impl.Doc) impl.Doc {
	calls := map[string]func(d impl.Doc) impl.Doc{
		"DocRight": func(d impl.Doc) impl.Doc { return typed(1, fmt.Sprint(impl.DocRight(d))) },
		"TextOf":   func(d impl.Doc) impl.Doc { return typed(1, impl.TextOf(d)) },
		"PlaceOf":  func(d impl.Doc) impl.Doc { return impl.Doc{Holes: []impl.Id{named(1, impl.PlaceOf(d, named(1, 1)))}} },
		"NextOf":   func(d impl.Doc) impl.Doc { return impl.Doc{Holes: []impl.Id{named(1, impl.NextOf(d, 1))}} },
	}
	for _, at := range []int64{-1, 0, 1, 3} {
		calls[fmt.Sprintf("Insert at %d", at)] = func(d impl.Doc) impl.Doc { return impl.Insert(d, 2, at, "x").Doc }
		calls[fmt.Sprintf("Insert of two at %d", at)] = func(d impl.Doc) impl.Doc { return impl.Insert(d, 9, at, "xy").Doc }
		for _, many := range []int64{0, 1, 2, 3} {
			calls[fmt.Sprintf("Delete of %d at %d", many, at)] = func(d impl.Doc) impl.Doc { return impl.Delete(d, at, many).Doc }
		}
	}
	return calls
}

// docStays looks whether a call leaves the doc as it is, and answers in memory of its own.
func docStays(t *testing.T, what string, call func(d impl.Doc) impl.Doc, d impl.Doc) {
	t.Helper()
	given := roomyDoc(d)
	got := call(given)
	want := docTwin(got)
	sameDoc(t, what+": the doc", given, d)
	same(t, what+": behind the items", given.Items[:len(d.Items)+1][len(d.Items)], behindItems)
	same(t, what+": behind what waits", given.Pend[:len(d.Pend)+1][len(d.Pend)], behindItems)
	same(t, what+": behind the holes", given.Holes[:len(d.Holes)+1][len(d.Holes)], named(3, 3))
	spoilDoc(given)
	sameDoc(t, what+": the answer, when the doc is spoilt", got, want)
	given = roomyDoc(d)
	got = call(given)
	listsApart(t, what, got)
	spoilDoc(got)
	sameDoc(t, what+": the doc, when the answer is spoilt", given, d)
}

// listsApart looks whether the items of a doc stay, when what waits, and all behind it, is spoilt.
func listsApart(t *testing.T, what string, d impl.Doc) {
	t.Helper()
	items, pend := docTwin(d).Items, docTwin(d).Pend
	spoilDoc(impl.Doc{Pend: d.Pend})
	sameDoc(t, what+": the items, when what waits is spoilt", impl.Doc{Items: d.Items}, impl.Doc{Items: items})
	copy(d.Pend, pend)
	spoilDoc(impl.Doc{Items: d.Items})
	sameDoc(t, what+": what waits, when the items are spoilt", impl.Doc{Pend: d.Pend}, impl.Doc{Pend: pend})
}

// Nothing that is handed in is changed, and nothing of it is shared.
func TestDocArgumentsStay(t *testing.T) {
	abc := typed(1, "abc")
	docs := map[string]impl.Doc{
		"what waits comes": waiting(abc, letter(named(3, 0), named(2, 0), none, "x"), letter(named(4, 1), none, none, "y"), letter(named(5, 0), named(9, 1), none, "z")),
		"holes are met":    holed(abc, named(2, 0), named(9, 1), named(9, 2)),
		"both":             holed(waiting(abc, letter(named(3, 0), named(2, 0), none, "x"), letter(named(4, 1), none, none, "y")), named(2, 0), named(3, 0), named(7, 0)),
	}
	for what, d := range rightDocs() {
		docs[what] = d
	}
	for what, d := range wrongDocs() {
		docs["not right: "+what] = d
	}
	for name, call := range docCalls() {
		for what, d := range docs {
			docStays(t, name+", "+what, call, d)
		}
	}
}

// Nothing is kept from one call to the next.
func TestDocsOfTwoCallsAreApart(t *testing.T) {
	d := impl.Insert(impl.Doc{}, 1, 0, "ab").Doc
	left, right := impl.Insert(d, 2, 1, "left").Doc, impl.Insert(d, 2, 1, "right").Doc
	gone := impl.Delete(d, 0, 1).Doc
	same(t, "one way", impl.TextOf(left), "aleftb")
	same(t, "the other way", impl.TextOf(right), "arightb")
	same(t, "erased", impl.TextOf(gone), "b")
	same(t, "neither", impl.TextOf(d), "ab")
	spoilDoc(left)
	same(t, "one is spoilt", impl.TextOf(right), "arightb")
}
