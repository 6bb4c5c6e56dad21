package tests

import (
	"fmt"
	"testing"

	"loop.example/g00576/impl"
)

// roomyUpdate is the same update, with room behind its lists.
func roomyUpdate(u impl.Update) impl.Update {
	gone := append(append(make([]impl.Id, 0, len(u.Gone)+30), u.Gone...), named(3, 3))
	return impl.Update{Items: roomyItems(u.Items), Gone: gone[:len(u.Gone)]}
}

// spoilUpdate turns all of an update, and all behind each list, into something else.
func spoilUpdate(u impl.Update) {
	spoilDoc(impl.Doc{Items: u.Items, Holes: u.Gone})
}

// handedDocs are docs from which something is handed out, and those that are not right.
func handedDocs() map[string]impl.Doc {
	docs := map[string]impl.Doc{"a doc": handed(), "holes, and what waits": holed(waiting(handed(), lonely(2)...), named(3, 0), named(4, 0))}
	for what, d := range rightDocs() {
		docs[what] = d
	}
	for what, d := range wrongDocs() {
		docs["not right: "+what] = d
	}
	return docs
}

// Nothing of a doc, nor of marks, is changed or shared by what is handed out of it.
func TestHandedOutApart(t *testing.T) {
	for what, d := range handedDocs() {
		docStays(t, "MarksOf, "+what, func(d impl.Doc) impl.Doc {
			marks := impl.MarksOf(d)
			return typed(1, fmt.Sprint(marks)[:min(60, len(fmt.Sprint(marks)))])
		}, d)
		for which, l := range rightMarkLists() {
			docStays(t, "DiffOf, "+what+", "+which, func(d impl.Doc) impl.Doc {
				u := impl.DiffOf(d, l)
				return impl.Doc{Items: u.Items, Holes: u.Gone}
			}, d)
		}
	}
	for what, l := range wrongMarkLists() {
		docStays(t, "DiffOf, "+what, func(d impl.Doc) impl.Doc { return impl.Doc{Holes: impl.DiffOf(d, l).Gone} }, handed())
	}
}

func TestMarksStay(t *testing.T) {
	lists := rightMarkLists()
	for what, l := range wrongMarkLists() {
		lists["not right: "+what] = l
	}
	for what, l := range lists {
		given := append(append(make([]impl.Mark, 0, len(l)+9), l...), impl.Mark{Client: 7, Next: 7})
		u := impl.DiffOf(handed(), given[:len(l)])
		impl.MarksRight(given[:len(l)])
		sameMarks(t, what, given[:len(l)], l)
		same(t, what+": behind them", given[len(l)], impl.Mark{Client: 7, Next: 7})
		want := updateTwin(u)
		clear(given)
		sameUpdate(t, what+": the answer, when the marks are spoilt", u, want)
	}
	d := handed()
	marks := impl.MarksOf(d)
	spoilDoc(d)
	sameMarks(t, "the marks, when the doc is spoilt", marks, []impl.Mark{{Client: 1, Next: 3}, {Client: 2, Next: 2}})
}

// Nothing of an update is changed by a call.
func TestUpdatesStay(t *testing.T) {
	updates := rightUpdates()
	for what, u := range wrongUpdates() {
		updates["not right: "+what] = u
	}
	for what, u := range updates {
		given := roomyUpdate(u)
		text := impl.UpdateBytes(given)
		impl.UpdateRight(given)
		sameUpdate(t, what+": the update", given, u)
		same(t, what+": behind the items", given.Items[:len(u.Items)+1][len(u.Items)], behindItems)
		same(t, what+": behind the gone", given.Gone[:len(u.Gone)+1][len(u.Gone)], named(3, 3))
		spoilUpdate(given)
		one, other := impl.UpdateRead(text), impl.UpdateRead(text)
		if other.Code == impl.OK {
			spoilUpdate(one.Update)
			sameUpdate(t, what+": read twice", other.Update, u)
		}
	}
}

// someApplies are docs and updates of which much comes together.
func someApplies() map[string]struct {
	d impl.Doc
	u impl.Update
} {
	type pair = struct {
		d impl.Doc
		u impl.Update
	}
	abc := typed(1, "abc")
	x, w := letter(named(2, 0), named(3, 0), none, "x"), letter(named(3, 0), named(1, 0), named(1, 1), "w")
	v := letter(named(4, 0), named(5, 0), none, "v")
	return map[string]pair{
		"nothing":             {abc, impl.Update{}},
		"nothing comes":       {holed(waiting(abc, lonely(1)...), named(1, 7)), impl.Update{}},
		"one comes":           {abc, sent(w)},
		"one waits":           {abc, sent(x)},
		"one waits, one came": {abc, sent(x, v, w)},
		"one waited":          {waiting(abc, x, v), sent(w)},
		"one is gone":         {abc, lost(sent(), named(1, 1))},
		"one is a hole":       {holed(abc, named(8, 0)), lost(sent(), named(7, 1), named(9, 9))},
		"a hole is met":       {holed(abc, named(2, 0), named(3, 0), named(8, 8)), lost(sent(w, x), named(2, 0))},
		"all at once":         {holed(waiting(abc, x), named(3, 0), named(8, 8)), lost(sent(v, w), named(1, 2), named(3, 0), named(7, 7))},
		"again":               {waiting(abc, x), sent(abc.Items[0], abc.Items[1], x)},
		"too much":            {waiting(abc, lonely(20)...), sent(x, w, v)},
		"an update is wrong":  {abc, impl.Update{Items: []impl.Item{w, x}}},
		"a doc is wrong":      {wrongDocs()["a hole twice"], sent(w)},
		"out of nothing":      {impl.Doc{}, lost(sent(append(abc.Items, w)...), named(1, 1))},
	}
}

func TestApplyArgumentsStay(t *testing.T) {
	for what, c := range someApplies() {
		docStays(t, "Apply, "+what, func(d impl.Doc) impl.Doc { return impl.Apply(d, c.u).Doc }, c.d)
		given := roomyUpdate(c.u)
		got := impl.Apply(c.d, given)
		want := docTwin(got.Doc)
		sameUpdate(t, what+": the update", given, c.u)
		same(t, what+": behind the items", given.Items[:len(c.u.Items)+1][len(c.u.Items)], behindItems)
		same(t, what+": behind the gone", given.Gone[:len(c.u.Gone)+1][len(c.u.Gone)], named(3, 3))
		spoilUpdate(given)
		sameDoc(t, what+": the answer, when the update is spoilt", got.Doc, want)
		given = roomyUpdate(c.u)
		got = impl.Apply(c.d, given)
		spoilDoc(got.Doc)
		sameUpdate(t, what+": the update, when the answer is spoilt", given, c.u)
	}
}
