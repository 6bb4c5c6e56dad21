package tests

import (
	"fmt"
	"testing"

	"loop.example/g00576/impl"
)

// heard is the doc when an update was heard, which must be so.
func heard(t *testing.T, d impl.Doc, u impl.Update) impl.Doc {
	t.Helper()
	out := impl.Apply(d, u)
	same(t, "the code", out.Code, int64(impl.OK))
	sameDocOut(t, "as the document says", out, applySlowly(d, u))
	same(t, "it is right", impl.DocRight(out.Doc), true)
	return out.Doc
}

func TestApplyItemsThatCome(t *testing.T) {
	abc := typed(1, "abc")
	x := letter(named(2, 0), named(1, 0), named(1, 1), "x")
	y := letter(named(2, 1), named(2, 0), named(1, 1), "y")
	same(t, "one", impl.TextOf(heard(t, abc, sent(x))), "axbc")
	same(t, "two", impl.TextOf(heard(t, abc, sent(x, y))), "axybc")
	same(t, "into nothing", impl.TextOf(heard(t, impl.Doc{}, sent(abc.Items...))), "abc")
	same(t, "into nothing, others too", impl.TextOf(heard(t, impl.Doc{}, sent(append(abc.Items, x, y)...))), "axybc")
	same(t, "nothing", impl.TextOf(heard(t, abc, impl.Update{})), "abc")
	same(t, "more of a client", impl.TextOf(heard(t, typed(1, "a"), sent(abc.Items[1:]...))), "abc")
	same(t, "ahead of all", impl.TextOf(heard(t, abc, sent(letter(named(9, 0), none, named(1, 0), "z")))), "zabc")
}

// An item that is there, or waits, stays as it is, whatever comes of its name.
func TestApplyItemsThatAreThere(t *testing.T) {
	abc := without(typed(1, "abc"), 1)
	sameDoc(t, "all again", heard(t, abc, sent(typed(1, "abc").Items...)), abc)
	sameDoc(t, "other ones of the same names", heard(t, abc, sent(typed(1, "xyz").Items...)), abc)
	sameDoc(t, "some again", heard(t, abc, sent(letter(named(1, 1), none, none, "b"))), abc)
	wait := waiting(abc, letter(named(4, 1), named(1, 0), named(1, 1), "w"))
	sameDoc(t, "one that waits again", heard(t, wait, sent(wait.Pend...)), wait)
	sameDoc(t, "another one of its name", heard(t, wait, sent(letter(named(4, 1), none, named(1, 2), "v"))), wait)
	then := heard(t, wait, sent(letter(named(4, 0), none, named(1, 0), "u"), letter(named(4, 1), none, named(1, 2), "v")))
	same(t, "one that waited comes as it was", impl.TextOf(then), "uawc")
	gone := waiting(abc, erased(wait.Pend[0]))
	sameDoc(t, "one that waits, and is gone", heard(t, gone, sent(wait.Pend...)), gone)
	then = heard(t, gone, sent(letter(named(4, 0), none, named(1, 0), "u")))
	same(t, "and is gone when it comes", impl.TextOf(then), "uac")
	same(t, "but is there", impl.PlaceOf(then, named(4, 1)), int64(2))
}

func TestApplyItemsThatWait(t *testing.T) {
	abc := typed(1, "abc")
	for what, x := range map[string]impl.Item{
		"a clock too early": letter(named(2, 1), none, none, "x"),
		"no left":           letter(named(2, 0), named(3, 0), none, "x"),
		"no right":          letter(named(2, 0), none, named(3, 0), "x"),
		"its sides turned":  letter(named(2, 0), named(1, 2), named(1, 0), "x"),
		"its own clock":     letter(named(1, 4), named(1, 2), none, "x"),
		"of a client ahead": letter(named(1, 5), none, none, "x"),
	} {
		sameDoc(t, what, heard(t, abc, sent(x)), waiting(abc, x))
		others := waiting(abc, letter(named(1, 9), none, none, "o"), letter(named(8, 3), none, none, "o"))
		sameDoc(t, what+", others wait", heard(t, others, sent(x)), waiting(others, x))
	}
	one, two := letter(named(3, 0), named(4, 0), none, "x"), letter(named(4, 0), named(3, 0), none, "y")
	sameDoc(t, "one for the other", heard(t, abc, sent(one, two)), waiting(abc, one, two))
}

// What waits becomes ready by what comes, in that update or ahead of it.
func TestApplyItemsThatBecomeReady(t *testing.T) {
	abc := typed(1, "abc")
	x, y, z := letter(named(4, 0), named(3, 0), none, "x"), letter(named(3, 0), named(2, 1), none, "y"), letter(named(2, 1), named(2, 0), none, "z")
	w := letter(named(2, 0), named(1, 2), none, "w")
	then := heard(t, abc, sent(x, y, z))
	sameDoc(t, "all wait", then, waiting(abc, x, y, z))
	same(t, "the last one comes", impl.TextOf(heard(t, then, sent(w))), "abcwzyx")
	same(t, "all come at once", impl.TextOf(heard(t, abc, sent(x, y, z, w))), "abcwzyx")
	then = heard(t, heard(t, abc, sent(x)), sent(w, z))
	sameDoc(t, "one waits still", then, impl.Doc{Items: then.Items, Pend: []impl.Item{x}})
	same(t, "until the other comes", impl.TextOf(heard(t, then, sent(y))), "abcwzyx")
	then = heard(t, impl.Doc{}, sent(x, y, z, w))
	same(t, "the doc comes last", impl.TextOf(heard(t, then, sent(abc.Items...))), "abcwzyx")
	// What waits is looked at again from the first one on: that of the client 2 comes ahead of that of 5.
	five, two, late := letter(named(5, 0), named(3, 0), none, "5"), letter(named(2, 0), named(4, 0), none, "2"), letter(named(4, 0), named(3, 0), none, "4")
	same(t, "the first is looked for again", impl.TextOf(heard(t, abc, sent(letter(named(3, 0), named(1, 2), none, "3"), five, two, late))), "abc3425")
}

// What is gone and there is gone; what is not there is a hole, as long as it is not there.
func TestApplyGone(t *testing.T) {
	abc := typed(1, "abc")
	sameDoc(t, "one that is there", heard(t, abc, lost(sent(), named(1, 1))), without(abc, 1))
	sameDoc(t, "all that are there", heard(t, abc, lost(sent(), named(1, 0), named(1, 1), named(1, 2))), without(abc, 0, 1, 2))
	sameDoc(t, "one that is gone already", heard(t, without(abc, 1), lost(sent(), named(1, 1))), without(abc, 1))
	sameDoc(t, "another one", heard(t, without(abc, 1), lost(sent(), named(1, 2))), without(abc, 1, 2))
	sameDoc(t, "one that is not there", heard(t, abc, lost(sent(), named(2, 0))), holed(abc, named(2, 0)))
	sameDoc(t, "some of each", heard(t, abc, lost(sent(), named(1, 2), named(1, 3), named(9, 9))), holed(without(abc, 2), named(1, 3), named(9, 9)))
	one := holed(abc, named(3, 3))
	sameDoc(t, "a hole already", heard(t, one, lost(sent(), named(3, 3))), one)
	sameDoc(t, "ahead of it and behind it", heard(t, one, lost(sent(), named(3, 2), named(3, 4))), holed(one, named(3, 2), named(3, 4)))
	sameDoc(t, "nothing is there", heard(t, impl.Doc{}, lost(sent(), named(1, 0))), holed(impl.Doc{}, named(1, 0)))
}

func TestApplyGoneBeforeItCame(t *testing.T) {
	abc := typed(1, "abc")
	x := letter(named(2, 0), named(1, 0), named(1, 1), "x")
	gone := impl.Doc{Items: []impl.Item{abc.Items[0], erased(x), abc.Items[1], abc.Items[2]}}
	sameDoc(t, "both at once", heard(t, abc, lost(sent(x), x.Id)), gone)
	sameDoc(t, "first gone", heard(t, heard(t, abc, lost(sent(), x.Id)), sent(x)), gone)
	sameDoc(t, "first there", heard(t, heard(t, abc, sent(x)), lost(sent(), x.Id)), gone)
	others := holed(abc, named(1, 7), named(3, 0))
	sameDoc(t, "other holes stay", heard(t, heard(t, others, lost(sent(), x.Id)), sent(x)), holed(gone, named(1, 7), named(3, 0)))
	wait := letter(named(4, 0), named(2, 0), none, "w")
	same(t, "one that waits comes behind it", impl.TextOf(heard(t, waiting(abc, wait), lost(sent(x), x.Id))), "awbc")
}

// What waits is not there yet: it stays as it is, and is a hole until it is put in.
func TestApplyGoneThatWaits(t *testing.T) {
	abc := typed(1, "abc")
	x, w := letter(named(2, 0), named(3, 0), none, "x"), letter(named(3, 0), named(1, 0), named(1, 1), "w")
	want := holed(waiting(abc, x), x.Id)
	sameDoc(t, "both at once", heard(t, abc, lost(sent(x), x.Id)), want)
	sameDoc(t, "it waited", heard(t, waiting(abc, x), lost(sent(), x.Id)), want)
	sameDoc(t, "it was a hole", heard(t, holed(abc, x.Id), sent(x)), want)
	then := heard(t, want, sent(w))
	same(t, "it is gone when it comes", impl.TextOf(then), "awbc")
	same(t, "it is there", impl.PlaceOf(then, x.Id) > 0, true)
	same(t, "and no hole", len(then.Holes), 0)
	then = heard(t, waiting(abc, x), lost(sent(w), x.Id))
	same(t, "it comes by the same update", impl.TextOf(then), "awbc")
	same(t, "it leaves no hole", len(then.Holes), 0)
}

// An update that comes twice, in part, or late comes to what it comes to at once.
func TestApplyTwiceInPartLate(t *testing.T) {
	d := impl.Insert(impl.Doc{}, 1, 0, "the text").Doc
	e := impl.Delete(impl.Insert(d, 2, 4, "whole ").Doc, 2, 4).Doc
	u := impl.DiffOf(e, impl.MarksOf(d))
	want := heard(t, d, u)
	sameDoc(t, "as it was written", want, e)
	sameDoc(t, "twice", heard(t, want, u), want)
	for i := range u.Items {
		then := heard(t, d, impl.Update{Items: u.Items[i:]})
		sameDoc(t, "in part, then all", heard(t, then, u), want)
		sameDoc(t, "in part, then the rest", heard(t, then, impl.Update{Items: u.Items[:i], Gone: u.Gone}), want)
		sameDoc(t, "in part behind all", heard(t, want, impl.Update{Items: u.Items[i:], Gone: u.Gone[:1]}), want)
	}
	late := impl.Insert(d, 3, 0, "see ").Doc
	late = heard(t, late, u)
	same(t, "late", impl.TextOf(late), "see "+impl.TextOf(want))
	sameDoc(t, "the other way", heard(t, want, impl.DiffOf(late, impl.MarksOf(want))), late)
}

// Promise 7: heard twice it is as heard once.
func TestHeardTwice(t *testing.T) {
	for what, d := range rightDocs() {
		for which, u := range rightUpdates() {
			out := impl.Apply(d, u)
			sameDocOut(t, what+", "+which, out, applySlowly(d, u))
			if out.Code == impl.OK {
				sameDocOut(t, what+", twice: "+which, impl.Apply(out.Doc, u), out)
			}
		}
	}
}

// front are so many items of one client, each ahead of all.
func front(many int) []impl.Item {
	list := lettersOf(6, many)
	for i := range list[1:] {
		list[i+1].Right = list[i].Id
	}
	return list
}

func TestApplyFullOfItems(t *testing.T) {
	d := typed(1, printed(impl.MaxItems-5))
	same(t, "as many as there may be", len(heard(t, d, sent(front(5)...)).Items), impl.MaxItems)
	sameDocOut(t, "one more", impl.Apply(d, sent(front(6)...)), docFault(impl.ErrFull))
	sameDocOut(t, "many more", impl.Apply(d, sent(front(60)...)), docFault(impl.ErrFull))
	same(t, "all in one", len(heard(t, impl.Doc{}, sent(front(60)...)).Items), impl.MaxItems)
	full := typed(1, printed(impl.MaxItems))
	sameDoc(t, "all again", heard(t, full, impl.DiffOf(full, nil)), full)
	sameDocOut(t, "gone ones count", impl.Apply(without(full, 1, 2, 3), sent(front(1)...)), docFault(impl.ErrFull))
	sameDoc(t, "one that waits is none", heard(t, full, sent(lonely(1)...)), waiting(full, lonely(1)...))
	wait := waiting(d, letter(named(7, 0), named(6, 3), none, "w"))
	same(t, "with one that waited", len(heard(t, wait, sent(front(4)...)).Items), impl.MaxItems)
	sameDocOut(t, "one that waited is one more", impl.Apply(wait, sent(front(5)...)), docFault(impl.ErrFull))
}

func TestApplyFullOfPend(t *testing.T) {
	d := waiting(typed(1, "abc"), lonely(impl.MaxPend-1)...)
	last := letter(named(5, 0), named(9999, 999999), none, "w")
	same(t, "as many as there may be", len(heard(t, d, sent(last)).Pend), impl.MaxPend)
	sameDocOut(t, "one more", impl.Apply(d, sent(letter(named(4, 7), none, none, "w"), last)), docFault(impl.ErrFull))
	same(t, "all at once", len(heard(t, impl.Doc{}, sent(lonely(20)...)).Pend), impl.MaxPend)
	sameDocOut(t, "all at once, and one more", impl.Apply(impl.Doc{}, sent(lonely(21)...)), docFault(impl.ErrFull))
	// What becomes ready waits no more, how much of it there is.
	most := waiting(typed(1, "abc"), lonely(impl.MaxPend)...)
	then := heard(t, most, sent(front(57)...))
	same(t, "all come", []int{len(then.Items), len(then.Pend)}, []int{60, 20})
	sameDocOut(t, "one does not", impl.Apply(most, sent(append(front(9), last)...)), docFault(impl.ErrFull))
	sameDoc(t, "what waits again", heard(t, most, sent(most.Pend...)), most)
	waits := waiting(typed(1, "abc"), append(lonely(19), letter(named(7, 0), named(6, 0), none, "w"))...)
	same(t, "one comes, one waits", len(heard(t, waits, sent(append(front(1), last)...)).Pend), impl.MaxPend)
}

func TestApplyFullOfHoles(t *testing.T) {
	d := holed(typed(1, "abc"), idsUpTo(impl.MaxPend-1)...)
	same(t, "as many as there may be", len(heard(t, d, lost(sent(), named(6, 0))).Holes), impl.MaxPend)
	sameDocOut(t, "one more", impl.Apply(d, lost(sent(), named(6, 0), named(6, 1))), docFault(impl.ErrFull))
	same(t, "all at once", len(heard(t, impl.Doc{}, lost(sent(), idsUpTo(20)...)).Holes), impl.MaxPend)
	sameDocOut(t, "all at once, and one more", impl.Apply(impl.Doc{}, lost(sent(), idsUpTo(21)...)), docFault(impl.ErrFull))
	// What comes is no hole any more, how much of it there is.
	most := holed(typed(1, "abc"), idsUpTo(impl.MaxPend)...)
	u := lost(sent(front(57)...), namesOf(front(57))...)
	then := heard(t, most, lost(u, most.Holes...))
	same(t, "all come, and are gone", []any{len(then.Items), len(then.Holes), impl.TextOf(then)}, []any{60, 20, "abc"})
	sameDocOut(t, "one does not come", impl.Apply(most, lost(u, named(6, 57))), docFault(impl.ErrFull))
	sameDoc(t, "holes again", heard(t, most, lost(sent(), most.Holes...)), most)
	sameDoc(t, "what is there is none", heard(t, most, lost(sent(), named(1, 0), named(1, 1))), without(most, 0, 1))
}

// Beside a code, there is no doc; ahead of all it is looked whether both are right.
func TestApplyWrong(t *testing.T) {
	overfull := lost(sent(front(60)...), idsUpTo(20)...)
	for what, d := range wrongDocs() {
		for which, u := range map[string]impl.Update{"nothing": {}, "items": sent(front(3)...), "too much": overfull} {
			sameDocOut(t, what+", "+which, impl.Apply(d, u), docFault(impl.ErrForm))
		}
	}
	most := rightDocs()["the most of all"]
	sameDocOut(t, "too much", impl.Apply(most, overfull), docFault(impl.ErrFull))
	for what, u := range wrongUpdates() {
		for which, d := range map[string]impl.Doc{"nothing": {}, "a doc": handed(), "the most": most, "not right": wrongDocs()["a hole twice"]} {
			sameDocOut(t, which+", "+what, impl.Apply(d, u), docFault(impl.ErrForm))
		}
	}
}

// All that a doc has is handed to one who has nothing.
func TestApplyOfAll(t *testing.T) {
	for what, d := range rightDocs() {
		u := impl.DiffOf(d, nil)
		then := heard(t, impl.Doc{}, u)
		if impl.TextOf(then) == impl.TextOf(d) {
			continue
		}
		// Items that no one put in may stand in an order to which they do not come.
		same(t, fmt.Sprintf("%s: %+v", what, d), what, "clocks out of order")
	}
}
