package tests

import (
	"fmt"
	"math/rand"
	"testing"

	"loop.example/g00576/impl"
)

// The brackets between which all is written in the tests of the order.
var (
	opening = named(1, 0)
	closing = named(1, 1)
)

// bracketed are items between the brackets, in this order; ahead of them stands one of the client 8.
func bracketed(between ...impl.Item) []impl.Item {
	items := []impl.Item{letter(named(8, 0), none, none, "8"), letter(opening, none, none, "<")}
	items = append(items, between...)
	return append(items, letter(closing, opening, none, ">"))
}

// putThrough is the text when an item is put in among these. It waits until a "!" is written at the front,
// as the one ahead of it of its client, the "?", is written behind that.
func putThrough(t *testing.T, items []impl.Item, x impl.Item) string {
	t.Helper()
	clock := written(items, x.Id.Client)
	gate := letter(named(x.Id.Client, clock), named(7777, 0), items[0].Id, "?")
	x.Id.Clock = clock + 1
	out := impl.Insert(waiting(impl.Doc{Items: items}, gate, x), 7777, 0, "!")
	same(t, "the code", out.Code, int64(impl.OK))
	same(t, "what waits still", len(out.Doc.Pend), 0)
	return impl.TextOf(out.Doc)
}

// orderCase is what stands between the brackets, and the text when an x of the client 5 has come there.
type orderCase struct {
	between []impl.Item
	text    string
}

// besideOthers are cases in which each item says at once where the x comes.
func besideOthers() map[string]orderCase {
	at := func(client int64, char string) impl.Item { return letter(named(client, 0), opening, closing, char) }
	a3, b4, c6, d9 := at(3, "a"), at(4, "b"), at(6, "c"), at(9, "d")
	return map[string]orderCase{
		"nothing there":                  {nil, "<x>"},
		"a lower client":                 {[]impl.Item{b4}, "<bx>"},
		"a higher client":                {[]impl.Item{c6}, "<xc>"},
		"the same client":                {[]impl.Item{at(5, "s")}, "<sx>"},
		"two lower":                      {[]impl.Item{a3, b4}, "<abx>"},
		"two higher":                     {[]impl.Item{c6, d9}, "<xcd>"},
		"in between":                     {[]impl.Item{a3, d9}, "<axd>"},
		"a higher one ahead of a lower":  {[]impl.Item{c6, b4}, "<xcb>"},
		"a lower one that is gone":       {[]impl.Item{erased(b4)}, "<x>"},
		"behind the lower one's word":    {[]impl.Item{b4, letter(named(4, 1), b4.Id, closing, "e")}, "<bex>"},
		"ahead of the higher one's word": {[]impl.Item{c6, letter(named(6, 1), c6.Id, closing, "e")}, "<xce>"},
		"behind a higher one's answer":   {[]impl.Item{b4, letter(named(9, 0), b4.Id, closing, "e")}, "<bex>"},
		"behind an answer, ahead of one": {[]impl.Item{b4, letter(named(9, 0), b4.Id, closing, "e"), c6}, "<bexc>"},
		"its right is further":           {[]impl.Item{letter(named(9, 0), opening, none, "f")}, "<fx>"},
		"right further, then higher":     {[]impl.Item{letter(named(9, 0), opening, none, "f"), c6}, "<fxc>"},
		"its left is further ahead":      {[]impl.Item{letter(named(2, 0), named(8, 0), closing, "g")}, "<xg>"},
		"it has no left":                 {[]impl.Item{letter(named(2, 0), none, closing, "g")}, "<xg>"},
		"a lower one, then no left":      {[]impl.Item{b4, letter(named(2, 0), none, none, "g"), at(3, "a")}, "<bxga>"},
	}
}

// notSure are cases in which an item was written ahead of another one that stands there.
func notSure() map[string]orderCase {
	at := func(client int64, right impl.Id, char string) impl.Item {
		return letter(named(client, 0), opening, right, char)
	}
	ahead := at(2, named(6, 0), "a")
	return map[string]orderCase{
		"then a higher client":          {[]impl.Item{ahead, at(6, closing, "b")}, "<xab>"},
		"then the same client":          {[]impl.Item{at(2, named(5, 0), "a"), at(5, closing, "b")}, "<abx>"},
		"then a lower client":           {[]impl.Item{at(2, named(4, 0), "a"), at(4, closing, "b")}, "<abx>"},
		"of a higher one, then lower":   {[]impl.Item{at(9, named(4, 0), "a"), at(4, closing, "b")}, "<abx>"},
		"then one that stays so":        {[]impl.Item{at(2, named(3, 0), "a"), at(3, named(6, 0), "b"), at(6, closing, "c")}, "<xabc>"},
		"stays so, then lower":          {[]impl.Item{at(2, named(3, 0), "a"), at(3, named(4, 0), "b"), at(4, closing, "c")}, "<abcx>"},
		"then an answer, then lower":    {[]impl.Item{at(2, named(4, 0), "a"), letter(named(9, 0), named(2, 0), none, "b"), at(4, closing, "c")}, "<abcx>"},
		"then an answer, then higher":   {[]impl.Item{ahead, letter(named(9, 0), named(2, 0), none, "b"), at(6, closing, "c")}, "<xabc>"},
		"then an answer to the end":     {[]impl.Item{at(2, named(9, 0), "a"), letter(named(9, 0), named(2, 0), closing, "b")}, "<xab>"},
		"then a further right":          {[]impl.Item{ahead, letter(named(6, 0), opening, none, "b")}, "<abx>"},
		"then a further left":           {[]impl.Item{ahead, letter(named(6, 0), named(8, 0), none, "b")}, "<xab>"},
		"then no left":                  {[]impl.Item{ahead, letter(named(6, 0), none, none, "b")}, "<xab>"},
		"behind a lower one":            {[]impl.Item{at(3, closing, "l"), ahead, at(6, closing, "b")}, "<lxab>"},
		"sure, and then not sure":       {[]impl.Item{at(2, named(4, 0), "a"), at(4, closing, "b"), at(3, named(6, 0), "c"), at(6, closing, "d")}, "<abxcd>"},
		"sure, not sure, and to an end": {[]impl.Item{at(2, named(4, 0), "a"), at(4, closing, "b"), at(3, named(6, 0), "c"), letter(named(6, 0), named(3, 0), none, "d")}, "<abxcd>"},
	}
}

func TestOrderAmongOthers(t *testing.T) {
	for what, c := range besideOthers() {
		same(t, what, putThrough(t, bracketed(c.between...), letter(named(5, 0), opening, closing, "x")), "!?8"+c.text)
	}
	for what, c := range notSure() {
		same(t, "not sure, "+what, putThrough(t, bracketed(c.between...), letter(named(5, 0), opening, closing, "x")), "!?8"+c.text)
	}
}

// Without a Right it is looked up to the end of all.
func TestOrderToTheEnd(t *testing.T) {
	x := letter(named(5, 0), opening, none, "x")
	at := func(client int64, char string) impl.Item { return letter(named(client, 0), opening, none, char) }
	items := bracketed()[:2]
	same(t, "nothing behind", putThrough(t, items, x), "!?8<x")
	same(t, "a lower one behind", putThrough(t, append(items, at(4, "a")), x), "!?8<ax")
	same(t, "a higher one behind", putThrough(t, append(items, at(6, "a")), x), "!?8<xa")
	same(t, "the bracket is of a lower one", putThrough(t, bracketed(), x), "!?8<>x")
	same(t, "one ahead of the bracket", putThrough(t, bracketed(letter(named(9, 0), opening, closing, "a")), x), "!?8<a>x")
}

// Without a Left it is looked from the front on, as here by those that wait for a text's first letter.
func TestOrderFromTheFront(t *testing.T) {
	right := named(9, 1)
	wait := func(client int64, char string) impl.Item { return letter(named(client, 0), none, right, char) }
	out := impl.Insert(waiting(impl.Doc{}, wait(4, "b"), wait(2, "a"), wait(6, "c")), 9, 0, "()")
	same(t, "behind the bracket, whose right is further", impl.TextOf(out.Doc), "(abc)")
	right = named(9, 0)
	out = impl.Insert(waiting(impl.Doc{}, wait(4, "b"), wait(2, "a"), wait(6, "c")), 9, 0, "()")
	same(t, "ahead of the bracket", impl.TextOf(out.Doc), "abc()")
	out = impl.Insert(waiting(impl.Doc{}, letter(named(2, 0), none, named(1, 0), "a"), wait(3, "b")), 1, 0, "-")
	same(t, "one waits still", impl.TextOf(out.Doc), "a-")
}

// oneBehindTheOther is a doc in which both gates are written, in this order or that, so that first one
// and then the other client's items are put in.
func oneBehindTheOther(t *testing.T, d impl.Doc, frontFirst bool) impl.Doc {
	t.Helper()
	for i := range 2 {
		client, at := int64(80), int64(0)
		if frontFirst != (i == 0) {
			client, at = 81, int64(len(impl.TextOf(d)))
		}
		out := impl.Insert(d, client, at, "|")
		same(t, "the code", out.Code, int64(impl.OK))
		d = out.Doc
	}
	same(t, "what waits still", len(d.Pend), 0)
	return d
}

// scribbled is a doc in which a client has written a few times, at most nine letters, none of it at an
// end of the text.
func scribbled(r *rand.Rand, d impl.Doc, client int64) impl.Doc {
	for range 1 + r.Intn(3) {
		length := int64(len(impl.TextOf(d)))
		d = impl.Insert(d, client, 1+r.Int63n(length-1), printed(9)[r.Intn(6):][:1+r.Intn(3)]).Doc
	}
	return d
}

// ofClient are the items of a client.
func ofClient(d impl.Doc, client int64) []impl.Item {
	var list []impl.Item
	for _, x := range d.Items {
		if x.Id.Client == client {
			list = append(list, x)
		}
	}
	return list
}

// Three write at once, each without the others; whichever of two is put in first, the items come to one
// order. One waits for a gate at the front, one for a gate at the end, behind which each wrote first.
func TestOrderIsOneOrder(t *testing.T) {
	r := rand.New(rand.NewSource(12))
	for range 300 {
		base := typed(50, printed(2+r.Intn(6)))
		length := int64(len(base.Items))
		order := r.Perm(3)
		clients := [3]int64{int64(20 + order[0]), int64(20 + order[1]), int64(20 + order[2])}
		front := impl.Insert(impl.Insert(base, 80, 0, "|").Doc, clients[0], 0, "f").Doc
		back := impl.Insert(impl.Insert(base, 81, length, "|").Doc, clients[1], length+1, "b").Doc
		pend := append(ofClient(scribbled(r, front, clients[0]), clients[0]), ofClient(scribbled(r, back, clients[1]), clients[1])...)
		d := waiting(scribbled(r, base, clients[2]), pend...)
		one, other := oneBehindTheOther(t, d, true), oneBehindTheOther(t, d, false)
		sameDoc(t, fmt.Sprintf("clients %v", clients), one, other)
		same(t, "all are there", len(one.Items), len(d.Items)+len(d.Pend)+2)
	}
}

// oneHearsTheOther is the text of one who wrote a word at a place, and to whom then comes what another one
// wrote there. The other one wrote an "h" first, behind a "|" that comes last, so that its word waits.
func oneHearsTheOther(base impl.Doc, at int64, one impl.Item, other impl.Item) string {
	length := int64(len(base.Items))
	seen := impl.Insert(impl.Insert(base, 81, length, "|").Doc, other.Id.Client, length+1, "h").Doc
	word := impl.Insert(seen, other.Id.Client, at, other.Char).Doc
	d := impl.Insert(base, one.Id.Client, at, one.Char).Doc
	d = waiting(d, ofClient(word, other.Id.Client)...)
	return impl.TextOf(impl.Insert(d, 81, int64(len(impl.TextOf(d))), "|").Doc)
}

// Two who write at one place at once come to one text, with both words whole.
func TestTwoWordsStayWhole(t *testing.T) {
	for length := range int64(6) {
		base := typed(50, "_____"[:length])
		text := impl.TextOf(base)
		low, high := letter(named(20, 0), none, none, "low"), letter(named(30, 0), none, none, "HIGH")
		// At the end of all, the "|" would be a third one of those who write at one place.
		for at := range length {
			both := text[:at] + "lowHIGH" + text[at:] + "|h"
			same(t, fmt.Sprintf("at %d of %d", at, length), oneHearsTheOther(base, at, low, high), both)
			same(t, fmt.Sprintf("at %d of %d, swapped", at, length), oneHearsTheOther(base, at, high, low), both)
		}
	}
}
