package tests

import (
	"cmp"
	"math"
	"slices"
	"strings"
	"testing"

	"loop.example/g00576/impl"
)

// none is the name of no item.
var none impl.Id

func named(client int64, clock int64) impl.Id {
	return impl.Id{Client: client, Clock: clock}
}

// letter is an item that is not gone.
func letter(own impl.Id, left impl.Id, right impl.Id, char string) impl.Item {
	return impl.Item{Id: own, Left: left, Right: right, Char: char}
}

// erased is the same item, gone.
func erased(x impl.Item) impl.Item {
	x.Gone = true
	return x
}

// plainDoc has none for an empty list: they are the same.
func plainDoc(d impl.Doc) impl.Doc {
	if len(d.Items) == 0 {
		d.Items = nil
	}
	if len(d.Pend) == 0 {
		d.Pend = nil
	}
	if len(d.Holes) == 0 {
		d.Holes = nil
	}
	return d
}

func sameDoc(t *testing.T, what string, got impl.Doc, want impl.Doc) {
	t.Helper()
	same(t, what, plainDoc(got), plainDoc(want))
}

// sameDocOut looks at all fields of an answer, those too that must be zero.
func sameDocOut(t *testing.T, what string, got impl.DocOut, want impl.DocOut) {
	t.Helper()
	got.Doc, want.Doc = plainDoc(got.Doc), plainDoc(want.Doc)
	same(t, what, got, want)
}

func docFault(code int64) impl.DocOut {
	return impl.DocOut{Code: code}
}

// docTwin is the same doc, of which nothing is shared.
func docTwin(d impl.Doc) impl.Doc {
	return impl.Doc{Items: slices.Clone(d.Items), Pend: slices.Clone(d.Pend), Holes: slices.Clone(d.Holes)}
}

// placesOf is where each item stands.
func placesOf(items []impl.Item) map[impl.Id]int {
	places := map[impl.Id]int{}
	for i, x := range items {
		places[x.Id] = i
	}
	return places
}

// ends are the places of the Left and the Right of an item, and whether they are there.
func ends(items []impl.Item, x impl.Item) (int, int, bool) {
	places := placesOf(items)
	left, leftThere := places[x.Left]
	right, rightThere := places[x.Right]
	if x.Left == none {
		left, leftThere = -1, true
	}
	if x.Right == none {
		right, rightThere = len(items), true
	}
	return left, right, leftThere && rightThere
}

// written is how many items a client has.
func written(items []impl.Item, client int64) int64 {
	n := int64(0)
	for id := range placesOf(items) {
		if id.Client == client {
			n++
		}
	}
	return n
}

// mayBePut is the document's ready.
func mayBePut(items []impl.Item, x impl.Item) bool {
	left, right, there := ends(items, x)
	return there && left < right && x.Id.Clock == written(items, x.Id.Client)
}

// rightId is the document's right, of a name.
func rightId(id impl.Id) bool {
	return id.Client >= 1 && id.Client <= 9999 && id.Clock >= 0 && id.Clock <= 1000000
}

// rightItem is the document's right, of an item.
func rightItem(x impl.Item) bool {
	if !rightId(x.Id) || len(x.Char) != 1 || x.Char < " " || x.Char > "~" {
		return false
	}
	if x.Left != none && (!rightId(x.Left) || x.Left == x.Id) {
		return false
	}
	if x.Right != none && (!rightId(x.Right) || x.Right == x.Id) {
		return false
	}
	return x.Left != x.Right || x.Left == none && x.Right == none
}

// byName compares by the client, then by the clock.
func byName(a impl.Id, b impl.Id) int {
	if a.Client != b.Client {
		return cmp.Compare(a.Client, b.Client)
	}
	return cmp.Compare(a.Clock, b.Clock)
}

// rising is whether names are in order, no two alike.
func rising(ids []impl.Id) bool {
	sorted := slices.Clone(ids)
	slices.SortFunc(sorted, byName)
	return slices.Equal(ids, slices.Compact(sorted))
}

func namesOf(items []impl.Item) []impl.Id {
	var ids []impl.Id
	for _, x := range items {
		ids = append(ids, x.Id)
	}
	return ids
}

// rightDoc is the document's right, of a doc, looked at sentence by sentence.
func rightDoc(d impl.Doc) bool {
	places := placesOf(d.Items)
	if len(d.Items) > 60 || len(d.Pend) > 20 || len(d.Holes) > 20 || len(places) != len(d.Items) {
		return false
	}
	for i, x := range d.Items {
		left, right, there := ends(d.Items, x)
		if !rightItem(x) || !there || left >= i || right <= i {
			return false
		}
		for clock := range x.Id.Clock {
			if _, ok := places[named(x.Id.Client, clock)]; !ok {
				return false
			}
		}
	}
	for _, x := range d.Pend {
		if _, ok := places[x.Id]; ok || !rightItem(x) || mayBePut(d.Items, x) {
			return false
		}
	}
	for _, id := range d.Holes {
		if _, ok := places[id]; ok || !rightId(id) {
			return false
		}
	}
	return rising(namesOf(d.Pend)) && rising(d.Holes)
}

// textIn is the text of items.
func textIn(items []impl.Item) string {
	var text strings.Builder
	for _, x := range items {
		if !x.Gone {
			text.WriteString(x.Char)
		}
	}
	return text.String()
}

// comesTo is the place to which an item that is ready comes, looked for as the document tells it.
func comesTo(items []impl.Item, x impl.Item) int {
	l, r, _ := ends(items, x)
	place, sure := l, true
	for at := l + 1; ; at++ {
		if sure {
			place = at
		}
		if at == r {
			return place
		}
		ol, or, _ := ends(items, items[at])
		if ol < l || ol == l && or == r && items[at].Id.Client > x.Id.Client {
			return place
		}
		if ol == l {
			sure = or >= r
		}
	}
}

// putInSlowly puts in an item that is ready.
func putInSlowly(d impl.Doc, x impl.Item) impl.Doc {
	at := comesTo(d.Items, x)
	var holes []impl.Id
	for _, id := range d.Holes {
		if id == x.Id {
			x.Gone = true
		} else {
			holes = append(holes, id)
		}
	}
	items := append(slices.Clone(d.Items[:at]), x)
	return impl.Doc{Items: append(items, d.Items[at:]...), Pend: d.Pend, Holes: holes}
}

// settledDoc puts in what waits, as long as one is ready.
func settledDoc(d impl.Doc) impl.Doc {
	for i, x := range d.Pend {
		if mayBePut(d.Items, x) {
			d.Pend = append(slices.Clone(d.Pend[:i]), d.Pend[i+1:]...)
			return settledDoc(putInSlowly(d, x))
		}
	}
	return d
}

// insertSlowly is what Insert is to answer.
func insertSlowly(d impl.Doc, client int64, at int64, text string) impl.DocOut {
	if len(text) > 8000 {
		return docFault(impl.ErrSize)
	}
	if !rightDoc(d) || client < 1 || client > 9999 || len(text) < 1 || len(text) > 60 {
		return docFault(impl.ErrForm)
	}
	if strings.ContainsFunc(text, func(c rune) bool { return c < ' ' || c > '~' }) {
		return docFault(impl.ErrForm)
	}
	if at < 0 || at > int64(len(textIn(d.Items))) {
		return docFault(impl.ErrRange)
	}
	for _, x := range d.Pend {
		if x.Id.Client == client {
			return docFault(impl.ErrThere)
		}
	}
	if len(d.Items)+len(text) > 60 {
		return docFault(impl.ErrFull)
	}
	d = settledDoc(writtenSlowly(d, client, at, text))
	if len(d.Items) > 60 {
		return docFault(impl.ErrFull)
	}
	return impl.DocOut{Doc: d}
}

// writtenSlowly puts in the bytes of a text, and leaves what waits.
func writtenSlowly(d impl.Doc, client int64, at int64, text string) impl.Doc {
	behind := 0
	for ahead := at; ahead > 0; behind++ {
		if !d.Items[behind].Gone {
			ahead--
		}
	}
	x := impl.Item{}
	if behind > 0 {
		x.Left = d.Items[behind-1].Id
	}
	if behind < len(d.Items) {
		x.Right = d.Items[behind].Id
	}
	for i := range len(text) {
		x.Id, x.Char = named(client, written(d.Items, client)), text[i:i+1]
		d = putInSlowly(d, x)
		x.Left = x.Id
	}
	return d
}

// deleteSlowly is what Delete is to answer.
func deleteSlowly(d impl.Doc, at int64, many int64) impl.DocOut {
	if !rightDoc(d) || many < 1 || many > 60 {
		return docFault(impl.ErrForm)
	}
	length := int64(len(textIn(d.Items)))
	if at < 0 || at > length || many > length-at {
		return docFault(impl.ErrRange)
	}
	d = docTwin(d)
	char := int64(0)
	for i, x := range d.Items {
		if !x.Gone {
			d.Items[i].Gone = char >= at && char < at+many
			char++
		}
	}
	return impl.DocOut{Doc: d}
}

// typed is a doc into which a text was typed by one client, one letter behind the other.
func typed(client int64, text string) impl.Doc {
	var d impl.Doc
	for i := range len(text) {
		x := letter(named(client, int64(i)), none, none, text[i:i+1])
		if i > 0 {
			x.Left = named(client, int64(i-1))
		}
		d.Items = append(d.Items, x)
	}
	return d
}

// waiting is the same doc, in which these wait too, in order.
func waiting(d impl.Doc, pend ...impl.Item) impl.Doc {
	d = docTwin(d)
	d.Pend = append(d.Pend, pend...)
	slices.SortFunc(d.Pend, func(a, b impl.Item) int { return byName(a.Id, b.Id) })
	return d
}

// holed is the same doc with these holes too, in order.
func holed(d impl.Doc, holes ...impl.Id) impl.Doc {
	d = docTwin(d)
	d.Holes = append(d.Holes, holes...)
	slices.SortFunc(d.Holes, byName)
	return d
}

// without is the same doc, of which the items at these places are gone.
func without(d impl.Doc, places ...int) impl.Doc {
	d = docTwin(d)
	for _, place := range places {
		d.Items[place].Gone = true
	}
	return d
}

// printed is a text of n bytes that may be written.
func printed(n int) string {
	b := []byte(mixed(n))
	for i := range b {
		b[i] = ' ' + b[i]%95
	}
	return string(b)
}

// lonely are so many items that wait for an item that nobody has.
func lonely(many int) []impl.Item {
	var pend []impl.Item
	for i := range many {
		pend = append(pend, letter(named(int64(100+i), 0), named(9999, 1000000), none, "w"))
	}
	return pend
}

// idsUpTo are so many names.
func idsUpTo(many int) []impl.Id {
	var ids []impl.Id
	for i := range many {
		ids = append(ids, named(int64(200+i), int64(i)))
	}
	return ids
}

// rightDocs are right ones, up to the limits.
func rightDocs() map[string]impl.Doc {
	abc := typed(1, "abc")
	two := impl.Doc{Items: []impl.Item{
		letter(named(2, 1), none, named(9999, 0), "B"),
		letter(named(9999, 0), none, named(2, 0), "Z"),
		letter(named(2, 0), named(2, 1), none, "A"),
	}}
	most := typed(7, printed(impl.MaxItems))
	return map[string]impl.Doc{
		"empty":                      {},
		"empty lists":                {Items: []impl.Item{}, Pend: []impl.Item{}, Holes: []impl.Id{}},
		"a letter":                   typed(1, "a"),
		"three letters":              abc,
		"the first and the last":     typed(9999, " ~"),
		"clocks out of order":        two,
		"all gone":                   without(abc, 0, 1, 2),
		"the middle gone":            without(abc, 1),
		"both ends gone":             without(abc, 0, 2),
		"the most items":             most,
		"the most items, some gone":  without(most, 0, 1, 7, 30, 59),
		"the most pend":              waiting(abc, lonely(impl.MaxPend)...),
		"the most holes":             holed(abc, idsUpTo(impl.MaxPend)...),
		"the most of all":            holed(waiting(most, lonely(impl.MaxPend)...), idsUpTo(impl.MaxPend)...),
		"pend alone":                 waiting(impl.Doc{}, lonely(1)...),
		"pend of the latest clock":   waiting(impl.Doc{}, letter(named(9999, impl.MaxTime), none, none, "z")),
		"pend for itself to begin":   waiting(abc, letter(named(5, 1), none, none, "x")),
		"pend for its own client":    waiting(abc, letter(named(1, 4), none, none, "x")),
		"pend for its left":          waiting(abc, letter(named(2, 0), named(1, 3), none, "x")),
		"pend for its right":         waiting(abc, letter(named(2, 0), named(1, 0), named(3, 0), "x")),
		"pend, its sides turned":     waiting(abc, letter(named(2, 0), named(1, 2), named(1, 1), "x")),
		"pend, for one that pends":   waiting(abc, letter(named(2, 0), named(3, 0), none, "x"), letter(named(3, 0), named(2, 0), none, "y")),
		"pend that is gone":          waiting(abc, erased(lonely(1)[0])),
		"pend of clocks in a row":    waiting(abc, letter(named(2, 1), none, none, "x"), letter(named(2, 2), none, none, "y"), letter(named(3, 1), none, none, "z")),
		"a hole of one that pends":   holed(waiting(abc, lonely(1)...), named(100, 0)),
		"a hole of the next one":     holed(abc, named(1, 3)),
		"holes at both ends":         holed(abc, named(1, impl.MaxTime), named(9999, 0), named(9999, impl.MaxTime)),
		"holes of clocks in a row":   holed(abc, named(4, 0), named(4, 1), named(5, 0)),
		"holes without items":        holed(impl.Doc{}, named(1, 0)),
		"written between two others": {Items: []impl.Item{letter(named(1, 0), none, none, "("), letter(named(2, 0), named(1, 0), named(1, 1), "-"), letter(named(1, 1), named(1, 0), none, ")")}},
	}
}

// wrongDocs are not right, each for one thing.
func wrongDocs() map[string]impl.Doc {
	abc := typed(1, "abc")
	with := func(place int, x impl.Item) impl.Doc {
		d := docTwin(abc)
		d.Items[place] = x
		return d
	}
	list := map[string]impl.Doc{
		"an item too many":           typed(1, printed(impl.MaxItems+1)),
		"more items than in a list":  typed(1, printed(impl.MaxList+1)),
		"two of one name":            {Items: []impl.Item{letter(named(1, 0), none, none, "a"), letter(named(1, 0), none, none, "b")}},
		"two of one name, one gone":  {Items: []impl.Item{letter(named(1, 0), none, none, "a"), erased(letter(named(1, 0), none, none, "a"))}},
		"no clock 0":                 {Items: []impl.Item{letter(named(1, 1), none, none, "a")}},
		"a gap in the clocks":        with(2, letter(named(1, 3), named(1, 1), none, "c")),
		"a gap of another client":    with(2, letter(named(2, 1), named(1, 1), none, "c")),
		"left is not there":          with(1, letter(named(1, 1), named(1, 7), none, "b")),
		"left stands behind":         with(1, letter(named(1, 1), named(1, 2), none, "b")),
		"left of the first behind":   with(0, letter(named(1, 0), named(1, 1), none, "a")),
		"right is not there":         with(1, letter(named(1, 1), named(1, 0), named(4, 0), "b")),
		"right stands ahead":         with(1, letter(named(1, 1), none, named(1, 0), "b")),
		"right of the last ahead":    with(2, letter(named(1, 2), none, named(1, 1), "c")),
		"left only waits":            waiting(with(2, letter(named(1, 2), named(100, 0), none, "c")), lonely(1)...),
		"one pend too many":          waiting(abc, lonely(impl.MaxPend+1)...),
		"more pend than in a list":   waiting(abc, lonely(impl.MaxList+1)...),
		"pend is ready":              waiting(abc, letter(named(2, 0), none, none, "x")),
		"pend is ready behind":       waiting(abc, letter(named(1, 3), named(1, 2), none, "x")),
		"pend is ready ahead":        waiting(abc, letter(named(3, 0), none, named(1, 0), "x")),
		"pend is ready between":      waiting(abc, letter(named(3, 0), named(1, 0), named(1, 2), "x")),
		"pend is ready, and gone":    waiting(abc, erased(letter(named(2, 0), none, none, "x"))),
		"the last pend is ready":     waiting(abc, append(lonely(2), letter(named(9999, 0), none, none, "x"))...),
		"pend is an item":            waiting(abc, abc.Items[1]),
		"pend has an item's name":    waiting(abc, letter(named(1, 0), none, named(7, 7), "x")),
		"pend twice":                 waiting(abc, append(lonely(2), lonely(1)...)...),
		"pend twice, one gone":       waiting(abc, lonely(1)[0], erased(lonely(1)[0])),
		"pend falls by client":       {Pend: []impl.Item{lonely(2)[1], lonely(2)[0]}},
		"pend falls by clock":        {Pend: []impl.Item{letter(named(2, 2), none, none, "x"), letter(named(2, 1), none, none, "x")}},
		"one hole too many":          holed(abc, idsUpTo(impl.MaxPend+1)...),
		"more holes than in a list":  holed(abc, idsUpTo(impl.MaxList+1)...),
		"a hole is an item":          holed(abc, named(1, 2)),
		"a hole is an item, gone":    holed(without(abc, 0), named(1, 0)),
		"a hole twice":               holed(abc, named(4, 0), named(4, 0)),
		"holes fall by client":       {Holes: []impl.Id{named(2, 0), named(1, 5)}},
		"holes fall by clock":        {Holes: []impl.Id{named(2, 1), named(2, 0)}},
		"the last hole falls":        {Holes: []impl.Id{named(2, 1), named(4, 0), named(3, 9)}},
		"pend one too many, no hole": {Pend: lonely(impl.MaxPend + 1)},
	}
	for what, id := range wrongIds() {
		list["a hole: "+what] = impl.Doc{Items: abc.Items, Holes: []impl.Id{id}}
	}
	list["a hole that is no name"] = impl.Doc{Holes: []impl.Id{none}}
	for what, id := range map[string]impl.Id{"no name": none, "a client below 0": named(-1, 0), "a client too high": named(impl.MaxClient+1, 0)} {
		list["an item's name: "+what] = impl.Doc{Items: []impl.Item{letter(id, none, none, "a")}}
		list["the last item's name: "+what] = with(2, letter(id, named(1, 0), none, "a"))
	}
	for what, char := range wrongChars() {
		list["an item: "+what] = with(1, letter(named(1, 1), named(1, 0), none, char))
		list["an item that is gone: "+what] = with(1, erased(letter(named(1, 1), named(1, 0), none, char)))
	}
	for what, x := range wrongItems() {
		list["the only item: "+what] = impl.Doc{Items: []impl.Item{x}}
		list["pend: "+what] = impl.Doc{Items: abc.Items, Pend: []impl.Item{x}}
	}
	return list
}

// wrongIds are not right, and not no name.
func wrongIds() map[string]impl.Id {
	return map[string]impl.Id{
		"client 0":              named(0, 1),
		"a client below 0":      named(-1, 0),
		"a client too high":     named(impl.MaxClient+1, 0),
		"a client far below":    named(math.MinInt64, 0),
		"the highest client":    named(math.MaxInt64, 0),
		"client 2 to the 32nd":  named(1<<32, 0),
		"a clock below 0":       named(1, -1),
		"a clock too late":      named(1, impl.MaxTime+1),
		"a clock far below":     named(1, math.MinInt64),
		"the highest clock":     named(1, math.MaxInt64),
		"no client, below 0":    named(0, -1),
		"no client, and a time": named(0, impl.MaxTime),
	}
}

// wrongItems are not right, each for one thing, and would not be ready if they were.
func wrongItems() map[string]impl.Item {
	own, left, right := named(50, 3), named(51, 0), named(52, 0)
	list := map[string]impl.Item{
		"nothing":               {},
		"no name":               letter(none, left, right, "x"),
		"left is itself":        letter(own, own, right, "x"),
		"right is itself":       letter(own, left, own, "x"),
		"left itself, no right": letter(own, own, none, "x"),
		"right itself, no left": letter(own, none, own, "x"),
		"both are itself":       letter(own, own, own, "x"),
		"both are the same":     letter(own, left, left, "x"),
	}
	for what, char := range wrongChars() {
		list[what] = letter(own, left, right, char)
	}
	for what, id := range wrongIds() {
		list["its name: "+what] = letter(id, left, right, "x")
		list["left: "+what] = letter(own, id, right, "x")
		list["right: "+what] = letter(own, left, id, "x")
		list["left, no right: "+what] = letter(own, id, none, "x")
		list["both: "+what] = letter(own, id, id, "x")
	}
	return list
}

// wrongChars are not one byte that may be written.
func wrongChars() map[string]string {
	return map[string]string{
		"no character":          "",
		"two characters":        "xy",
		"a long one":            mixed(impl.MaxBytes + 1),
		"a letter of two bytes": "\u00e9",
		"below a blank":         "\x1f",
		"above a tilde":         "\x7f",
		"the byte 0":            "\x00",
		"the byte 160":          "\xa0",
		"the byte 255":          "\xff",
	}
}
