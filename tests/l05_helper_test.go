package tests

import (
	"encoding/binary"
	"maps"
	"math"
	"slices"
	"testing"

	"loop.example/g00576/impl"
)

// plainUpdate has none for an empty list: they are the same.
func plainUpdate(u impl.Update) impl.Update {
	if len(u.Items) == 0 {
		u.Items = nil
	}
	if len(u.Gone) == 0 {
		u.Gone = nil
	}
	return u
}

func sameUpdate(t *testing.T, what string, got impl.Update, want impl.Update) {
	t.Helper()
	same(t, what, plainUpdate(got), plainUpdate(want))
}

// sameUpdateOut looks at all fields of an answer, those too that must be zero.
func sameUpdateOut(t *testing.T, what string, got impl.UpdateOut, want impl.UpdateOut) {
	t.Helper()
	got.Update, want.Update = plainUpdate(got.Update), plainUpdate(want.Update)
	same(t, what, got, want)
}

func updateFault(code int64) impl.UpdateOut {
	return impl.UpdateOut{Code: code}
}

// sameMarks looks at marks, of which an empty list and none are the same.
func sameMarks(t *testing.T, what string, got []impl.Mark, want []impl.Mark) {
	t.Helper()
	same(t, what, append([]impl.Mark{}, got...), append([]impl.Mark{}, want...))
}

// updateTwin is the same update, of which nothing is shared.
func updateTwin(u impl.Update) impl.Update {
	return impl.Update{Items: slices.Clone(u.Items), Gone: slices.Clone(u.Gone)}
}

// sent is an update of these items, in order.
func sent(items ...impl.Item) impl.Update {
	u := impl.Update{Items: slices.Clone(items)}
	slices.SortFunc(u.Items, func(a, b impl.Item) int { return byName(a.Id, b.Id) })
	return u
}

// lost is the same update, in which these are gone too, in order.
func lost(u impl.Update, ids ...impl.Id) impl.Update {
	u = updateTwin(u)
	u.Gone = append(u.Gone, ids...)
	slices.SortFunc(u.Gone, byName)
	return u
}

// counted is how many items each client has.
func counted(items []impl.Item) map[int64]int64 {
	counts := map[int64]int64{}
	for _, x := range items {
		counts[x.Id.Client]++
	}
	return counts
}

// marksSlowly is what MarksOf is to answer.
func marksSlowly(d impl.Doc) []impl.Mark {
	if !rightDoc(d) {
		return nil
	}
	var marks []impl.Mark
	counts := counted(d.Items)
	for _, client := range slices.Sorted(maps.Keys(counts)) {
		marks = append(marks, impl.Mark{Client: client, Next: counts[client]})
	}
	return marks
}

// rightMarks is the document's right, of marks.
func rightMarks(l []impl.Mark) bool {
	ahead := int64(0)
	for _, m := range l {
		if m.Client <= ahead || m.Client > 9999 || m.Next < 1 || m.Next > 1000000 {
			return false
		}
		ahead = m.Client
	}
	return len(l) <= 60
}

// rightUpdate is the document's right, of an update.
func rightUpdate(u impl.Update) bool {
	for _, x := range u.Items {
		if !rightItem(x) || x.Gone {
			return false
		}
	}
	for _, id := range u.Gone {
		if !rightId(id) {
			return false
		}
	}
	return len(u.Items) <= 60 && len(u.Gone) <= 80 && rising(namesOf(u.Items)) && rising(u.Gone)
}

// diffSlowly is what DiffOf is to answer.
func diffSlowly(d impl.Doc, l []impl.Mark) impl.Update {
	if !rightDoc(d) || !rightMarks(l) {
		return impl.Update{}
	}
	has := map[int64]int64{}
	for _, m := range l {
		has[m.Client] = m.Next
	}
	var lacks []impl.Item
	gone := slices.Clone(d.Holes)
	for _, x := range d.Items {
		if x.Gone {
			gone = append(gone, x.Id)
		}
		if x.Gone = false; x.Id.Clock >= has[x.Id.Client] {
			lacks = append(lacks, x)
		}
	}
	return lost(sent(lacks...), gone...)
}

// bodySlowly are an update's bytes ahead of its seal, as the standard library puts numbers, of any update.
func bodySlowly(u impl.Update) string {
	body := varints(int64(len(u.Items)))
	for _, x := range u.Items {
		body += varints(x.Id.Client, x.Id.Clock, x.Left.Client, x.Left.Clock, x.Right.Client, x.Right.Clock, int64(len(x.Char))) + x.Char
	}
	body += varints(int64(len(u.Gone)))
	for _, id := range u.Gone {
		body += varints(id.Client, id.Clock)
	}
	return body
}

// slowReader reads numbers as the standard library does, which lets some through that are not right.
type slowReader struct {
	rest []byte
	bad  bool
}

func (s *slowReader) num() int64 {
	n, size := binary.Varint(s.rest)
	if size <= 0 {
		s.bad, s.rest = true, nil
		return 0
	}
	s.rest = s.rest[size:]
	return n
}

func (s *slowReader) char() string {
	n := s.num()
	if n < 0 || n > int64(len(s.rest)) {
		s.bad = true
		return ""
	}
	char := string(s.rest[:n])
	s.rest = s.rest[n:]
	return char
}

// updateSlowly is what UpdateRead is to answer: it is the bytes of a right one, if these are put so again.
func updateSlowly(text string) impl.UpdateOut {
	switch {
	case len(text) > 8000:
		return updateFault(impl.ErrSize)
	case len(text) < 4:
		return updateFault(impl.ErrShort)
	case sealed(text[:len(text)-4]) != text:
		return updateFault(impl.ErrSum)
	}
	s := slowReader{rest: []byte(text[:len(text)-4])}
	var u impl.Update
	for many := s.num(); many > 0 && !s.bad; many-- {
		x := impl.Item{Id: named(s.num(), s.num()), Left: named(s.num(), s.num()), Right: named(s.num(), s.num())}
		x.Char = s.char()
		u.Items = append(u.Items, x)
	}
	for many := s.num(); many > 0 && !s.bad; many-- {
		u.Gone = append(u.Gone, named(s.num(), s.num()))
	}
	if s.bad || !rightUpdate(u) || sealed(bodySlowly(u)) != text {
		return updateFault(impl.ErrSyntax)
	}
	return impl.UpdateOut{Update: u}
}

// applySlowly is what Apply is to answer.
func applySlowly(d impl.Doc, u impl.Update) impl.DocOut {
	if !rightDoc(d) || !rightUpdate(u) {
		return docFault(impl.ErrForm)
	}
	there, waits := placesOf(d.Items), placesOf(d.Pend)
	then := docTwin(d)
	for _, x := range u.Items {
		_, isThere := there[x.Id]
		_, isWaiting := waits[x.Id]
		if !isThere && !isWaiting {
			then = waiting(then, x)
		}
	}
	for _, id := range u.Gone {
		if place, ok := there[id]; ok {
			then.Items[place].Gone = true
		} else if !slices.Contains(d.Holes, id) {
			then = holed(then, id)
		}
	}
	then = settledDoc(then)
	if len(then.Items) > 60 || len(then.Pend) > 20 || len(then.Holes) > 20 {
		return docFault(impl.ErrFull)
	}
	return impl.DocOut{Doc: then}
}

// lettersOf are so many items of one client, none of which has a Left or a Right.
func lettersOf(client int64, many int) []impl.Item {
	var list []impl.Item
	for i := range many {
		list = append(list, letter(named(client, int64(i)), none, none, "l"))
	}
	return list
}

// rightUpdates are right ones, up to the limits.
func rightUpdates() map[string]impl.Update {
	last := named(impl.MaxClient, impl.MaxTime)
	list := map[string]impl.Update{
		"nothing":              {},
		"empty lists":          {Items: []impl.Item{}, Gone: []impl.Id{}},
		"the first name":       lost(sent(letter(named(1, 0), none, none, "x")), named(1, 0)),
		"the last name":        lost(sent(letter(last, none, none, "x")), last),
		"all three last names": sent(letter(named(impl.MaxClient, impl.MaxTime-2), named(impl.MaxClient, impl.MaxTime-1), last, "~")),
		"gone alone":           lost(sent(), named(4, 4)),
		"clocks in a row":      lost(sent(lettersOf(3, 4)...), named(3, 0), named(3, 1), named(3, 7)),
		"clients in a row":     lost(sent(lonely(5)...), idsUpTo(5)...),
		"a clock falls":        lost(sent(letter(named(3, 9), none, none, "x"), letter(named(4, 0), none, none, "x")), named(3, 9), named(4, 0)),
		"a left and a right":   sent(letter(named(3, 0), named(2, 0), named(2, 1), "x")),
		"one for the other":    sent(letter(named(3, 0), named(4, 0), none, " "), letter(named(4, 0), named(3, 0), none, "~")),
		"the most items":       sent(lettersOf(7, impl.MaxItems)...),
		"the most gone":        lost(sent(), idsUpTo(impl.MaxItems+impl.MaxPend)...),
		"the most of clients":  lost(sent(lonely(impl.MaxItems)...), idsUpTo(60)...),
	}
	most := impl.Update{}
	for i := range int64(impl.MaxItems) {
		own := named(impl.MaxClient, impl.MaxTime-i-2)
		most = lost(sent(append(most.Items, letter(own, named(impl.MaxClient, own.Clock+1), named(impl.MaxClient, own.Clock+2), "x"))...), most.Gone...)
	}
	for i := range int64(impl.MaxItems + impl.MaxPend) {
		most = lost(most, named(impl.MaxClient, impl.MaxTime-i))
	}
	list["the most bytes"] = most
	return list
}

// wrongUpdates are not right, each for one thing.
func wrongUpdates() map[string]impl.Update {
	abc := lettersOf(3, 3)
	list := map[string]impl.Update{
		"an item too many":          sent(lettersOf(7, impl.MaxItems+1)...),
		"more items than in a list": sent(lettersOf(7, impl.MaxList+1)...),
		"one gone too many":         lost(sent(), idsUpTo(impl.MaxItems+impl.MaxPend+1)...),
		"more gone than in a list":  lost(sent(), idsUpTo(impl.MaxList+1)...),
		"items fall by client":      {Items: []impl.Item{lonely(2)[1], lonely(2)[0]}},
		"items fall by clock":       {Items: []impl.Item{abc[1], abc[0]}},
		"the last item falls":       {Items: []impl.Item{abc[0], abc[2], abc[1]}},
		"an item twice":             {Items: []impl.Item{abc[0], abc[0]}},
		"the last item twice":       {Items: []impl.Item{abc[0], abc[1], abc[2], letter(named(3, 2), named(1, 0), none, "x")}},
		"an item is gone":           {Items: []impl.Item{erased(abc[0])}},
		"the last item is gone":     {Items: []impl.Item{abc[0], abc[1], erased(abc[2])}},
		"gone falls by client":      {Gone: []impl.Id{named(2, 0), named(1, 5)}},
		"gone falls by clock":       {Gone: []impl.Id{named(2, 1), named(2, 0)}},
		"the last gone falls":       {Gone: []impl.Id{named(2, 1), named(4, 0), named(3, 9)}},
		"one gone twice":            {Gone: []impl.Id{named(4, 0), named(4, 0)}},
		"gone is no name":           {Gone: []impl.Id{none}},
		"gone is no name, then is":  {Gone: []impl.Id{none, named(1, 0)}},
	}
	for what, id := range wrongIds() {
		list["gone: "+what] = lost(sent(abc...), id)
		list["gone among others: "+what] = lost(sent(), named(1, 0), id, named(9999, 1000000))
	}
	for what, x := range wrongItems() {
		list["the only item: "+what] = sent(x)
		list["an item among others: "+what] = sent(letter(named(1, 0), none, none, "x"), x, letter(named(9999, 1000000), none, none, "x"))
	}
	return list
}

// rightMarkLists are right marks, up to the limits.
func rightMarkLists() map[string][]impl.Mark {
	var most []impl.Mark
	for i := range int64(impl.MaxItems) {
		most = append(most, impl.Mark{Client: 100 + i, Next: 60 - i})
	}
	return map[string][]impl.Mark{
		"none":           nil,
		"an empty list":  {},
		"the lowest":     {{Client: 1, Next: 1}},
		"the highest":    {{Client: impl.MaxClient, Next: impl.MaxTime}},
		"two":            {{Client: 1, Next: 2}, {Client: 2, Next: 1}},
		"both ends":      {{Client: 1, Next: impl.MaxTime}, {Client: impl.MaxClient, Next: 1}},
		"the same nexts": {{Client: 2, Next: 2}, {Client: 4, Next: 2}, {Client: 7, Next: 2}},
		"the most":       most,
	}
}

// wrongMarkLists are not right, each for one thing.
func wrongMarkLists() map[string][]impl.Mark {
	var long []impl.Mark
	for i := range int64(impl.MaxList + 1) {
		long = append(long, impl.Mark{Client: 1 + i, Next: 1})
	}
	list := map[string][]impl.Mark{
		"one too many":         long[:impl.MaxItems+1],
		"as long as a list":    long[:impl.MaxList],
		"longer than a list":   long,
		"falling":              {{Client: 2, Next: 1}, {Client: 1, Next: 2}},
		"the last one falls":   {{Client: 1, Next: 1}, {Client: 5, Next: 1}, {Client: 4, Next: 9}},
		"a client twice":       {{Client: 2, Next: 1}, {Client: 2, Next: 2}},
		"a mark twice":         {{Client: 1, Next: 1}, {Client: 2, Next: 3}, {Client: 2, Next: 3}},
		"nothing in it":        {{}},
		"nothing in the first": {{}, {Client: 1, Next: 1}},
	}
	for _, n := range []int64{math.MinInt64, -1, 0, impl.MaxClient + 1, 1<<32 + 1, math.MaxInt64} {
		list["the client "+shown(n)] = []impl.Mark{{Client: n, Next: 1}}
	}
	for _, n := range []int64{math.MinInt64, -1, 0, impl.MaxTime + 1, 1<<32 + 1, math.MaxInt64} {
		list["the next "+shown(n)] = []impl.Mark{{Client: 1, Next: n}}
		list["the last next "+shown(n)] = []impl.Mark{{Client: 1, Next: 1}, {Client: 2, Next: n}}
	}
	list["the last client too high"] = []impl.Mark{{Client: 1, Next: 1}, {Client: impl.MaxClient + 1, Next: 1}}
	return list
}
