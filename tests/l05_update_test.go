package tests

import (
	"fmt"
	"math"
	"math/rand"
	"testing"

	"loop.example/g00576/impl"
)

func TestMarksOf(t *testing.T) {
	two := rightDocs()["clocks out of order"]
	sameMarks(t, "two clients", impl.MarksOf(two), []impl.Mark{{Client: 2, Next: 2}, {Client: 9999, Next: 1}})
	sameMarks(t, "what is gone counts", impl.MarksOf(without(two, 0, 1, 2)), []impl.Mark{{Client: 2, Next: 2}, {Client: 9999, Next: 1}})
	sameMarks(t, "what waits, and holes, do not", impl.MarksOf(holed(waiting(two, lonely(3)...), named(2, 2), named(3, 0))), []impl.Mark{{Client: 2, Next: 2}, {Client: 9999, Next: 1}})
	sameMarks(t, "nothing is there", impl.MarksOf(impl.Doc{}), nil)
	most := impl.Doc{Items: lonely(impl.MaxItems)}
	for i := range most.Items {
		most.Items[i].Left = none
	}
	same(t, "so many clients", len(impl.MarksOf(most)), impl.MaxItems)
	sameMarks(t, "one of each client", impl.MarksOf(most), marksSlowly(most))
	for what, d := range rightDocs() {
		sameMarks(t, what, impl.MarksOf(d), marksSlowly(d))
		same(t, what+": they are right", impl.MarksRight(impl.MarksOf(d)), true)
	}
	for what, d := range wrongDocs() {
		sameMarks(t, what, impl.MarksOf(d), nil)
	}
}

func TestMarksRight(t *testing.T) {
	for what, l := range rightMarkLists() {
		same(t, what, impl.MarksRight(l), true)
		same(t, what+", by the document", rightMarks(l), true)
	}
	for what, l := range wrongMarkLists() {
		same(t, what, impl.MarksRight(l), false)
		same(t, what+", by the document", rightMarks(l), false)
	}
}

func TestUpdateRight(t *testing.T) {
	for what, u := range rightUpdates() {
		same(t, what, impl.UpdateRight(u), true)
		same(t, what+", by the document", rightUpdate(u), true)
	}
	for what, u := range wrongUpdates() {
		same(t, what, impl.UpdateRight(u), false)
		same(t, what+", by the document", rightUpdate(u), false)
	}
}

// A doc to look at what is handed out of it: three letters of 1, the middle one gone, and two of 2.
func handed() impl.Doc {
	d := without(typed(1, "abc"), 1)
	d.Items = append(d.Items, letter(named(2, 0), named(1, 2), none, "d"), letter(named(2, 1), named(2, 0), none, "e"))
	return d
}

func TestDiffOf(t *testing.T) {
	d := handed()
	a, b, c, e := d.Items[0], d.Items[1], d.Items[2], d.Items[4]
	b.Gone = false
	for what, x := range map[string]struct {
		marks []impl.Mark
		items []impl.Item
	}{
		"no marks":                {nil, []impl.Item{a, b, c, d.Items[3], e}},
		"all of one":              {[]impl.Mark{{Client: 1, Next: 3}}, d.Items[3:]},
		"one of one":              {[]impl.Mark{{Client: 1, Next: 1}}, []impl.Item{b, c, d.Items[3], e}},
		"some of both":            {[]impl.Mark{{Client: 1, Next: 2}, {Client: 2, Next: 1}}, []impl.Item{c, e}},
		"all of both":             {[]impl.Mark{{Client: 1, Next: 3}, {Client: 2, Next: 2}}, nil},
		"more than there is":      {[]impl.Mark{{Client: 1, Next: impl.MaxTime}, {Client: 2, Next: 3}}, nil},
		"of others alone":         {[]impl.Mark{{Client: 3, Next: 9}, {Client: 9999, Next: 9}}, []impl.Item{a, b, c, d.Items[3], e}},
		"of the last among other": {[]impl.Mark{{Client: 2, Next: 2}, {Client: 3, Next: 9}}, []impl.Item{a, b, c}},
	} {
		want := impl.Update{Items: x.items, Gone: []impl.Id{named(1, 1)}}
		sameUpdate(t, what, impl.DiffOf(d, x.marks), want)
		want.Gone = []impl.Id{named(1, 1), named(1, 4), named(3, 0)}
		sameUpdate(t, what+", holes, and what waits", impl.DiffOf(holed(waiting(d, erased(lonely(1)[0])), named(1, 4), named(3, 0)), x.marks), want)
	}
}

// Items are handed out by their names, wherever they stand.
func TestDiffOfIsRising(t *testing.T) {
	d := rightDocs()["clocks out of order"]
	sameUpdate(t, "all", impl.DiffOf(d, nil), sent(d.Items...))
	sameUpdate(t, "the later ones", impl.DiffOf(d, []impl.Mark{{Client: 2, Next: 1}}), sent(d.Items[0], d.Items[1]))
	gone := []impl.Id{named(1, 9), named(2, 0), named(2, 1), named(5, 0), named(9999, 0), named(9999, 1)}
	all := holed(without(d, 0, 1, 2), gone[0], gone[3], gone[5])
	sameUpdate(t, "all are gone, and holes among them", impl.DiffOf(all, nil), lost(sent(d.Items...), gone...))
}

func TestDiffOfTheMost(t *testing.T) {
	d := holed(typed(7, printed(impl.MaxItems)), idsUpTo(impl.MaxPend)...)
	for i := range d.Items {
		d.Items[i].Gone = true
	}
	u := impl.DiffOf(d, nil)
	same(t, "items", len(u.Items), impl.MaxItems)
	same(t, "gone", len(u.Gone), impl.MaxItems+impl.MaxPend)
	same(t, "it is right", impl.UpdateRight(u), true)
	sameUpdate(t, "the most", u, diffSlowly(d, nil))
}

// With a doc or with marks that are not right, nothing is handed out.
func TestDiffOfWrong(t *testing.T) {
	for what, d := range wrongDocs() {
		sameUpdate(t, what, impl.DiffOf(d, nil), impl.Update{})
		sameUpdate(t, what+", a mark", impl.DiffOf(d, []impl.Mark{{Client: 1, Next: 1}}), impl.Update{})
	}
	for what, l := range wrongMarkLists() {
		for which, d := range map[string]impl.Doc{"a doc": handed(), "nothing": {}, "holes": holed(impl.Doc{}, named(3, 3))} {
			sameUpdate(t, which+", marks: "+what, impl.DiffOf(d, l), impl.Update{})
		}
	}
}

func TestDiffOfEachDocAndMarks(t *testing.T) {
	for what, d := range rightDocs() {
		for which, l := range rightMarkLists() {
			u := impl.DiffOf(d, l)
			sameUpdate(t, what+", marks: "+which, u, diffSlowly(d, l))
			same(t, what+", marks: "+which+": it is right", impl.UpdateRight(u), true)
		}
		sameUpdate(t, what+", its own marks", impl.DiffOf(d, impl.MarksOf(d)), impl.Update{Gone: diffSlowly(d, nil).Gone})
	}
}

// anyMarks are marks that need not be right.
func anyMarks(r *rand.Rand) []impl.Mark {
	var l []impl.Mark
	client := int64(0)
	for range r.Intn(5) {
		client += 1 + r.Int63n(2)
		l = append(l, impl.Mark{Client: client, Next: 1 + r.Int63n(5)})
	}
	if len(l) == 0 || r.Intn(6) > 0 {
		return l
	}
	i, j := r.Intn(len(l)), r.Intn(len(l))
	switch r.Intn(3) {
	case 0:
		l[i].Next = []int64{0, -1, impl.MaxTime, impl.MaxTime + 1, math.MaxInt64}[r.Intn(5)]
	case 1:
		l[i].Client = r.Int63n(4)
	case 2:
		l[i], l[j] = l[j], l[i]
	}
	return l
}

func TestDiffOfAtRandom(t *testing.T) {
	r := rand.New(rand.NewSource(20))
	count := map[bool]int{}
	for range 6000 {
		d, l := anyDoc(r, 14), anyMarks(r)
		if r.Intn(10) == 0 {
			d = turned(d, r)
		}
		sameMarks(t, shown(d), impl.MarksOf(d), marksSlowly(d))
		same(t, shown(l), impl.MarksRight(l), rightMarks(l))
		count[rightMarks(l)]++
		sameUpdate(t, fmt.Sprintf("%+v, %v", d, l), impl.DiffOf(d, l), diffSlowly(d, l))
	}
	same(t, "some are right, some are not", count[true] > 500 && count[false] > 500, true)
}
