package tests

import (
	"fmt"
	"maps"
	"math/rand"
	"slices"
	"testing"

	"loop.example/g00576/impl"
)

// wanted are names for which what waits does so, and those of holes.
func wanted(d impl.Doc) []impl.Id {
	names := slices.Clone(d.Holes)
	for _, x := range d.Pend {
		names = append(names, x.Left, x.Right, named(x.Id.Client, x.Id.Clock-1))
	}
	return names
}

// anyUpdate is a right update, of which some comes to that doc, some is there or waits, and some will wait.
func anyUpdate(r *rand.Rand, d impl.Doc) impl.Update {
	items := map[impl.Id]impl.Item{}
	seen := slices.Clone(d.Items)
	known := append(append(namesOf(d.Items), namesOf(d.Pend)...), wanted(d)...)
	for range r.Intn(14) {
		client := 1 + r.Int63n(randomClients)
		x := letter(named(client, written(seen, client)), anySide(r, seen, client), anySide(r, seen, client), string(rune('A'+r.Intn(26))))
		switch n := r.Intn(10); {
		case n == 0:
			x.Id.Clock += r.Int63n(3)
		case n < 5 && len(known) > 0:
			x.Id = known[r.Intn(len(known))]
		}
		if rightItem(x) {
			items[x.Id] = x
			seen = append(seen, x)
		}
	}
	var u impl.Update
	for _, id := range slices.SortedFunc(maps.Keys(items), byName) {
		if r.Intn(12) > 0 {
			u.Items = append(u.Items, items[id])
		}
	}
	u.Gone = anyGone(r, append(known, namesOf(seen)...))
	return u
}

// anyGone are some of these names, and some others, few or many.
func anyGone(r *rand.Rand, known []impl.Id) []impl.Id {
	for range r.Intn([]int{8, 60}[r.Intn(20)/19]) {
		known = append(known, named(1+r.Int63n(randomClients), r.Int63n(9)))
	}
	slices.SortFunc(known, byName)
	var gone []impl.Id
	often := 1 + r.Intn(8)
	for _, id := range slices.Compact(known) {
		if r.Intn(often) == 0 && rightId(id) && len(gone) < 80 {
			gone = append(gone, id)
		}
	}
	return gone
}

// turnedUpdate is the same update, in which one thing is another one, right or not.
func turnedUpdate(u impl.Update, r *rand.Rand) impl.Update {
	u = updateTwin(u)
	id := named(r.Int63n(5), r.Int63n(4)-1)
	if len(u.Items) == 0 || r.Intn(3) == 0 {
		u.Gone = slices.Insert(u.Gone, r.Intn(len(u.Gone)+1), id)
		return u
	}
	i, j := r.Intn(len(u.Items)), r.Intn(len(u.Items))
	switch r.Intn(5) {
	case 0:
		u.Items[i].Id = id
	case 1:
		u.Items[i].Left = id
	case 2:
		u.Items[i].Right = id
	case 3:
		u.Items[i], u.Items[j] = u.Items[j], u.Items[i]
	case 4:
		u.Items[i].Gone = true
	}
	return u
}

func TestUpdateRightAtRandom(t *testing.T) {
	r := rand.New(rand.NewSource(22))
	count := map[bool]int{}
	for range 5000 {
		u := anyUpdate(r, anyDoc(r, 8))
		same(t, "as it is", impl.UpdateRight(u), true)
		u = turnedUpdate(u, r)
		count[rightUpdate(u)]++
		same(t, shown(u), impl.UpdateRight(u), rightUpdate(u))
	}
	same(t, "some are right, some are not", count[true] > 800 && count[false] > 800, true)
}

// common is how many of these names are names of these items.
func common(ids []impl.Id, items []impl.Item) int {
	places := placesOf(items)
	count := 0
	for _, id := range ids {
		if _, ok := places[id]; ok {
			count++
		}
	}
	return count
}

// Apply of random docs and updates, right or wrong, and promise 7: twice it is as once.
func TestApplyAtRandom(t *testing.T) {
	r := rand.New(rand.NewSource(23))
	codes, put, settled, stuck, punched := map[int64]int{}, 0, 0, 0, 0
	for range 12000 {
		d := anyDoc(r, 14)
		if r.Intn(20) == 0 {
			d = impl.Doc{Items: anyItems(r, 50+r.Intn(11))}
		}
		u := anyUpdate(r, d)
		switch r.Intn(20) {
		case 0:
			d = turned(d, r)
		case 1:
			u = turnedUpdate(u, r)
		}
		want := applySlowly(d, u)
		got := impl.Apply(d, u)
		sameDocOut(t, fmt.Sprintf("%+v, %+v", d, u), got, want)
		codes[want.Code]++
		if want.Code == impl.OK {
			sameDocOut(t, fmt.Sprintf("twice: %+v, %+v", d, u), impl.Apply(got.Doc, u), want)
			same(t, "it is right again", rightDoc(want.Doc), true)
			put += len(want.Doc.Items) - len(d.Items)
			settled += common(namesOf(d.Pend), want.Doc.Items)
			stuck += len(want.Doc.Pend) - common(namesOf(d.Pend), want.Doc.Pend)
			punched += common(d.Holes, want.Doc.Items)
		}
	}
	for _, code := range []int64{impl.OK, impl.ErrForm, impl.ErrFull} {
		same(t, fmt.Sprintf("code %d is told often", code), codes[code] > 100, true)
	}
	same(t, "much is put in, much waits, and holes are met", put > 5000 && settled > 500 && stuck > 5000 && punched > 200, true)
}
