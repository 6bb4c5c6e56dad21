package tests

import (
	"fmt"
	"math/rand"
	"testing"

	"loop.example/g00576/impl"
)

// randomClients is how many clients the random docs have at most.
const randomClients = 6

// anyItems are so many items that may stand so, in an order in which they need not have been put in.
// Few items are the Left or the Right of many, so that many were written at one place.
func anyItems(r *rand.Rand, many int) []impl.Item {
	clients := 1 + r.Int63n(randomClients)
	items := make([]impl.Item, many)
	counts := map[int64]int64{}
	for _, i := range r.Perm(many) {
		client := 1 + r.Int63n(clients)
		items[i] = letter(named(client, counts[client]), none, none, string(rune('a'+r.Intn(26))))
		items[i].Gone = r.Intn(4) == 0
		counts[client]++
	}
	reach := 1 + r.Intn(many+1)
	for i := range items {
		if left := r.Intn(reach) - 1; left >= 0 && left < i {
			items[i].Left = items[left].Id
		}
		if right := many - r.Intn(reach); right < many && right > i {
			items[i].Right = items[right].Id
		}
	}
	return items
}

// anySide is a name that may be a Left or a Right of one that waits until the writer has written.
func anySide(r *rand.Rand, items []impl.Item, writer int64) impl.Id {
	switch n := r.Intn(12); {
	case n < 4 && len(items) > 0:
		return items[r.Intn(len(items))].Id
	case n < 5:
		return named(1+r.Int63n(randomClients), r.Int63n(6))
	case n < 8:
		return named(writer, written(items, writer)+r.Int63n(4))
	}
	return none
}

// anyDoc is a right doc of at most so many items, with what waits, and with holes.
func anyDoc(r *rand.Rand, most int) impl.Doc {
	return anyDocFor(r, most, 1+r.Int63n(randomClients))
}

// anyDocFor is one in which much waits for what the writer is to write, and some of that is a hole.
func anyDocFor(r *rand.Rand, most int, writer int64) impl.Doc {
	d := impl.Doc{Items: anyItems(r, r.Intn(most+1))}
	for range r.Intn(25) {
		client := 1 + r.Int63n(randomClients)
		if client == writer && r.Intn(12) > 0 {
			continue
		}
		x := letter(named(client, written(d.Items, client)+r.Int63n(4)), anySide(r, d.Items, writer), anySide(r, d.Items, writer), string(rune('A'+r.Intn(26))))
		x.Gone = r.Intn(4) == 0
		if more := waiting(d, x); rightDoc(more) {
			d = more
		}
	}
	for range r.Intn(6) {
		client := 1 + r.Int63n(randomClients)
		if more := holed(d, named(client, written(d.Items, client)+r.Int63n(4))); rightDoc(more) {
			d = more
		}
	}
	return d
}

// Insert of random docs, right or wrong, of texts and at places that may be too long or too far.
func TestInsertAtRandom(t *testing.T) {
	r := rand.New(rand.NewSource(10))
	codes, settled, stuck, punched := map[int64]int{}, 0, 0, 0
	for range 12000 {
		writer := 1 + r.Int63n(randomClients)
		d := anyDocFor(r, 14, writer)
		if r.Intn(20) == 0 {
			d = turned(d, r)
		}
		text := printed(70)[r.Intn(6):]
		if r.Intn(8) > 0 {
			text = text[:r.Intn(5)]
		} else {
			text = text[:r.Intn(65)]
		}
		at := r.Int63n(int64(len(textIn(d.Items))+3)) - 1
		want := insertSlowly(d, writer, at, text)
		sameDocOut(t, fmt.Sprintf("%+v, %d, %d, %q", d, writer, at, text), impl.Insert(d, writer, at, text), want)
		codes[want.Code]++
		if want.Code == impl.OK {
			settled += len(d.Pend) - len(want.Doc.Pend)
			stuck += len(want.Doc.Pend)
			punched += len(d.Holes) - len(want.Doc.Holes)
			same(t, "it is right again", rightDoc(want.Doc), true)
		}
	}
	for _, code := range []int64{impl.OK, impl.ErrForm, impl.ErrRange, impl.ErrThere, impl.ErrFull} {
		same(t, fmt.Sprintf("code %d is told often", code), codes[code] > 100, true)
	}
	same(t, "much that waits is put in, much is not, and holes are met", settled > 1500 && stuck > 1500 && punched > 600, true)
}

func TestDeleteAtRandom(t *testing.T) {
	r := rand.New(rand.NewSource(11))
	codes := map[int64]int{}
	for range 5000 {
		d := anyDoc(r, 20)
		if r.Intn(10) == 0 {
			d = turned(d, r)
		}
		length := int64(len(textIn(d.Items)))
		at := r.Int63n(length+3) - 1
		many := r.Int63n(length+3) - 1
		want := deleteSlowly(d, at, many)
		sameDocOut(t, fmt.Sprintf("%+v, %d, %d", d, at, many), impl.Delete(d, at, many), want)
		codes[want.Code]++
	}
	for _, code := range []int64{impl.OK, impl.ErrForm, impl.ErrRange} {
		same(t, fmt.Sprintf("code %d is told often", code), codes[code] > 250, true)
	}
}
