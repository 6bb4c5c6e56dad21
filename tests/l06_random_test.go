package tests

import (
	"fmt"
	"math/rand"
	"testing"

	"loop.example/g00576/impl"
)

// anyPlaces are the places of a text, one on each side of it, and some others.
func anyPlaces(r *rand.Rand, length int64) []int64 {
	list := []int64{r.Int63() - r.Int63(), r.Int63n(200) - 100}
	for at := int64(-1); at <= length+1; at++ {
		list = append(list, at)
	}
	return list
}

func TestLeavesAtRandom(t *testing.T) {
	r := rand.New(rand.NewSource(30))
	wrong, whole, empty := 0, 0, 0
	for range 800 {
		d := anyDoc(r, []int{4, 20, impl.MaxItems}[r.Intn(3)])
		if r.Intn(6) == 0 {
			d = turned(d, r)
		}
		what := fmt.Sprintf("%+v", d)
		if !rightDoc(d) {
			nothingTold(t, what, d)
			wrong++
			continue
		}
		want, text := leavesSlowly(d), textIn(d.Items)
		sameLeaves(t, what, impl.LeavesOf(d), want)
		for _, leaf := range want {
			whole += int(leaf.Many) / impl.LeafSize
			empty += max(0, 1-int(leaf.Live))
		}
		for _, at := range anyPlaces(r, int64(len(text))) {
			same(t, fmt.Sprintf("%s, %d", what, at), impl.AtLive(d, at), atSlowly(d, at))
			to := at + r.Int63n(12) - 2
			same(t, fmt.Sprintf("%s, %d, %d", what, at, to), impl.Slice(d, at, to), sliceSlowly(text, at, to))
		}
		for client := range int64(randomClients + 1) {
			for clock := range int64(7) {
				id := named(client, clock)
				same(t, fmt.Sprintf("%s, %v", what, id), impl.LiveAhead(d, id), aheadSlowly(d, id))
			}
		}
	}
	same(t, "some are not right", wrong > 50, true)
	same(t, "many leaves are whole, and some have nothing live", whole > 700 && empty > 30, true)
}

// The leaves go along with what is written and erased, one by one.
func TestLeavesOfWrittenAndErased(t *testing.T) {
	r := rand.New(rand.NewSource(31))
	for range 60 {
		var d impl.Doc
		text := ""
		for len(d.Items) < impl.MaxItems {
			at := r.Int63n(int64(len(text) + 1))
			if r.Intn(3) == 0 && at < int64(len(text)) {
				d = impl.Delete(d, at, 1).Doc
				text = text[:at] + text[at+1:]
			} else {
				char := string(rune('a' + r.Intn(26)))
				d = impl.Insert(d, 1+r.Int63n(3), at, char).Doc
				text = text[:at] + char + text[at:]
				same(t, "it is found where it was written", d.Items[impl.PlaceOf(d, impl.AtLive(d, at))].Char, char)
			}
			sameLeaves(t, text, impl.LeavesOf(d), leavesSlowly(d))
			same(t, "all of it", impl.Slice(d, 0, int64(len(text))), text)
			same(t, "from there on", impl.Slice(d, at, int64(len(text))), text[at:])
			same(t, "at the end", impl.AtLive(d, int64(len(text))), none)
		}
	}
}
