package tests

import (
	"fmt"
	"math"
	"math/rand"
	"slices"
	"testing"

	"loop.example/g00576/impl"
)

// rightItems are right ones, up to the limits.
func rightItems() map[string]impl.Item {
	own, last := named(50, 3), named(impl.MaxClient, impl.MaxTime)
	return map[string]impl.Item{
		"alone":                   letter(own, none, none, "x"),
		"the first name":          letter(named(1, 0), none, none, "x"),
		"the last name":           letter(last, none, none, "x"),
		"a left":                  letter(own, named(51, 0), none, "x"),
		"a right":                 letter(own, none, named(51, 0), "x"),
		"both":                    letter(own, named(51, 0), named(52, 0), "x"),
		"of unlike clocks":        letter(own, named(50, 2), named(50, 4), "x"),
		"of unlike clients":       letter(own, named(49, 3), named(51, 3), "x"),
		"the first and last ones": letter(own, named(1, 0), last, "x"),
		"gone":                    erased(letter(own, named(51, 0), named(52, 0), "x")),
		"a blank":                 letter(own, none, none, " "),
		"a tilde":                 letter(own, none, none, "~"),
	}
}

func TestItemRight(t *testing.T) {
	for what, x := range rightItems() {
		same(t, what, impl.ItemRight(x), true)
		same(t, what+", by the document", rightItem(x), true)
	}
	for what, x := range wrongItems() {
		same(t, what, impl.ItemRight(x), false)
		same(t, what+", gone", impl.ItemRight(erased(x)), false)
		same(t, what+", by the document", rightItem(x), false)
	}
}

func TestItemRightOfEachByte(t *testing.T) {
	for b := range 256 {
		x := letter(named(1, 0), none, none, string([]byte{byte(b)}))
		same(t, fmt.Sprintf("the byte %d", b), impl.ItemRight(x), b >= 32 && b <= 126)
	}
	for c := rune(127); c < 1000; c++ {
		same(t, fmt.Sprintf("the letter %d", c), impl.ItemRight(letter(named(1, 0), none, none, string(c))), false)
	}
}

// A number at each side of a limit, as each part of each name.
func TestItemRightOfEachLimit(t *testing.T) {
	numbers := []int64{math.MinInt64, -1, 0, 1, 2, impl.MaxClient - 1, impl.MaxClient, impl.MaxClient + 1, impl.MaxTime - 1, impl.MaxTime, impl.MaxTime + 1, 1 << 32, math.MaxInt64}
	for _, client := range numbers {
		for _, clock := range numbers {
			id, other := named(client, clock), named(77, 5)
			for _, x := range []impl.Item{{Id: id}, {Id: id, Left: other}, {Id: id, Right: other}, {Id: other, Left: id}, {Id: other, Right: id}, {Id: other, Left: id, Right: named(78, 0)}, {Id: other, Left: id, Right: id}} {
				x.Char = "x"
				same(t, fmt.Sprintf("%+v", x), impl.ItemRight(x), rightItem(x))
			}
		}
	}
}

func TestDocRight(t *testing.T) {
	for what, d := range rightDocs() {
		same(t, what, impl.DocRight(d), true)
		same(t, what+", by the document", rightDoc(d), true)
	}
	for what, d := range wrongDocs() {
		same(t, what, impl.DocRight(d), false)
		same(t, what+", by the document", rightDoc(d), false)
	}
}

// turned is the same doc, in which one thing is another one, right or not.
func turned(d impl.Doc, r *rand.Rand) impl.Doc {
	d = docTwin(d)
	id := named(r.Int63n(5), r.Int63n(4))
	list := d.Items
	if r.Intn(2) == 0 {
		list = d.Pend
	}
	if len(list) == 0 || r.Intn(8) == 0 {
		d.Holes = slices.Insert(d.Holes, r.Intn(len(d.Holes)+1), id)
		return d
	}
	i, j := r.Intn(len(list)), r.Intn(len(list))
	switch r.Intn(6) {
	case 0:
		list[i].Id = id
	case 1:
		list[i].Left = id
	case 2:
		list[i].Right = id
	case 3:
		list[i], list[j] = list[j], list[i]
	case 4:
		list[i].Left, list[i].Right = list[j].Id, list[j].Right
	case 5:
		list[i].Gone = !list[i].Gone
	}
	return d
}

func TestDocRightAtRandom(t *testing.T) {
	r := rand.New(rand.NewSource(8))
	count := map[bool]int{}
	for range 8000 {
		d := anyDoc(r, 8)
		same(t, "as it is", impl.DocRight(d), true)
		d = turned(d, r)
		count[rightDoc(d)]++
		same(t, shown(d), impl.DocRight(d), rightDoc(d))
	}
	same(t, "some are right, some are not", count[true] > 800 && count[false] > 800, true)
}

func TestTextOf(t *testing.T) {
	abc := typed(1, "abc")
	same(t, "all", impl.TextOf(abc), "abc")
	same(t, "the middle gone", impl.TextOf(without(abc, 1)), "ac")
	same(t, "all gone", impl.TextOf(without(abc, 0, 1, 2)), "")
	same(t, "what waits is no text", impl.TextOf(waiting(abc, lonely(3)...)), "abc")
	for what, d := range rightDocs() {
		same(t, what, impl.TextOf(d), textIn(d.Items))
	}
	for what, d := range wrongDocs() {
		same(t, what, impl.TextOf(d), "")
	}
}

func TestPlaceOf(t *testing.T) {
	for what, d := range rightDocs() {
		for i, x := range d.Items {
			same(t, fmt.Sprintf("%s, %d", what, i), impl.PlaceOf(d, x.Id), int64(i))
		}
		absent := append(namesOf(d.Pend), d.Holes...)
		absent = append(absent, none, named(1, 60), named(8888, 0), named(7, -1), named(math.MaxInt64, math.MinInt64))
		for _, id := range absent {
			same(t, fmt.Sprintf("%s, %v", what, id), impl.PlaceOf(d, id), int64(-1))
		}
	}
	for what, d := range wrongDocs() {
		ids := append(namesOf(d.Items), none, named(1, 0), named(1, 1))
		for _, id := range ids {
			same(t, fmt.Sprintf("%s, %v", what, id), impl.PlaceOf(d, id), int64(-1))
		}
	}
}

func TestNextOf(t *testing.T) {
	two := rightDocs()["clocks out of order"]
	same(t, "two of one", impl.NextOf(two, 2), int64(2))
	same(t, "one of another", impl.NextOf(two, 9999), int64(1))
	same(t, "what is gone counts", impl.NextOf(without(two, 0, 2), 2), int64(2))
	for what, d := range rightDocs() {
		for _, client := range []int64{math.MinInt64, -1, 0, 1, 2, 5, 7, 100, 200, 9999, 10000, math.MaxInt64} {
			same(t, fmt.Sprintf("%s, %d", what, client), impl.NextOf(d, client), written(d.Items, client))
		}
	}
	for what, d := range wrongDocs() {
		for _, client := range []int64{-1, 0, 1, 2, 50, 9999} {
			same(t, fmt.Sprintf("%s, %d", what, client), impl.NextOf(d, client), int64(0))
		}
	}
}

func TestLooksAtRandomDocs(t *testing.T) {
	r := rand.New(rand.NewSource(9))
	for range 1000 {
		d := anyDoc(r, 20)
		same(t, "the text", impl.TextOf(d), textIn(d.Items))
		places := placesOf(d.Items)
		for client := range int64(8) {
			same(t, "the next one", impl.NextOf(d, client), written(d.Items, client))
			for clock := range int64(6) {
				want := int64(-1)
				if place, ok := places[named(client, clock)]; ok {
					want = int64(place)
				}
				same(t, "the place", impl.PlaceOf(d, named(client, clock)), want)
			}
		}
	}
}
