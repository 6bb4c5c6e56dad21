package tests

import (
	"fmt"
	"testing"

	"loop.example/g00576/impl"
)

func TestLeavesOf(t *testing.T) {
	ten := typed(1, "abcdefghij")
	most := typed(7, printed(impl.MaxItems))
	full := []impl.Leaf{leaf(0, 8, 8), leaf(8, 8, 8), leaf(16, 8, 8), leaf(24, 8, 8), leaf(32, 8, 8), leaf(40, 8, 8), leaf(48, 8, 8), leaf(56, 4, 4)}
	for what, c := range map[string]struct {
		doc    impl.Doc
		leaves []impl.Leaf
	}{
		"no items":               {impl.Doc{}, nil},
		"no items, but all else": {holed(waiting(impl.Doc{}, lonely(20)...), idsUpTo(20)...), nil},
		"one item":               {typed(1, "a"), []impl.Leaf{leaf(0, 1, 1)}},
		"one less than a leaf":   {typed(1, "abcdefg"), []impl.Leaf{leaf(0, 7, 7)}},
		"a leaf":                 {typed(1, "abcdefgh"), []impl.Leaf{leaf(0, 8, 8)}},
		"one more":               {typed(1, "abcdefghi"), []impl.Leaf{leaf(0, 8, 8), leaf(8, 1, 1)}},
		"two leaves":             {typed(1, "abcdefghijklmnop"), []impl.Leaf{leaf(0, 8, 8), leaf(8, 8, 8)}},
		"the most":               {most, full},
		"one gone of each leaf":  {without(ten, 7, 8), []impl.Leaf{leaf(0, 8, 7), leaf(8, 2, 1)}},
		"the last gone":          {without(ten, 9), []impl.Leaf{leaf(0, 8, 8), leaf(8, 2, 1)}},
		"the first leaf gone":    {without(ten, 0, 1, 2, 3, 4, 5, 6, 7), []impl.Leaf{leaf(0, 8, 0), leaf(8, 2, 2)}},
		"the last leaf gone":     {without(ten, 8, 9), []impl.Leaf{leaf(0, 8, 8), leaf(8, 2, 0)}},
		"all gone":               {allGone(ten), []impl.Leaf{leaf(0, 8, 0), leaf(8, 2, 0)}},
		"one gone":               {allGone(typed(1, "a")), []impl.Leaf{leaf(0, 1, 0)}},
		"a leaf, gone":           {allGone(typed(1, "abcdefgh")), []impl.Leaf{leaf(0, 8, 0)}},
		"what waits, and holes":  {holed(waiting(ten, lonely(9)...), named(1, 10)), []impl.Leaf{leaf(0, 8, 8), leaf(8, 2, 2)}},
		"more clients than one":  {handed(), []impl.Leaf{leaf(0, 5, 4)}},
		"the most, and all else": {holed(waiting(most, lonely(20)...), idsUpTo(20)...), full},
		"the most, some gone":    {without(most, 0, 15, 16, 59), []impl.Leaf{leaf(0, 8, 7), leaf(8, 8, 7), leaf(16, 8, 7), leaf(24, 8, 8), leaf(32, 8, 8), leaf(40, 8, 8), leaf(48, 8, 8), leaf(56, 4, 3)}},
		"the most, a leaf gone":  {without(most, 24, 25, 26, 27, 28, 29, 30, 31), append(append(append([]impl.Leaf{}, full[:3]...), leaf(24, 8, 0)), full[4:]...)},
	} {
		sameLeaves(t, what, impl.LeavesOf(c.doc), c.leaves)
	}
}

// The leaves have all items, each in the leaf that its place tells, and as many live ones as the text has.
func TestLeavesHaveAll(t *testing.T) {
	same(t, "the size of a leaf", impl.LeafSize, 8)
	for what, d := range leafDocs() {
		leaves := impl.LeavesOf(d)
		sameLeaves(t, what, leaves, leavesSlowly(d))
		many, live := int64(0), int64(0)
		for i, leaf := range leaves {
			same(t, what+": it begins behind the one ahead", leaf.First, many)
			same(t, what+": it has what it is to have", leaf.Many == 8 || i == len(leaves)-1 && 0 < leaf.Many && leaf.Many < 8, true)
			many += leaf.Many
			live += leaf.Live
		}
		same(t, what+": all items", many, int64(len(d.Items)))
		same(t, what+": all characters", live, int64(len(impl.TextOf(d))))
	}
}

func TestAtLive(t *testing.T) {
	ten := without(typed(1, "abcdefghij"), 1, 2)
	for what, c := range map[string]struct {
		doc impl.Doc
		at  int64
		id  impl.Id
	}{
		"the first":                 {ten, 0, named(1, 0)},
		"behind two that are gone":  {ten, 1, named(1, 3)},
		"the last of a leaf":        {ten, 5, named(1, 7)},
		"the first of the next one": {ten, 6, named(1, 8)},
		"the last":                  {ten, 7, named(1, 9)},
		"at the end":                {ten, 8, none},
		"beyond the end":            {ten, 9, none},
		"one too many of a leaf":    {ten, 10, none},
		"below 0":                   {ten, -1, none},
		"nothing is there":          {impl.Doc{}, 0, none},
		"all gone":                  {allGone(ten), 0, none},
		"a leaf gone":               {without(ten, 0, 3, 4, 5, 6, 7), 0, named(1, 8)},
		"a leaf gone, the last":     {without(ten, 0, 3, 4, 5, 6, 7), 1, named(1, 9)},
		"a leaf gone, at the end":   {without(ten, 0, 3, 4, 5, 6, 7), 2, none},
		"the last leaf gone":        {without(ten, 8, 9), 6, none},
		"the last of a whole leaf":  {typed(1, "abcdefgh"), 7, named(1, 7)},
		"behind a whole leaf":       {typed(1, "abcdefgh"), 8, none},
		"what waits is no text":     {waiting(impl.Doc{}, lonely(2)...), 0, none},
		"of another client":         {handed(), 2, named(2, 0)},
	} {
		same(t, what, impl.AtLive(c.doc, c.at), c.id)
	}
}

func TestLiveAhead(t *testing.T) {
	ten := holed(waiting(without(typed(1, "abcdefghij"), 1, 2, 7, 9), lonely(2)...), named(100, 0), named(200, 0))
	for what, c := range map[string]struct {
		id    impl.Id
		ahead int64
	}{
		"the first":                 {named(1, 0), 0},
		"gone":                      {named(1, 1), 1},
		"gone behind one":           {named(1, 2), 1},
		"behind two gone":           {named(1, 3), 1},
		"the last of a leaf, gone":  {named(1, 7), 5},
		"the first of the next one": {named(1, 8), 5},
		"the last, gone":            {named(1, 9), 6},
		"the next one of a client":  {named(1, 10), -1},
		"of another client":         {named(2, 0), -1},
		"it waits":                  {named(101, 0), -1},
		"it waits, and is a hole":   {named(100, 0), -1},
		"a hole":                    {named(200, 0), -1},
		"what waits waits for it":   {named(9999, 1000000), -1},
		"no name":                   {none, -1},
		"a client below 0":          {named(-1, 0), -1},
		"a client too high":         {named(10000, 0), -1},
		"a clock below 0":           {named(1, -1), -1},
		"a clock too late":          {named(1, 1000001), -1},
		"turned":                    {named(3, 1), -1},
	} {
		same(t, what, impl.LiveAhead(ten, c.id), c.ahead)
	}
	same(t, "nothing is there", impl.LiveAhead(impl.Doc{}, named(1, 0)), int64(-1))
	same(t, "nothing is there, and no name", impl.LiveAhead(impl.Doc{}, none), int64(-1))
	same(t, "all gone, the last", impl.LiveAhead(allGone(ten), named(1, 9)), int64(0))
	same(t, "all gone, not there", impl.LiveAhead(allGone(ten), named(1, 10)), int64(-1))
	same(t, "the last of the most", impl.LiveAhead(typed(7, printed(60)), named(7, 59)), int64(59))
}

func TestSlice(t *testing.T) {
	ten := without(typed(1, "abcdefghij"), 1, 2)
	for what, c := range map[string]struct {
		from, to int64
		text     string
	}{
		"all":                       {0, 8, "adefghij"},
		"but the first":             {1, 8, "defghij"},
		"but the last":              {0, 7, "adefghi"},
		"some":                      {1, 4, "def"},
		"one":                       {1, 2, "d"},
		"the last one":              {7, 8, "j"},
		"from one leaf to the next": {5, 7, "hi"},
		"nothing, at first":         {0, 0, ""},
		"nothing, in the middle":    {4, 4, ""},
		"nothing, at the end":       {8, 8, ""},
		"from below 0":              {-1, 4, ""},
		"to below from":             {4, 1, ""},
		"to one below from":         {4, 3, ""},
		"to beyond the end":         {1, 9, ""},
		"all, to beyond the end":    {0, 9, ""},
		"to as many as the items":   {0, 10, ""},
		"both beyond the end":       {9, 9, ""},
		"both below 0":              {-2, -1, ""},
		"both below 0, at one":      {-1, -1, ""},
		"to below 0":                {0, -1, ""},
		"from the end to 0":         {8, 0, ""},
		"all three":                 {-1, -2, ""},
	} {
		same(t, what, impl.Slice(ten, c.from, c.to), c.text)
	}
	same(t, "of nothing", impl.Slice(impl.Doc{}, 0, 0), "")
	same(t, "of nothing, one", impl.Slice(impl.Doc{}, 0, 1), "")
	same(t, "all gone", impl.Slice(allGone(ten), 0, 0), "")
	same(t, "all gone, one", impl.Slice(allGone(ten), 0, 1), "")
	same(t, "what waits is no text", impl.Slice(waiting(ten, lonely(3)...), 0, 9), "")
}

// Each place from far below 0 to far beyond the end, in docs of each length.
func TestEachPlace(t *testing.T) {
	for what, d := range leafDocs() {
		for _, at := range places(len(d.Items) + 10) {
			same(t, fmt.Sprintf("%s, %d", what, at), impl.AtLive(d, at), atSlowly(d, at))
		}
		for _, id := range namesNear(d) {
			same(t, fmt.Sprintf("%s, %v", what, id), impl.LiveAhead(d, id), aheadSlowly(d, id))
		}
	}
}

func TestEachSlice(t *testing.T) {
	docs := rightDocs()
	for _, many := range []int{7, 8, 9, 17} {
		docs["of length "+shown(many)] = without(typed(3, printed(many)), 2, 5)
	}
	for what, d := range docs {
		text := textIn(d.Items)
		for _, from := range places(min(len(d.Items), 20) + 3) {
			for _, to := range append(places(min(len(d.Items), 20)+3), 54, 55, 59, 60, 61) {
				same(t, fmt.Sprintf("%s, %d, %d", what, from, to), impl.Slice(d, from, to), sliceSlowly(text, from, to))
			}
		}
	}
}

// Each character is found by its place, and its place by it.
func TestFoundByPlace(t *testing.T) {
	for what, d := range leafDocs() {
		text := impl.TextOf(d)
		for at := range int64(len(text)) {
			id := impl.AtLive(d, at)
			same(t, fmt.Sprintf("%s, %d: the place of it", what, at), impl.LiveAhead(d, id), at)
			x := d.Items[impl.PlaceOf(d, id)]
			same(t, fmt.Sprintf("%s, %d: the character", what, at), x.Char, text[at:at+1])
			same(t, fmt.Sprintf("%s, %d: it is not gone", what, at), x.Gone, false)
			same(t, fmt.Sprintf("%s, %d: the slice of it", what, at), impl.Slice(d, at, at+1), x.Char)
		}
		same(t, what+": no more", impl.AtLive(d, int64(len(text))), none)
	}
}

func TestLeavesOfWrong(t *testing.T) {
	for what, d := range wrongDocs() {
		nothingTold(t, what, d)
	}
}
