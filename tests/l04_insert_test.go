package tests

import (
	"fmt"
	"math"
	"math/rand"
	"slices"
	"strings"
	"testing"

	"loop.example/g00576/impl"
)

// spliced is a text in which at a place so many bytes are gone, and others are added.
func spliced(text string, at int64, gone int64, added string) string {
	return text[:at] + added + text[at+gone:]
}

// Promise 6: what is written stands where it was written, at each place of each doc.
func TestWhatIsWrittenStandsThere(t *testing.T) {
	for what, d := range rightDocs() {
		if len(d.Pend) > 0 || len(d.Holes) > 0 {
			continue
		}
		text := textIn(d.Items)
		for at := range int64(len(text) + 1) {
			for _, client := range []int64{1, 2, 7, 500, 9999} {
				for _, added := range []string{"x", " ~", printed(impl.MaxItems - len(d.Items)), printed(impl.MaxItems)} {
					what := fmt.Sprintf("%s, %d, %d bytes", what, at, len(added))
					out := impl.Insert(d, client, at, added)
					sameDocOut(t, what, out, insertSlowly(d, client, at, added))
					if 0 < len(added) && len(d.Items)+len(added) <= impl.MaxItems {
						same(t, what+", the text", impl.TextOf(out.Doc), spliced(text, at, 0, added))
					}
				}
			}
		}
	}
}

// Promise 6: what is erased is gone, and nothing else.
func TestWhatIsErasedIsGone(t *testing.T) {
	for what, d := range rightDocs() {
		text := textIn(d.Items)
		for at := range int64(len(text)) {
			for many := int64(1); at+many <= int64(len(text)); many++ {
				what := fmt.Sprintf("%s, %d, %d", what, at, many)
				out := impl.Delete(d, at, many)
				sameDocOut(t, what, out, deleteSlowly(d, at, many))
				same(t, what+", the text", impl.TextOf(out.Doc), spliced(text, at, many, ""))
				same(t, what+", the names", namesOf(out.Doc.Items), namesOf(d.Items))
			}
		}
	}
}

// Promise 6: a text that is written and erased by many, one behind the other.
func TestWrittenAndErased(t *testing.T) {
	r := rand.New(rand.NewSource(14))
	for range 200 {
		var d impl.Doc
		text := ""
		for len(d.Items) < impl.MaxItems {
			at := r.Int63n(int64(len(text) + 1))
			if gone := r.Int63n(5); gone > 0 && at+gone <= int64(len(text)) {
				d, text = impl.Delete(d, at, gone).Doc, spliced(text, at, gone, "")
				same(t, "erased", impl.TextOf(d), text)
				continue
			}
			added := printed(9)[r.Intn(4):][:1+r.Intn(min(5, impl.MaxItems-len(d.Items)))]
			d, text = impl.Insert(d, 1+r.Int63n(4), at, added).Doc, spliced(text, at, 0, added)
			same(t, "written", impl.TextOf(d), text)
			same(t, "it is right", rightDoc(d), true)
		}
	}
}

// Each letter lies behind the one before it, and all ahead of the one that stood there.
func TestInsertSidesOfEachLetter(t *testing.T) {
	d := impl.Insert(impl.Doc{}, 1, 0, "ad").Doc
	sameDoc(t, "the first two", d, impl.Doc{Items: []impl.Item{letter(named(1, 0), none, none, "a"), letter(named(1, 1), named(1, 0), none, "d")}})
	d = impl.Insert(d, 2, 1, "bc").Doc
	sameDoc(t, "two in between", d, impl.Doc{Items: []impl.Item{
		letter(named(1, 0), none, none, "a"),
		letter(named(2, 0), named(1, 0), named(1, 1), "b"),
		letter(named(2, 1), named(2, 0), named(1, 1), "c"),
		letter(named(1, 1), named(1, 0), none, "d"),
	}})
	d = impl.Insert(d, 1, 0, "xy").Doc
	same(t, "at the front", d.Items[:2], []impl.Item{letter(named(1, 2), none, named(1, 0), "x"), letter(named(1, 3), named(1, 2), named(1, 0), "y")})
	d = impl.Insert(d, 2, 6, "zz").Doc
	same(t, "at the end", d.Items[6:], []impl.Item{letter(named(2, 2), named(1, 1), none, "z"), letter(named(2, 3), named(2, 2), none, "z")})
}

// What is gone is no character, but still stands there: it is a Right, and never a Left.
func TestInsertBesideWhatIsGone(t *testing.T) {
	abc := typed(1, "abc")
	x := func(left impl.Id, right impl.Id) impl.Item { return letter(named(2, 0), left, right, "x") }
	cases := []struct {
		what  string
		d     impl.Doc
		at    int64
		place int
		x     impl.Item
	}{
		{"at the front of what is gone", without(abc, 0), 0, 0, x(none, named(1, 0))},
		{"behind the first one left", without(abc, 0), 1, 2, x(named(1, 1), named(1, 2))},
		{"ahead of what is gone", without(abc, 1), 1, 1, x(named(1, 0), named(1, 1))},
		{"at the end, behind one gone", without(abc, 1), 2, 3, x(named(1, 2), none)},
		{"at the end, ahead of one gone", without(abc, 2), 2, 2, x(named(1, 1), named(1, 2))},
		{"all are gone", without(abc, 0, 1, 2), 0, 0, x(none, named(1, 0))},
		{"two are gone, at the end", without(abc, 1, 2), 1, 1, x(named(1, 0), named(1, 1))},
	}
	for _, c := range cases {
		want := docTwin(c.d)
		want.Items = slices.Insert(want.Items, c.place, c.x)
		sameDocOut(t, c.what, impl.Insert(c.d, 2, c.at, "x"), impl.DocOut{Doc: want})
	}
}

func TestInsertHowMany(t *testing.T) {
	for _, there := range []int{0, 1, 30, 58, 59, 60} {
		for _, more := range []int{1, 2, 29, 30, 31, 59, 60} {
			d := typed(1, printed(there))
			want := int64(impl.OK)
			if there+more > 60 {
				want = impl.ErrFull
			}
			for _, d := range []impl.Doc{d, holed(d, idsUpTo(impl.MaxPend)...), waiting(d, lonely(impl.MaxPend)...)} {
				out := impl.Insert(d, 3, 0, printed(more))
				same(t, fmt.Sprintf("%d and %d", there, more), out.Code, want)
				sameDocOut(t, fmt.Sprintf("%d and %d", there, more), out, insertSlowly(d, 3, 0, printed(more)))
			}
		}
	}
	gone := typed(1, printed(60))
	for i := range gone.Items {
		gone.Items[i].Gone = true
	}
	sameDocOut(t, "what is gone takes room too", impl.Insert(gone, 2, 0, "x"), docFault(impl.ErrFull))
}

// What waits, and is put in, takes room too; what waits still does not.
func TestInsertHowManyWithWhatWaits(t *testing.T) {
	for there := 56; there < 60; there++ {
		d := typed(1, printed(there))
		for many := range 4 {
			// One is put in by its clock, of the next clients the first one by what was written.
			pend := []impl.Item{letter(named(3, 0), named(2, 0), none, "x"), letter(named(3, 1), none, none, "y"), letter(named(4, 0), named(3, 1), none, "z")}[:many]
			want := int64(impl.OK)
			if there+1+many > 60 {
				want = impl.ErrFull
			}
			out := impl.Insert(waiting(d, pend...), 2, 0, "!")
			same(t, fmt.Sprintf("%d there, %d wait", there, many), out.Code, want)
			sameDocOut(t, fmt.Sprintf("%d there, %d wait", there, many), out, insertSlowly(waiting(d, pend...), 2, 0, "!"))
			out = impl.Insert(waiting(waiting(d, pend...), lonely(5)...), 2, 0, "!")
			same(t, fmt.Sprintf("%d there, %d wait, and others", there, many), out.Code, want)
		}
	}
}

// What waits is put in as soon as it is ready, whatever comes of what.
func TestInsertPutsInWhatIsReady(t *testing.T) {
	abc := typed(1, "abc")
	stays := letter(named(1000, 0), named(2, 1), none, "?")
	cases := []struct {
		what string
		pend []impl.Item
		text string
		left int
	}{
		{"nothing waits", nil, "a!bc", 0},
		{"it waits for its left", []impl.Item{letter(named(3, 0), named(2, 0), named(1, 1), "x")}, "a!xbc", 0},
		{"it waits for its right", []impl.Item{letter(named(3, 0), named(1, 0), named(2, 0), "x")}, "ax!bc", 0},
		{"it waits for its left, and is gone", []impl.Item{erased(letter(named(3, 0), named(2, 0), named(1, 1), "x"))}, "a!bc", 0},
		{"a row of one client", []impl.Item{letter(named(3, 0), named(2, 0), named(1, 1), "x"), letter(named(3, 1), named(3, 0), named(1, 1), "y"), letter(named(3, 2), none, named(1, 0), "z")}, "za!xybc", 0},
		{"a row of clients that falls", []impl.Item{letter(named(9, 0), named(2, 0), named(1, 1), "x"), letter(named(8, 0), named(9, 0), named(1, 1), "y"), letter(named(7, 0), named(8, 0), named(1, 1), "z")}, "a!xyzbc", 0},
		{"a row with a gap", []impl.Item{letter(named(3, 0), named(2, 0), named(1, 1), "x"), letter(named(3, 2), named(3, 0), named(1, 1), "y")}, "a!xbc", 1},
		{"two at one place, low and high", []impl.Item{letter(named(3, 0), named(2, 0), named(1, 1), "x"), letter(named(4, 0), named(2, 0), named(1, 1), "y")}, "a!xybc", 0},
		{"its sides come turned", []impl.Item{letter(named(3, 0), named(2, 0), named(1, 0), "x")}, "a!bc", 1},
		{"the other one does not come", []impl.Item{letter(named(3, 0), named(2, 0), named(5, 0), "x")}, "a!bc", 1},
		{"two wait for each other", []impl.Item{letter(named(3, 0), named(2, 0), named(4, 0), "x"), letter(named(4, 0), named(2, 0), named(3, 0), "y")}, "a!bc", 2},
		{"a later clock of the left", []impl.Item{letter(named(3, 0), named(2, 1), named(1, 1), "x")}, "a!bc", 1},
	}
	for _, c := range cases {
		for _, more := range [][]impl.Item{nil, {stays}} {
			d := waiting(waiting(abc, c.pend...), more...)
			out := impl.Insert(d, 2, 1, "!")
			same(t, c.what, []any{out.Code, impl.TextOf(out.Doc), len(out.Doc.Pend)}, []any{int64(impl.OK), c.text, c.left + len(more)})
			same(t, c.what+", all are there", len(out.Doc.Items)+len(out.Doc.Pend), len(d.Items)+len(d.Pend)+1)
			sameDocOut(t, c.what, out, insertSlowly(d, 2, 1, "!"))
		}
	}
}

// What is gone before it came is gone when it comes, and is no hole any more.
func TestInsertIntoHoles(t *testing.T) {
	abc := typed(1, "abc")
	x := letter(named(3, 0), named(2, 1), named(1, 1), "x")
	cases := []struct {
		what  string
		d     impl.Doc
		text  string
		holes []impl.Id
	}{
		{"the first letter", holed(abc, named(2, 0)), "a2bc", nil},
		{"the second letter", holed(abc, named(2, 1)), "a1bc", nil},
		{"both letters", holed(abc, named(2, 0), named(2, 1)), "abc", nil},
		{"the one behind them", holed(abc, named(2, 2)), "a12bc", []impl.Id{named(2, 2)}},
		{"others", holed(abc, named(1, 3), named(2, 0), named(3, 0)), "a2bc", []impl.Id{named(1, 3), named(3, 0)}},
		{"what waits", holed(waiting(abc, x), named(3, 0)), "a12bc", nil},
		{"what waits, and a letter", holed(waiting(abc, x), named(2, 1), named(3, 0), named(3, 1)), "a1bc", []impl.Id{named(3, 1)}},
		{"what waits and is gone", holed(waiting(abc, erased(x)), named(3, 0)), "a12bc", nil},
		{"what does not come", holed(waiting(abc, letter(named(3, 1), none, none, "x")), named(3, 1)), "a12bc", []impl.Id{named(3, 1)}},
	}
	for _, c := range cases {
		out := impl.Insert(c.d, 2, 1, "12")
		same(t, c.what, []any{out.Code, impl.TextOf(out.Doc)}, []any{int64(impl.OK), c.text})
		same(t, c.what+", holes", plainDoc(impl.Doc{Holes: out.Doc.Holes}).Holes, c.holes)
		sameDocOut(t, c.what, out, insertSlowly(c.d, 2, 1, "12"))
	}
}

// wrongTexts may not be written; the last of them are too long in any case.
func wrongTexts() map[string]string {
	return map[string]string{
		"none":                     "",
		"a byte too many":          printed(impl.MaxItems + 1),
		"the longest of all":       printed(impl.MaxBytes),
		"a line feed":              "\n",
		"a line feed at the end":   "ab\n",
		"a line feed at the front": "\nab",
		"below a blank":            "a\x1fb",
		"above a tilde":            "a\x7fb",
		"the byte 0":               "\x00",
		"the byte 128":             "a\x80",
		"the byte 255":             "\xffa",
		"a letter of two bytes":    "a\u00e9b",
		"a letter of four bytes":   "\U0001f600",
		"a letter that is cut":     "ab\xc3",
		"every byte":               everyByte(),
	}
}

// Of two faults at once that one is told that is named first.
func TestInsertFaultsInOrder(t *testing.T) {
	long := strings.Repeat("x", impl.MaxBytes+1)
	full := waiting(typed(1, printed(60)), letter(named(2, 1), none, none, "x"))
	clients := []int64{math.MinInt64, -1, 0, impl.MaxClient + 1, 1 << 32, math.MaxInt64}
	for _, at := range []int64{math.MinInt64, -1, 0, 60, 61, math.MaxInt64} {
		for what, d := range wrongDocs() {
			sameDocOut(t, what+", too long", impl.Insert(d, 1, at, long), docFault(impl.ErrSize))
			sameDocOut(t, what+", too long, no client", impl.Insert(d, 0, at, long), docFault(impl.ErrSize))
			sameDocOut(t, what, impl.Insert(d, 1, at, "x"), docFault(impl.ErrForm))
			sameDocOut(t, what+", no text", impl.Insert(d, 0, at, ""), docFault(impl.ErrForm))
		}
		for _, client := range clients {
			sameDocOut(t, fmt.Sprintf("client %d", client), impl.Insert(full, client, at, "x"), docFault(impl.ErrForm))
			sameDocOut(t, fmt.Sprintf("client %d, too long", client), impl.Insert(full, client, at, long), docFault(impl.ErrSize))
		}
		for what, text := range wrongTexts() {
			sameDocOut(t, what, impl.Insert(full, 2, at, text), docFault(impl.ErrForm))
		}
	}
	for _, at := range []int64{math.MinInt64, -1, 61, 1 << 32, math.MaxInt64} {
		sameDocOut(t, fmt.Sprintf("at %d", at), impl.Insert(full, 2, at, "x"), docFault(impl.ErrRange))
	}
	for _, at := range []int64{0, 30, 60} {
		sameDocOut(t, fmt.Sprintf("it waits, at %d", at), impl.Insert(full, 2, at, "x"), docFault(impl.ErrThere))
		sameDocOut(t, fmt.Sprintf("full, at %d", at), impl.Insert(full, 3, at, "x"), docFault(impl.ErrFull))
	}
}

// A place is one of the text, not of the items.
func TestInsertPlaces(t *testing.T) {
	for what, d := range rightDocs() {
		length := int64(len(textIn(d.Items)))
		for _, at := range []int64{math.MinInt64, -length - 1, -1, length + 1, length + 2, int64(len(d.Items)) + 1, 1 << 32, math.MaxInt64} {
			sameDocOut(t, fmt.Sprintf("%s, at %d", what, at), impl.Insert(d, 4444, at, "x"), docFault(impl.ErrRange))
		}
	}
}

// Who has something that waits can not write; that one is a hole, or gone, is no matter.
func TestInsertOfOneWhoWaits(t *testing.T) {
	abc := typed(1, "abc")
	for _, x := range []impl.Item{letter(named(2, 1), none, none, "x"), erased(letter(named(2, 0), named(3, 0), none, "x")), letter(named(2, impl.MaxTime), none, none, "x")} {
		d := waiting(abc, append(lonely(2), x)...)
		sameDocOut(t, "it waits", impl.Insert(d, 2, 0, "x"), docFault(impl.ErrThere))
		sameDocOut(t, "it is a hole too", impl.Insert(holed(d, x.Id), 2, 0, "x"), docFault(impl.ErrThere))
		for _, client := range []int64{1, 3, 9999} {
			same(t, "another one", impl.Insert(d, client, 0, "x").Code, int64(impl.OK))
		}
	}
	same(t, "only a hole", impl.Insert(holed(abc, named(2, 5)), 2, 0, "x").Code, int64(impl.OK))
}

func TestDeleteFaultsInOrder(t *testing.T) {
	abc := typed(1, "abc")
	numbers := []int64{math.MinInt64, -61, -1, 0, 1, 2, 3, 4, 60, 61, 1 << 32, math.MaxInt64 - 1, math.MaxInt64}
	for _, at := range numbers {
		for _, many := range numbers {
			what := fmt.Sprintf("at %d, %d", at, many)
			for _, d := range []impl.Doc{abc, without(abc, 1), {}, typed(2, printed(60)), waiting(holed(abc, named(2, 0)), lonely(3)...)} {
				sameDocOut(t, what, impl.Delete(d, at, many), deleteSlowly(d, at, many))
			}
			for wrong, d := range wrongDocs() {
				sameDocOut(t, wrong+", "+what, impl.Delete(d, at, many), docFault(impl.ErrForm))
			}
		}
	}
	sameDocOut(t, "none of none", impl.Delete(impl.Doc{}, 0, 0), docFault(impl.ErrForm))
	sameDocOut(t, "one of none", impl.Delete(impl.Doc{}, 0, 1), docFault(impl.ErrRange))
	sameDocOut(t, "one too many", impl.Delete(abc, 1, 3), docFault(impl.ErrRange))
	sameDocOut(t, "none, and out of range", impl.Delete(abc, -1, 0), docFault(impl.ErrForm))
	sameDocOut(t, "what waits is no character", impl.Delete(waiting(abc, lonely(1)...), 3, 1), docFault(impl.ErrRange))
}

// What waits and the holes are the same behind a Delete.
func TestDeleteLeavesTheRest(t *testing.T) {
	d := holed(waiting(typed(1, "abc"), lonely(3)...), idsUpTo(3)...)
	want := without(d, 0, 1)
	sameDocOut(t, "two of three", impl.Delete(d, 0, 2), impl.DocOut{Doc: want})
}
