package tests

import (
	"fmt"
	"math/rand"
	"slices"
	"testing"

	"loop.example/g00576/impl"
)

// What three write and erase is within these limits, so that each can hear all of it.
const (
	threeChars  = impl.MaxItems
	threeErased = impl.MaxPend
)

// three are three who write, each with the text as it knows it, and what was handed out and may come late.
type three struct {
	r      *rand.Rand
	names  [3]int64
	docs   [3]impl.Doc
	late   []impl.Update
	chars  int
	erased map[impl.Id]bool
	codes  map[int64]int
}

// write has one of them write a few letters somewhere.
func (w *three) write(t *testing.T, who int) {
	word := printed(9)[w.r.Intn(5):][:1+w.r.Intn(4)]
	if w.chars+len(word) > threeChars {
		return
	}
	out := impl.Insert(w.docs[who], w.names[who], w.r.Int63n(int64(len(impl.TextOf(w.docs[who]))+1)), word)
	same(t, "what is written", out.Code, int64(impl.OK))
	w.docs[who] = out.Doc
	w.chars += len(word)
}

// erase has one of them erase a few letters, if there are some.
func (w *three) erase(t *testing.T, who int) {
	length := int64(len(impl.TextOf(w.docs[who])))
	many := 1 + w.r.Int63n(3)
	if length < many || len(w.erased)+int(many) > threeErased {
		return
	}
	out := impl.Delete(w.docs[who], w.r.Int63n(length-many+1), many)
	same(t, "what is erased", out.Code, int64(impl.OK))
	w.docs[who] = out.Doc
	for _, x := range out.Doc.Items {
		if x.Gone {
			w.erased[x.Id] = true
		}
	}
}

// hear has one of them hear an update, if it can.
func (w *three) hear(t *testing.T, who int, u impl.Update) int64 {
	want := applySlowly(w.docs[who], u)
	out := impl.Apply(w.docs[who], u)
	sameDocOut(t, fmt.Sprintf("%+v, %+v", w.docs[who], u), out, want)
	w.codes[out.Code]++
	if out.Code == impl.OK {
		sameDocOut(t, "twice", impl.Apply(out.Doc, u), out)
		w.docs[who] = out.Doc
	}
	return out.Code
}

// partOf is an update, of which some is left out.
func partOf(r *rand.Rand, u impl.Update) impl.Update {
	often := 2 + r.Intn(4)
	leftOut := func() bool { return r.Intn(often) == 0 }
	u = updateTwin(u)
	u.Items = slices.DeleteFunc(u.Items, func(impl.Item) bool { return leftOut() })
	u.Gone = slices.DeleteFunc(u.Gone, func(impl.Id) bool { return leftOut() })
	return u
}

// step is one thing that one of them does, or that comes to it.
func (w *three) step(t *testing.T) {
	who, from := w.r.Intn(3), w.r.Intn(3)
	switch n := w.r.Intn(10); {
	case n < 4:
		w.write(t, who)
	case n < 5:
		w.erase(t, who)
	case n < 6:
		w.late = append(w.late, impl.DiffOf(w.docs[from], impl.MarksOf(w.docs[w.r.Intn(3)])))
	case n < 7:
		w.hear(t, who, impl.DiffOf(w.docs[from], impl.MarksOf(w.docs[who])))
	case n < 8:
		w.hear(t, who, partOf(w.r, impl.DiffOf(w.docs[from], nil)))
	case len(w.late) > 0:
		u := w.late[w.r.Intn(len(w.late))]
		if w.r.Intn(2) == 0 {
			u = partOf(w.r, u)
		}
		w.hear(t, who, u)
	}
}

// hearAll has each hear all of the others, as it is handed out at once or was read from bytes.
func (w *three) hearAll(t *testing.T) {
	for _, who := range w.r.Perm(3) {
		for _, from := range w.r.Perm(3) {
			marks := impl.MarksOf(w.docs[who])
			if w.r.Intn(3) == 0 {
				marks = nil
			}
			u := impl.UpdateRead(impl.UpdateBytes(impl.DiffOf(w.docs[from], marks)))
			same(t, "the bytes", u.Code, int64(impl.OK))
			same(t, "each hears each", w.hear(t, who, u.Update), int64(impl.OK))
		}
	}
}

// Promise 9: whatever three write and erase, and whatever of it is heard late, in part, or not at all, as
// soon as each hears all of the others, all have the same text.
func TestThreeComeToOneText(t *testing.T) {
	r := rand.New(rand.NewSource(24))
	waited, holes, codes := 0, 0, map[int64]int{}
	for range 1200 {
		w := three{r: r, erased: map[impl.Id]bool{}, codes: codes}
		for i, at := range r.Perm(3) {
			w.names[i] = int64(1 + at)
		}
		for range 5 + r.Intn(60) {
			w.step(t)
		}
		for _, d := range w.docs {
			waited += len(d.Pend)
			holes += len(d.Holes)
		}
		w.hearAll(t)
		for _, d := range w.docs {
			sameDoc(t, "all have the same", d, w.docs[0])
			same(t, "nothing waits", []int{len(d.Pend), len(d.Holes)}, []int{0, 0})
			same(t, "nothing is lost", []int{len(d.Items), len(impl.TextOf(d))}, []int{w.chars, w.chars - len(w.erased)})
		}
		sameDoc(t, "one who has heard nothing", heard(t, impl.Doc{}, impl.DiffOf(w.docs[0], nil)), w.docs[0])
	}
	same(t, "much waited, and holes were made", waited > 1000 && holes > 300, true)
	same(t, "some was more than there may be", codes[impl.ErrFull] > 5, true)
}

// Each hears all of the others, and writes on; what they hear then is only the rest.
func TestThreeWriteOn(t *testing.T) {
	r := rand.New(rand.NewSource(25))
	for range 300 {
		w := three{r: r, names: [3]int64{7, 1, 9999}, erased: map[impl.Id]bool{}, codes: map[int64]int{}}
		for range 4 {
			for range 6 {
				w.step(t)
			}
			w.hearAll(t)
			for _, d := range w.docs {
				sameDoc(t, "all have the same", d, w.docs[0])
			}
		}
	}
}

// Two who write at one place at once hear each other, and have one text, with both words whole.
func TestTwoHearEachOther(t *testing.T) {
	for length := range int64(5) {
		base := typed(50, "_____"[:length])
		for at := range length + 1 {
			low := impl.Insert(base, 20, at, "low").Doc
			high := impl.Insert(base, 30, at, "HIGH").Doc
			want := "_____"[:at] + "lowHIGH" + "_____"[at:length]
			toHigh, toLow := impl.DiffOf(low, impl.MarksOf(high)), impl.DiffOf(high, impl.MarksOf(low))
			same(t, fmt.Sprintf("the lower one hears, at %d", at), impl.TextOf(heard(t, low, toLow)), want)
			same(t, fmt.Sprintf("the higher one hears, at %d", at), impl.TextOf(heard(t, high, toHigh)), want)
		}
	}
}
