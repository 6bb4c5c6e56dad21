package tests

import (
	"fmt"
	"math/rand"
	"slices"
	"testing"

	"loop.example/g00576/impl"
)

// trio are three who write, whose power may go, with what each saved last, and all that was ever seen of them.
type trio struct {
	r       *rand.Rand
	writers [3]impl.Writer
	saved   [3]impl.Writer
	clients map[int64]bool
	chars   map[impl.Id]impl.Item
	late    []impl.Update
	lost    int
	codes   map[int64]int
}

func newTrio(t *testing.T, r *rand.Rand, sectors int64) *trio {
	group := trio{r: r, clients: map[int64]bool{}, chars: map[impl.Id]impl.Item{}, codes: map[int64]int{}}
	for who, name := range r.Perm(impl.MaxName)[:3] {
		group.opened(t, who, impl.WriterNew(int64(name)+1, sectors))
		group.saved[who] = group.writers[who]
	}
	return &group
}

// opened looks whether one that is opened is right, and a client that nobody was.
func (group *trio) opened(t *testing.T, who int, out impl.WriterOut) {
	t.Helper()
	same(t, "it is opened", out.Code, int64(impl.OK))
	same(t, "it is right", impl.WriterRight(out.Writer), true)
	client := impl.ClientOf(out.Writer)
	same(t, fmt.Sprintf("%d was there already", client), group.clients[client], false)
	group.clients[client] = true
	group.writers[who] = out.Writer
}

// did takes what one of them did, if it could, and looks whether each name is that of one character.
func (group *trio) did(t *testing.T, who int, out impl.WriterOut) {
	t.Helper()
	group.codes[out.Code]++
	if out.Code != impl.OK {
		sameWriterOut(t, "beside a code", out, writerFault(out.Code))
		return
	}
	same(t, "it stays right", impl.WriterRight(out.Writer), true)
	same(t, "it stays the same", impl.ClientOf(out.Writer), impl.ClientOf(group.writers[who]))
	group.writers[who] = out.Writer
	for _, x := range append(slices.Clone(out.Writer.Doc.Items), out.Writer.Doc.Pend...) {
		x.Gone = false
		if seen, ok := group.chars[x.Id]; ok {
			same(t, fmt.Sprintf("what %v is", x.Id), x, seen)
		}
		group.chars[x.Id] = x
	}
}

// save has one of them save, and its power go perhaps, wherever it is.
func (group *trio) save(t *testing.T, who int) {
	w := group.writers[who]
	if group.r.Intn(3) > 0 {
		group.did(t, who, impl.Commit(w, 99))
		group.saved[who] = group.writers[who]
		return
	}
	cut := impl.Commit(w, group.r.Int63n(stepsOf(savedSlowly(w))+2))
	same(t, "it saves", cut.Code, int64(impl.OK))
	keep := make([]int64, 64)
	for i := range keep {
		keep[i] = int64(group.r.Intn(2))
	}
	dark := impl.DiskCrash(cut.Writer.Disk, keep)
	found := group.saved[who]
	if areaIn(dark).text == savedSlowly(w) {
		found = w
	}
	out := impl.OpenDisk(dark)
	sameWriterOut(t, "what is found", out, openSlowly(dark, found))
	group.opened(t, who, out)
	group.saved[who] = group.writers[who]
	group.lost += len(w.Doc.Items) - len(found.Doc.Items)
}

// step is one thing that one of them does, or that comes to it.
func (group *trio) step(t *testing.T) {
	who, from := group.r.Intn(3), group.r.Intn(3)
	w, other := group.writers[who], group.writers[from]
	length := int64(len(impl.TextOf(w.Doc)))
	switch n := group.r.Intn(10); {
	case n < 3:
		group.did(t, who, impl.Write(w, group.r.Int63n(length+1), printed(9)[:1+group.r.Intn(3)]))
	case n < 4:
		group.did(t, who, impl.Erase(w, group.r.Int63n(length+1), 1+group.r.Int63n(2)))
	case n < 6:
		group.did(t, who, impl.Hear(w, impl.DiffOf(other.Doc, impl.MarksOf(w.Doc))))
	case n < 7:
		u := impl.DiffOf(other.Doc, nil)
		group.late = append(group.late, u, partOf(group.r, u))
	case n < 8 && len(group.late) > 0:
		group.did(t, who, impl.Hear(w, group.late[group.r.Intn(len(group.late))]))
	case n < 9:
		group.save(t, who)
	}
}

// hearAll has each hear all of the others, until nothing new comes; what waits for what is lost does so on.
func (group *trio) hearAll(t *testing.T) bool {
	for range 9 {
		before := group.writers
		for _, who := range group.r.Perm(3) {
			for _, from := range group.r.Perm(3) {
				out := impl.Hear(group.writers[who], impl.DiffOf(group.writers[from].Doc, nil))
				if group.did(t, who, out); out.Code != impl.OK {
					return false
				}
			}
		}
		if shownDocs(before) == shownDocs(group.writers) {
			return true
		}
	}
	return false
}

func shownDocs(writers [3]impl.Writer) string {
	return fmt.Sprint(writers[0].Doc, writers[1].Doc, writers[2].Doc)
}

// Promises 9, 10 and 11, of writers: nobody gives one name to two characters, whatever is lost, and as
// soon as each has heard all that is left, all have the same text.
func TestThreeWritersWhosePowerGoes(t *testing.T) {
	r := rand.New(rand.NewSource(35))
	lost, same3, opened, codes := 0, 0, 0, map[int64]int{}
	for range 250 {
		group := newTrio(t, r, 55+r.Int63n(10))
		for range 20 + r.Intn(130) {
			group.step(t)
		}
		if group.hearAll(t) {
			same3++
			for _, w := range group.writers {
				sameDoc(t, "all have the same", impl.Doc{Items: w.Doc.Items}, impl.Doc{Items: group.writers[0].Doc.Items})
			}
		}
		lost += group.lost
		opened += len(group.clients) - 3
		for code, many := range group.codes {
			codes[code] += many
		}
	}
	same(t, "much was lost, and most came to one text", lost > 200 && opened > 300 && same3 > 125, true)
	same(t, "some could not be done", codes[impl.ErrRange] > 50 && codes[impl.ErrFull] > 50, true)
	if t.Failed() {
		t.Logf("lost %d, opened %d, of one text %d, codes %v", lost, opened, same3, codes)
	}
}

// The writer who lost what it wrote writes again: those who heard it have both words.
func TestLostAndWrittenAgain(t *testing.T) {
	one, other := impl.WriterNew(1, 64).Writer, impl.WriterNew(2, 64).Writer
	one = impl.Commit(impl.Write(one, 0, "()").Writer, 99).Writer
	before := one.Disk
	one = impl.Write(one, 1, "lost").Writer
	other = impl.Hear(other, impl.DiffOf(one.Doc, impl.MarksOf(other.Doc))).Writer
	one = impl.OpenDisk(impl.DiskCrash(before, nil)).Writer
	same(t, "opened", impl.TextOf(one.Doc), "()")
	one = impl.Write(one, 1, "new").Writer
	other = impl.Hear(other, impl.DiffOf(one.Doc, impl.MarksOf(other.Doc))).Writer
	one = impl.Hear(one, impl.DiffOf(other.Doc, impl.MarksOf(one.Doc))).Writer
	same(t, "who lost it", impl.TextOf(one.Doc), "(lostnew)")
	sameDoc(t, "who heard it", other.Doc, one.Doc)
}
