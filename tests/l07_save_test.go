package tests

import (
	"fmt"
	"math"
	"math/rand"
	"testing"

	"loop.example/g00576/impl"
)

// saveDocs are docs of which Name 3 and Boot 7 save texts of the lengths at which one sector more is
// needed, and others.
func saveDocs(t *testing.T) map[string]impl.Doc {
	docs := rightDocs()
	for _, bytes := range []int{63, 64, 65, 127, 128, 129, 191, 192, 193} {
		d, ok := docOfBytes(bytes)
		same(t, fmt.Sprintf("there is a doc of %d bytes", bytes), ok && impl.DocRight(d), true)
		docs[fmt.Sprintf("of %d bytes", bytes)] = d
	}
	return docs
}

// Each number of steps at which a save can be cut, below none and beyond all.
func TestCommitOfEachNumberOfSteps(t *testing.T) {
	for what, d := range saveDocs(t) {
		w := impl.Writer{Name: 3, Boot: 7, Doc: d}
		text := savedSlowly(w)
		for where, disk := range map[string]impl.Disk{
			"saved before":  savedOn(w, sectorsFor(w), 3, 1).Disk,
			"one of 64":     areaOn(filled(64), 4, 0, mixed(100)).disk,
			"all pending":   unflushed(areaOn(filled(64), 4, 1, mixed(100))).disk,
			"much pending":  laden(areaOn(filled(64), 5, 1, "ab"), mostPending-3).disk,
			"the last of a": areaOn(filled(sectorsFor(w)), impl.MaxTime-1, 1, "").disk,
		} {
			for steps := int64(-2); steps < stepsOf(text)+3; steps++ {
				what := fmt.Sprintf("%s, %s, %d steps", what, where, steps)
				sameWriterOut(t, what, impl.Commit(withDisk(w, disk), steps), commitSlowly(withDisk(w, disk), steps))
			}
			for _, steps := range []int64{math.MinInt64, -1 << 32, 1 << 32, math.MaxInt64} {
				what := fmt.Sprintf("%s, %s, %d steps", what, where, steps)
				sameWriterOut(t, what, impl.Commit(withDisk(w, disk), steps), commitSlowly(withDisk(w, disk), steps))
			}
		}
	}
}

// What a writer saves is on its disk, and it is opened with the same doc, as another client.
func TestWhatIsSavedIsOpened(t *testing.T) {
	for what, d := range saveDocs(t) {
		for _, name := range []int64{1, 3, impl.MaxName} {
			for _, boot := range []int64{1, 7, 63, 64, impl.MaxBoot - 1, impl.MaxBoot} {
				w := impl.Writer{Name: name, Boot: boot, Doc: d, Disk: impl.AreaFormat(impl.DiskNew(64)).Disk}
				saved := impl.Commit(w, 100)
				what := fmt.Sprintf("%s, name %d, boot %d", what, name, boot)
				same(t, what+", on the disk", impl.AreaRead(saved.Writer.Disk).Text, savedSlowly(w))
				opened := impl.OpenDisk(saved.Writer.Disk)
				sameWriterOut(t, what, opened, openSlowly(saved.Writer.Disk, w))
				if boot == impl.MaxBoot {
					continue
				}
				same(t, what+", it is right", impl.WriterRight(opened.Writer), true)
				same(t, what+", its client", impl.ClientOf(opened.Writer), 1000*name+boot+1)
				same(t, what+", on the disk again", impl.AreaRead(opened.Writer.Disk).Text, savedSlowly(opened.Writer))
			}
		}
	}
}

// Promise 10: opened anew, again and again, it is of another name each time, and right, until there is none left.
func TestOpenedUntilTheLastBoot(t *testing.T) {
	w := impl.Commit(impl.Write(impl.WriterNew(9, 5).Writer, 0, "ab").Writer, 99).Writer
	doc := w.Doc
	seen := map[int64]bool{impl.ClientOf(w): true}
	for boot := int64(2); boot <= impl.MaxBoot; boot++ {
		out := impl.OpenDisk(w.Disk)
		sameWriterOut(t, fmt.Sprintf("boot %d", boot), out, openSlowly(w.Disk, w))
		w = out.Writer
		sameDoc(t, "its doc", w.Doc, doc)
		same(t, "it is right, of another name", impl.WriterRight(w) && !seen[impl.ClientOf(w)], true)
		seen[impl.ClientOf(w)] = true
	}
	same(t, "so many names", len(seen), impl.MaxBoot)
	sameWriterOut(t, "behind the last boot", impl.OpenDisk(w.Disk), writerFault(impl.ErrFull))
	w = impl.Commit(impl.Write(w, 0, "x").Writer, 99).Writer
	sameWriterOut(t, "the last one has saved", impl.OpenDisk(w.Disk), writerFault(impl.ErrFull))
}

// Promise 11: wherever the power goes while a writer saves, it finds what it saved last, or all of it.
func TestPowerGoesWhileAWriterSaves(t *testing.T) {
	r := rand.New(rand.NewSource(33))
	docs := saveDocs(t)
	for which, old := range docs {
		for _, what := range []string{"empty", "the most of all", "of 64 bytes", "of 65 bytes", "of 129 bytes", "holes at both ends"} {
			last := impl.Writer{Name: 3, Boot: 7, Doc: old}
			now := withDoc(last, docs[what])
			last = savedOn(last, max(sectorsFor(last), sectorsFor(now))+2, 3, r.Intn(2))
			now.Disk = last.Disk
			cutAtEachStep(t, which+", then "+what, last, now, r)
		}
	}
}

// cutAtEachStep has a writer save with each number of steps, and its power go, of whom another state was saved.
func cutAtEachStep(t *testing.T, what string, last impl.Writer, now impl.Writer, r *rand.Rand) {
	t.Helper()
	all := stepsOf(savedSlowly(now))
	for steps := range all + 2 {
		cut := impl.Commit(now, steps)
		same(t, what+", it saves", cut.Code, int64(impl.OK))
		for _, keep := range crashes(len(cut.Writer.Disk.Pending), r) {
			what := fmt.Sprintf("%s, %d steps, keep %v", what, steps, keep)
			dark := impl.DiskCrash(cut.Writer.Disk, keep)
			found := last
			if steps >= all || steps == all-1 && keep[0] > 0 {
				found = now
			}
			opened := impl.OpenDisk(dark)
			sameWriterOut(t, what, opened, openSlowly(dark, found))
			again := impl.OpenDisk(impl.DiskCrash(opened.Writer.Disk, nil))
			sameDoc(t, what+", again", again.Writer.Doc, found.Doc)
			same(t, what+", again, another client", impl.ClientOf(again.Writer), impl.ClientOf(last)+2)
		}
	}
}

// The same of a writer that is new, and of one that was opened: something was saved of each.
func TestPowerGoesBeforeAnythingElseIsSaved(t *testing.T) {
	r := rand.New(rand.NewSource(34))
	for _, sectors := range []int64{13, 14, 63, 64} {
		fresh := impl.WriterNew(2, sectors).Writer
		opened := impl.OpenDisk(fresh.Disk).Writer
		for what, last := range map[string]impl.Writer{"new": fresh, "opened": opened} {
			cutAtEachStep(t, fmt.Sprintf("%s, %d sectors", what, sectors), last, impl.Write(last, 0, printed(20)).Writer, r)
		}
	}
}

// A disk must have room for what is saved; a writer whose disk has none, or another one, stays as it is.
func TestCommitRoom(t *testing.T) {
	for what, d := range saveDocs(t) {
		w := impl.Writer{Name: 3, Boot: 7, Doc: d}
		few := sectorsFor(w)
		for _, steps := range []int64{-1, 0, 1, 99} {
			what := fmt.Sprintf("%s, %d steps", what, steps)
			for sectors := 1; sectors < few; sectors++ {
				disk := areaOn(filled(sectors), 3, 1, "").disk
				sameWriterOut(t, fmt.Sprintf("%s, %d sectors", what, sectors), impl.Commit(withDisk(w, disk), steps), writerFault(impl.ErrFull))
			}
			disk := areaOn(filled(few), 3, 1, "").disk
			same(t, what+", just enough", impl.Commit(withDisk(w, disk), steps).Code, int64(impl.OK))
		}
	}
}

func TestCommitFaultsInOrder(t *testing.T) {
	w := impl.Writer{Name: 3, Boot: 7, Doc: rightDocs()["the most of all"]}
	for _, steps := range []int64{math.MinInt64, -1, 0, 1, 99} {
		for what, a := range wrongAreas() {
			sameWriterOut(t, what, impl.Commit(withDisk(w, a.disk), steps), writerFault(a.code))
		}
		for what, a := range lastAreas() {
			sameWriterOut(t, what, impl.Commit(withDisk(w, a.disk), steps), writerFault(impl.ErrFull))
		}
		for what, d := range wrongDisks() {
			sameWriterOut(t, what, impl.Commit(withDisk(w, d), steps), writerFault(impl.ErrForm))
		}
		sameWriterOut(t, "never formatted", impl.Commit(withDisk(w, impl.DiskNew(64)), steps), writerFault(impl.ErrShort))
	}
}

func TestOpenDiskOfOtherDisks(t *testing.T) {
	for what, d := range wrongDisks() {
		sameWriterOut(t, what, impl.OpenDisk(d), writerFault(impl.ErrForm))
	}
	for what, a := range wrongAreas() {
		sameWriterOut(t, what, impl.OpenDisk(a.disk), writerFault(a.code))
	}
	for what, a := range allAreas() {
		sameWriterOut(t, "another text: "+what, impl.OpenDisk(a.disk), writerFault(impl.ErrSyntax))
	}
	for sectors := int64(1); sectors <= impl.MaxSectors; sectors++ {
		d := impl.DiskNew(sectors)
		sameWriterOut(t, fmt.Sprintf("%d sectors", sectors), impl.OpenDisk(d), writerFault(impl.ErrShort))
		if sectors >= 3 {
			sameWriterOut(t, fmt.Sprintf("%d sectors, nothing saved", sectors), impl.OpenDisk(impl.AreaFormat(d).Disk), writerFault(impl.ErrSyntax))
		}
	}
}

// unsaved are texts that no right writer saves.
func unsaved() map[string]string {
	own, doc := wordOf(varints(3, 7)), wordOf(docBytesSlowly(typed(3007, "ab")))
	list := map[string]string{
		"nothing":                  "",
		"only who":                 own,
		"only the doc":             doc,
		"the doc ahead":            doc + own,
		"a byte behind":            own + doc + "\x00",
		"the doc twice":            own + doc + doc,
		"who twice":                own + own + doc,
		"who is empty":             wordOf("") + doc,
		"the doc is empty":         own + wordOf(""),
		"no boot":                  wordOf(varints(3)) + doc,
		"the boot is cut":          wordOf(varints(3)+"\x80") + doc,
		"a number more":            wordOf(varints(3, 7, 1)) + doc,
		"a byte more":              wordOf(varints(3, 7)+"\x80") + doc,
		"needless bytes of who":    wordOf("\x86\x00"+varints(7)) + doc,
		"needless bytes of boot":   wordOf(varints(3)+"\x8e\x00") + doc,
		"needless bytes of length": "\x84\x00" + varints(3, 7) + doc,
		"no length of who":         varints(3, 7) + doc,
		"no length of the doc":     own + docBytesSlowly(typed(3007, "ab")),
		"a length below none":      own + varints(-1) + docBytesSlowly(typed(3007, "ab")),
		"a length too great":       own + varints(1000) + docBytesSlowly(typed(3007, "ab")),
		"a length far too great":   own + varints(impl.MaxBytes+1) + docBytesSlowly(typed(3007, "ab")),
		"the doc is lengthened":    own + wordOf(docBytesSlowly(typed(3007, "ab"))+"\x00"),
		"sealed":                   sealed(own + doc),
	}
	for _, n := range wrongNumbers(impl.MaxName) {
		list["the name "+shown(n)] = wordOf(varints(n, 7)) + doc
		list["the last boot of the name "+shown(n)] = wordOf(varints(n, 900)) + doc
	}
	for _, n := range wrongNumbers(impl.MaxBoot) {
		list["the boot "+shown(n)] = wordOf(varints(3, n)) + doc
	}
	for what, d := range wrongDocs() {
		list["a doc: "+what] = own + wordOf(docBytesSlowly(d))
		list["a doc in the last boot: "+what] = wordOf(varints(3, 900)) + wordOf(docBytesSlowly(d))
	}
	whole := own + doc
	for n := range len(whole) {
		list[fmt.Sprintf("%d bytes of it", n)] = whole[:n]
		list[fmt.Sprintf("behind %d bytes of it", n+1)] = whole[n+1:]
	}
	return list
}

func TestOpenDiskOfWhatNobodySaves(t *testing.T) {
	for what, text := range unsaved() {
		disk := impl.DiskNew(64)
		if len(text) > roomOf(disk) {
			continue
		}
		for _, gen := range []int64{3, impl.MaxTime} {
			sameWriterOut(t, what, impl.OpenDisk(areaOn(disk, gen, 1, text).disk), writerFault(impl.ErrSyntax))
		}
	}
}

// Of what is saved, each byte turned into each other one: it is nobody's, or another right one's.
func TestOpenDiskOfWhatIsTurned(t *testing.T) {
	whole := savedSlowly(impl.Writer{Name: 3, Boot: 70, Doc: without(typed(3007, "ab"), 1)})
	good := 0
	for i := range len(whole) {
		for b := range 256 {
			turned := whole[:i] + string([]byte{byte(b)}) + whole[i+1:]
			disk := areaOn(impl.DiskNew(5), 3, 1, turned).disk
			s := slowReader{rest: []byte(turned)}
			own, doc := slowReader{rest: []byte(s.char())}, docReadSlowly(s.char())
			w := impl.Writer{Name: own.num(), Boot: own.num(), Doc: doc.Doc}
			want := writerFault(impl.ErrSyntax)
			if doc.Code == impl.OK && savedSlowly(w) == turned && w.Name >= 1 && w.Name <= 9 && w.Boot >= 1 && w.Boot <= 900 {
				want = openSlowly(disk, w)
				good++
			}
			sameWriterOut(t, fmt.Sprintf("%q", turned), impl.OpenDisk(disk), want)
		}
	}
	same(t, "some are right again", good > 200, true)
}

// What can not be saved in another boot is not opened.
func TestOpenDiskThatCannotSave(t *testing.T) {
	w := impl.Writer{Name: 3, Boot: 7, Doc: typed(3007, "ab")}
	for _, gen := range []int64{impl.MaxTime, impl.MaxTime + 1, math.MaxInt64} {
		sameWriterOut(t, fmt.Sprintf("the number %d", gen), impl.OpenDisk(savedOn(w, 5, gen, 1).Disk), writerFault(impl.ErrFull))
	}
	sameWriterOut(t, "the last number but one", impl.OpenDisk(savedOn(w, 5, impl.MaxTime-1, 1).Disk), openSlowly(savedOn(w, 5, impl.MaxTime-1, 1).Disk, w))
	for pending := mostPending - 3; pending <= mostPending; pending++ {
		disk := laden(areaIn(savedOn(w, 5, 3, 0).Disk), pending).disk
		want := openSlowly(disk, w)
		same(t, fmt.Sprintf("%d pending, whether it is full", pending), want.Code == impl.ErrFull, pending == mostPending)
		sameWriterOut(t, fmt.Sprintf("%d pending", pending), impl.OpenDisk(disk), want)
	}
}

// The boot 64 needs one byte more than the boot 63, for which there is no room here.
func TestOpenDiskWithoutRoomForTheBoot(t *testing.T) {
	for _, bytes := range []int{64, 128} {
		d, ok := docOfBytes(bytes)
		same(t, "there is such a doc", ok, true)
		for boot := int64(61); boot <= 64; boot++ {
			w := impl.Writer{Name: 3, Boot: boot, Doc: d}
			for _, sectors := range []int{1 + 2*bytes/64, 2 + 2*bytes/64, 3 + 2*bytes/64} {
				if len(savedSlowly(w)) > roomOf(filled(sectors)) {
					continue
				}
				disk := savedOn(w, sectors, 3, 1).Disk
				want := openSlowly(disk, w)
				what := fmt.Sprintf("%d bytes, boot %d, %d sectors", bytes, boot, sectors)
				same(t, what+", whether it is full", want.Code == impl.ErrFull, boot == 63 && sectors < 3+2*bytes/64)
				sameWriterOut(t, what, impl.OpenDisk(disk), want)
			}
		}
	}
}

// What is pending counts as written, as long as the power stays: a save need not be flushed to be opened.
func TestOpenDiskWithPending(t *testing.T) {
	for what, d := range saveDocs(t) {
		w := impl.Writer{Name: 3, Boot: 7, Doc: d}
		disk := unflushed(areaIn(savedOn(w, 64, 3, 1).Disk)).disk
		sameWriterOut(t, what, impl.OpenDisk(disk), openSlowly(disk, w))
	}
	w := impl.WriterNew(1, 64).Writer
	cut := impl.Commit(impl.Write(w, 0, "ab").Writer, stepsOf(savedSlowly(impl.Write(w, 0, "ab").Writer))-1).Writer
	same(t, "a head that is not flushed", impl.TextOf(impl.OpenDisk(cut.Disk).Writer.Doc), "ab")
	same(t, "a head that is lost", impl.TextOf(impl.OpenDisk(impl.DiskCrash(cut.Disk, nil)).Writer.Doc), "")
}
