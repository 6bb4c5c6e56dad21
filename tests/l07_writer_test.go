package tests

import (
	"fmt"
	"math"
	"math/rand"
	"testing"

	"loop.example/g00576/impl"
)

func TestWriterLimits(t *testing.T) {
	same(t, "names and boots", []int64{impl.MaxName, impl.MaxBoot}, []int64{9, 900})
}

func TestWriterRight(t *testing.T) {
	for what, w := range rightWriters() {
		same(t, what, impl.WriterRight(w), true)
	}
	for what, w := range wrongWriters() {
		same(t, what, impl.WriterRight(w), false)
	}
}

// Nobody is the same twice: each name in each boot is a client of its own.
func TestClientOf(t *testing.T) {
	d := impl.DiskNew(1)
	seen := map[int64]bool{}
	for name := int64(-1); name <= impl.MaxName+1; name++ {
		for boot := int64(-1); boot <= impl.MaxBoot+2; boot++ {
			want := int64(0)
			if name >= 1 && name <= 9 && boot >= 1 && boot <= 900 {
				want = 1000*name + boot
				same(t, "it may be a client, and is new", want <= impl.MaxClient && !seen[want], true)
				seen[want] = true
			}
			same(t, fmt.Sprintf("name %d, boot %d", name, boot), impl.ClientOf(impl.Writer{Name: name, Boot: boot, Disk: d}), want)
		}
	}
	for what, w := range rightWriters() {
		same(t, what, impl.ClientOf(w), 1000*w.Name+w.Boot)
	}
	for what, w := range wrongWriters() {
		same(t, what, impl.ClientOf(w), int64(0))
	}
}

// newSlowly is the writer of that name, new on a disk of so many sectors.
func newSlowly(name int64, sectors int64) impl.Writer {
	w := impl.Writer{Name: name, Boot: 1}
	d := areaOn(impl.DiskNew(sectors), 0, 0, "").disk
	w.Disk = putSlowly(areaIn(d), savedSlowly(w), math.MaxInt64).Disk
	return w
}

func TestWriterNew(t *testing.T) {
	for name := int64(1); name <= impl.MaxName; name++ {
		for sectors := int64(3); sectors <= impl.MaxSectors; sectors++ {
			what := fmt.Sprintf("name %d, %d sectors", name, sectors)
			w := impl.WriterNew(name, sectors)
			sameWriterOut(t, what, w, impl.WriterOut{Writer: newSlowly(name, sectors)})
			same(t, what+", it is right", impl.WriterRight(w.Writer), true)
			same(t, what+", nothing is pending", len(w.Writer.Disk.Pending), 0)
		}
	}
	// The name, the boot and the empty doc, each with a length, on the side that the format does not name.
	w := impl.WriterNew(9, 3).Writer
	same(t, "its disk", w.Disk.Sectors, []string{headOf(1, 1, 7), "", "\x04\x12\x02" + "\x06\x00\x00\x00"})
}

func TestWriterNewFaultsInOrder(t *testing.T) {
	for _, name := range wrongNumbers(impl.MaxName) {
		for _, sectors := range []int64{math.MinInt64, -1, 0, 1, 2, 3, 64, 65, math.MaxInt64} {
			sameWriterOut(t, fmt.Sprintf("name %d, %d sectors", name, sectors), impl.WriterNew(name, sectors), writerFault(impl.ErrForm))
		}
	}
	for name := int64(1); name <= impl.MaxName; name++ {
		for _, sectors := range []int64{math.MinInt64, -1 << 32, -1, 0, 65, 1<<32 + 5, math.MaxInt64} {
			sameWriterOut(t, fmt.Sprintf("name %d, %d sectors", name, sectors), impl.WriterNew(name, sectors), writerFault(impl.ErrForm))
		}
		for _, sectors := range []int64{1, 2} {
			sameWriterOut(t, fmt.Sprintf("name %d, %d sectors", name, sectors), impl.WriterNew(name, sectors), writerFault(impl.ErrFull))
		}
	}
}

// What a right writer does in its doc is what is done in a doc, as the client that it is; the rest stays.
func TestWriteEraseHear(t *testing.T) {
	codes := map[int64]int{}
	tell := func(what string, w impl.Writer, got impl.WriterOut, want impl.DocOut) {
		t.Helper()
		sameWriterOut(t, what, got, docOutOf(w, want))
		codes[want.Code]++
		same(t, what+": it stays right", got.Code == impl.OK, impl.WriterRight(got.Writer))
	}
	texts := wrongTexts()
	texts["a letter"], texts["a few"], texts["longer than a text"] = "x", " ~a", printed(impl.MaxBytes+1)
	for which, w := range rightWriters() {
		client := 1000*w.Name + w.Boot
		for _, at := range []int64{math.MinInt64, -1, 0, 1, 3, 4, 59, 60, math.MaxInt64} {
			for what, text := range texts {
				want := insertSlowly(w.Doc, client, at, text)
				tell(fmt.Sprintf("Write, %s, %s, at %d", which, what, at), w, impl.Write(w, at, text), want)
			}
			for _, many := range []int64{math.MinInt64, -1, 0, 1, 3, 60, 61, math.MaxInt64} {
				want := deleteSlowly(w.Doc, at, many)
				tell(fmt.Sprintf("Erase, %s, %d at %d", which, many, at), w, impl.Erase(w, at, many), want)
			}
		}
		for what, u := range rightUpdates() {
			tell(fmt.Sprintf("Hear, %s, %s", which, what), w, impl.Hear(w, u), applySlowly(w.Doc, u))
		}
		for what, u := range wrongUpdates() {
			tell(fmt.Sprintf("Hear, %s, %s", which, what), w, impl.Hear(w, u), docFault(impl.ErrForm))
		}
	}
	for _, code := range []int64{impl.OK, impl.ErrForm, impl.ErrSize, impl.ErrRange, impl.ErrThere, impl.ErrFull} {
		same(t, fmt.Sprintf("code %d is told", code), codes[code] > 0, true)
	}
}

func TestWriteEraseHearAtRandom(t *testing.T) {
	r := rand.New(rand.NewSource(32))
	disk := areaOn(filled(5), 2, 1, "ab").disk
	for range 2000 {
		d := anyDoc(r, 14)
		w := impl.Writer{Name: 1 + r.Int63n(9), Boot: 1 + r.Int63n(900), Doc: d, Disk: disk}
		at, many := r.Int63n(int64(len(textIn(d.Items))+2)), 1+r.Int63n(3)
		text, u := printed(9)[:1+r.Intn(8)], anyUpdate(r, d)
		what := shown(w)
		sameWriterOut(t, "Write, "+what, impl.Write(w, at, text), docOutOf(w, insertSlowly(d, 1000*w.Name+w.Boot, at, text)))
		sameWriterOut(t, "Erase, "+what, impl.Erase(w, at, many), docOutOf(w, deleteSlowly(d, at, many)))
		sameWriterOut(t, "Hear, "+what, impl.Hear(w, u), docOutOf(w, applySlowly(d, u)))
	}
}

// What one writes names it, in this boot; what it wrote in an earlier one stays.
func TestWhatIsWrittenNamesTheWriter(t *testing.T) {
	w := impl.Write(impl.WriterNew(3, 64).Writer, 0, "ad").Writer
	w = impl.OpenDisk(impl.Commit(w, 99).Writer.Disk).Writer
	w = impl.Write(w, 1, "bc").Writer
	same(t, "the text", impl.TextOf(w.Doc), "abcd")
	same(t, "the names", namesOf(w.Doc.Items), []impl.Id{named(3001, 0), named(3002, 0), named(3002, 1), named(3001, 1)})
	w = impl.Write(withDisk(w, impl.DiskNew(1)), 4, "e").Writer
	same(t, "without a text on its disk", impl.TextOf(w.Doc), "abcde")
}

// A text that is too long is told ahead of all else, then a writer that is not right.
func TestWriterFaultsInOrder(t *testing.T) {
	long := printed(impl.MaxBytes + 1)
	for what, w := range wrongWriters() {
		for _, at := range []int64{-1, 0, 99} {
			sameWriterOut(t, what+", too long", impl.Write(w, at, long), writerFault(impl.ErrSize))
			sameWriterOut(t, what+", not so long", impl.Write(w, at, long[1:]), writerFault(impl.ErrForm))
			sameWriterOut(t, what+", no text", impl.Write(w, at, ""), writerFault(impl.ErrForm))
			sameWriterOut(t, what+", a text", impl.Write(w, at, "x"), writerFault(impl.ErrForm))
			sameWriterOut(t, what+", none erased", impl.Erase(w, at, 0), writerFault(impl.ErrForm))
			sameWriterOut(t, what+", erased", impl.Erase(w, at, 1), writerFault(impl.ErrForm))
			sameWriterOut(t, what+", steps", impl.Commit(w, at), writerFault(impl.ErrForm))
		}
		sameWriterOut(t, what+", heard", impl.Hear(w, impl.Update{}), writerFault(impl.ErrForm))
		sameWriterOut(t, what+", heard too much", impl.Hear(w, rightUpdates()["the most of clients"]), writerFault(impl.ErrForm))
		sameWriterOut(t, what+", heard wrong", impl.Hear(w, wrongUpdates()["one gone twice"]), writerFault(impl.ErrForm))
	}
}
