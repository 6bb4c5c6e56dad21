package tests

import (
	"fmt"
	"testing"

	"loop.example/g00576/impl"
)

// writerCalls are the calls to which a writer is handed in, with the writer that they answer with, if they do.
func writerCalls() map[string]func(w impl.Writer) impl.Writer {
	calls := map[string]func(w impl.Writer) impl.Writer{
		"WriterRight": func(w impl.Writer) impl.Writer { return impl.Writer{Doc: typed(1, fmt.Sprint(impl.WriterRight(w)))} },
		"ClientOf":    func(w impl.Writer) impl.Writer { return impl.Writer{Name: impl.ClientOf(w)} },
		"DocBytes":    func(w impl.Writer) impl.Writer { return impl.Writer{Doc: impl.DocRead(impl.DocBytes(w.Doc)).Doc} },
		"OpenDisk":    func(w impl.Writer) impl.Writer { return impl.OpenDisk(w.Disk).Writer },
		"Hear":        func(w impl.Writer) impl.Writer { return impl.Hear(w, impl.DiffOf(handed(), nil)).Writer },
		"Hear wrong":  func(w impl.Writer) impl.Writer { return impl.Hear(w, wrongUpdates()["one gone twice"]).Writer },
	}
	for _, n := range []int64{-1, 0, 1, 2, 4, 5, 99} {
		calls[fmt.Sprintf("Write at %d", n)] = func(w impl.Writer) impl.Writer { return impl.Write(w, n, "xy").Writer }
		calls[fmt.Sprintf("Erase at %d", n)] = func(w impl.Writer) impl.Writer { return impl.Erase(w, n, 1).Writer }
		calls[fmt.Sprintf("Commit %d", n)] = func(w impl.Writer) impl.Writer { return impl.Commit(w, n).Writer }
	}
	return calls
}

// writerStays looks whether a call leaves the doc and the disk as they are, and answers in memory of its own.
func writerStays(t *testing.T, what string, call func(w impl.Writer) impl.Writer, w impl.Writer) {
	t.Helper()
	docStays(t, what, func(d impl.Doc) impl.Doc { return call(withDoc(w, d)).Doc }, w.Doc)
	disksStay(t, what, func(d impl.Disk, _ []int64) impl.Disk { return call(withDisk(w, d)).Disk }, w.Disk)
}

// Nothing that is handed in is changed, and nothing of it is shared.
func TestWriterArgumentsStay(t *testing.T) {
	writers := map[string]impl.Writer{"it is saved": savedOn(impl.Writer{Name: 3, Boot: 7, Doc: handed()}, 20, 3, 1)}
	for what, w := range rightWriters() {
		writers[what] = w
	}
	for what, w := range wrongWriters() {
		writers["not right: "+what] = w
	}
	for name, call := range writerCalls() {
		for what, w := range writers {
			writerStays(t, name+", "+what, call, w)
		}
	}
}

func TestHeardUpdatesStay(t *testing.T) {
	for what, c := range someApplies() {
		w := impl.Writer{Name: 3, Boot: 7, Doc: c.d, Disk: impl.DiskNew(1)}
		given := roomyUpdate(c.u)
		got := impl.Hear(w, given).Writer.Doc
		want := docTwin(got)
		sameUpdate(t, what+": the update", given, c.u)
		same(t, what+": behind the items", given.Items[:len(c.u.Items)+1][len(c.u.Items)], behindItems)
		same(t, what+": behind the gone", given.Gone[:len(c.u.Gone)+1][len(c.u.Gone)], named(3, 3))
		spoilUpdate(given)
		sameDoc(t, what+": the answer, when the update is spoilt", got, want)
		given = roomyUpdate(c.u)
		spoilDoc(impl.Hear(w, given).Writer.Doc)
		sameUpdate(t, what+": the update, when the answer is spoilt", given, c.u)
	}
}

// Nothing is kept from one call to the next.
func TestWritersOfTwoCallsAreApart(t *testing.T) {
	one, two := impl.WriterNew(3, 9).Writer, impl.WriterNew(3, 9).Writer
	want := withDisk(two, diskTwin(two.Disk))
	spoil(one.Disk)
	sameWriter(t, "two new ones", two, want)
	left, right := impl.Write(two, 0, "left").Writer, impl.Write(two, 0, "right").Writer
	same(t, "one way", impl.TextOf(left.Doc), "left")
	same(t, "the other way", impl.TextOf(right.Doc), "right")
	same(t, "neither", impl.TextOf(two.Doc), "")
	left, right = impl.Commit(left, 99).Writer, impl.Commit(right, 99).Writer
	first, second := impl.OpenDisk(right.Disk).Writer, impl.OpenDisk(right.Disk).Writer
	spoil(first.Disk)
	spoilDoc(first.Doc)
	sameWriter(t, "opened twice", second, openSlowly(right.Disk, right).Writer)
	same(t, "the other one", impl.TextOf(impl.OpenDisk(left.Disk).Writer.Doc), "left")
	same(t, "what was there", impl.TextOf(impl.OpenDisk(two.Disk).Writer.Doc), "")
	d := impl.DocRead(impl.DocBytes(right.Doc)).Doc
	spoilDoc(impl.DocRead(impl.DocBytes(right.Doc)).Doc)
	sameDoc(t, "read twice", d, right.Doc)
}
