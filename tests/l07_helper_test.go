package tests

import (
	"encoding/binary"
	"math"
	"testing"

	"loop.example/g00576/impl"
)

// plainWriter has none for an empty list: they are the same.
func plainWriter(w impl.Writer) impl.Writer {
	w.Doc, w.Disk = plainDoc(w.Doc), plainDisk(w.Disk)
	return w
}

func sameWriter(t *testing.T, what string, got impl.Writer, want impl.Writer) {
	t.Helper()
	same(t, what, plainWriter(got), plainWriter(want))
}

// sameWriterOut looks at all fields of an answer, those too that must be zero.
func sameWriterOut(t *testing.T, what string, got impl.WriterOut, want impl.WriterOut) {
	t.Helper()
	got.Writer, want.Writer = plainWriter(got.Writer), plainWriter(want.Writer)
	same(t, what, got, want)
}

func writerFault(code int64) impl.WriterOut {
	return impl.WriterOut{Code: code}
}

// withDoc is the same writer, with another doc.
func withDoc(w impl.Writer, d impl.Doc) impl.Writer {
	w.Doc = d
	return w
}

// withDisk is the same writer, with another disk.
func withDisk(w impl.Writer, d impl.Disk) impl.Writer {
	w.Disk = d
	return w
}

// docOutOf is the writer who has what a doc's call told, or the code of that call.
func docOutOf(w impl.Writer, out impl.DocOut) impl.WriterOut {
	if out.Code != impl.OK {
		return writerFault(out.Code)
	}
	return impl.WriterOut{Writer: withDoc(w, out.Doc)}
}

// keptSlowly are the bytes of items that may be gone, as the standard library puts numbers.
func keptSlowly(items []impl.Item) string {
	text := varints(int64(len(items)))
	for _, x := range items {
		text += varints(x.Id.Client, x.Id.Clock, x.Left.Client, x.Left.Clock, x.Right.Client, x.Right.Clock, int64(len(x.Char))) + x.Char
		if x.Gone {
			text += varints(1)
		} else {
			text += varints(0)
		}
	}
	return text
}

// docBytesSlowly are the bytes of any doc, right or not.
func docBytesSlowly(d impl.Doc) string {
	text := keptSlowly(d.Items) + keptSlowly(d.Pend) + varints(int64(len(d.Holes)))
	for _, id := range d.Holes {
		text += varints(id.Client, id.Clock)
	}
	return text
}

func (s *slowReader) kept() []impl.Item {
	var items []impl.Item
	for many := s.num(); many > 0 && !s.bad; many-- {
		x := impl.Item{Id: named(s.num(), s.num()), Left: named(s.num(), s.num()), Right: named(s.num(), s.num())}
		x.Char = s.char()
		x.Gone = s.num() == 1
		items = append(items, x)
	}
	return items
}

// docReadSlowly is what DocRead is to answer: the bytes are those of a right one, if it has them again.
func docReadSlowly(text string) impl.DocOut {
	if len(text) > 8000 {
		return docFault(impl.ErrSize)
	}
	s := slowReader{rest: []byte(text)}
	d := impl.Doc{Items: s.kept(), Pend: s.kept()}
	for many := s.num(); many > 0 && !s.bad; many-- {
		d.Holes = append(d.Holes, named(s.num(), s.num()))
	}
	if s.bad || docBytesSlowly(d) != text || !rightDoc(d) {
		return docFault(impl.ErrSyntax)
	}
	return impl.DocOut{Doc: d}
}

// wordOf is a text with its length ahead of it.
func wordOf(text string) string {
	return varints(int64(len(text))) + text
}

// savedSlowly is what a writer saves.
func savedSlowly(w impl.Writer) string {
	return wordOf(varints(w.Name, w.Boot)) + wordOf(docBytesSlowly(w.Doc))
}

// areaIn is the text on a disk that has one.
func areaIn(d impl.Disk) area {
	head := []byte(readSlowly(d, 0))
	var numbers [3]int64
	for i := range numbers {
		n, size := binary.Varint(head)
		numbers[i], head = n, head[size:]
	}
	a := area{disk: d, gen: numbers[0], side: int(numbers[1])}
	for at := 1 + a.side*halfOf(d); int64(len(a.text)) < numbers[2]; at++ {
		a.text += readSlowly(d, int64(at))
	}
	a.text = a.text[:numbers[2]]
	return a
}

// commitSlowly is what Commit is to answer to a right writer, on whose disk there is a text.
func commitSlowly(w impl.Writer, steps int64) impl.WriterOut {
	a, text := areaIn(w.Disk), savedSlowly(w)
	if len(text) > roomOf(w.Disk) || a.gen >= 1000000 {
		return writerFault(impl.ErrFull)
	}
	put := putSlowly(a, text, steps)
	if put.Code != impl.OK {
		return writerFault(put.Code)
	}
	return impl.WriterOut{Writer: withDisk(w, put.Disk)}
}

// openSlowly is what OpenDisk is to answer of a disk on which a right writer saved this one.
func openSlowly(d impl.Disk, saved impl.Writer) impl.WriterOut {
	if saved.Boot == 900 {
		return writerFault(impl.ErrFull)
	}
	saved.Boot++
	return commitSlowly(withDisk(saved, d), math.MaxInt64)
}

// savedOn is a writer, of whom all is saved on its disk, which had other things on it.
func savedOn(w impl.Writer, sectors int, gen int64, side int) impl.Writer {
	return withDisk(w, areaOn(filled(sectors), gen, side, savedSlowly(w)).disk)
}

// sectorsFor is how many sectors a disk has that has just room for what a writer saves.
func sectorsFor(w impl.Writer) int {
	return 1 + 2*max(1, len(chunksOf(savedSlowly(w))))
}

// docOfBytes is a doc of which Name 3 and Boot 7 save so many bytes, if there is one.
func docOfBytes(bytes int) (impl.Doc, bool) {
	for many := range impl.MaxItems + 1 {
		d := typed(2, printed(many))
		for holes := 0; holes <= impl.MaxPend; holes++ {
			lacks := bytes - len(savedSlowly(impl.Writer{Name: 3, Boot: 7, Doc: d}))
			if lacks == 0 {
				return d, true
			}
			// A hole of a client below 64 has two bytes, one of a higher client three.
			if lacks == 3 {
				d = holed(d, named(64, int64(holes)))
			} else {
				d = holed(d, named(3, int64(holes)))
			}
		}
	}
	return impl.Doc{}, false
}

// rightWriters are right ones, up to the limits. Not all have a text on their disk.
func rightWriters() map[string]impl.Writer {
	docs, disk := rightDocs(), areaOn(filled(64), 2, 1, "ab").disk
	list := map[string]impl.Writer{
		"the first":                     {Name: 1, Boot: 1, Disk: impl.DiskNew(1)},
		"the last, with all there may":  {Name: impl.MaxName, Boot: impl.MaxBoot, Doc: docs["the most of all"], Disk: diskOf(impl.MaxSectors, mostPending)},
		"the first name, the last boot": {Name: 1, Boot: impl.MaxBoot, Doc: handed(), Disk: disk},
		"the last name, the first boot": {Name: impl.MaxName, Boot: 1, Doc: handed(), Disk: disk},
		"it wrote itself":               {Name: 4, Boot: 2, Doc: typed(4002, "abc"), Disk: disk},
		"it waits for itself":           {Name: 4, Boot: 2, Doc: waiting(typed(4002, "abc"), letter(named(4002, 4), none, none, "e")), Disk: disk},
		"another boot of it waits":      {Name: 4, Boot: 2, Doc: waiting(typed(4002, "abc"), letter(named(4001, 1), none, none, "e")), Disk: disk},
	}
	for what, d := range docs {
		list["a doc: "+what] = impl.Writer{Name: 3, Boot: 7, Doc: d, Disk: disk}
	}
	for what, d := range rightDisks() {
		list["a disk: "+what] = impl.Writer{Name: 5, Boot: 63, Doc: handed(), Disk: d}
	}
	for what, a := range rightAreas() {
		list["a text on the disk: "+what] = impl.Writer{Name: 6, Boot: 64, Doc: handed(), Disk: a.disk}
	}
	return list
}

// wrongNumbers are no names and no boots, of which most are the highest.
func wrongNumbers(most int64) []int64 {
	return []int64{math.MinInt64, -1 << 32, -1, 0, most + 1, most + 2, 1000, 9999, 1<<32 + 1, math.MaxInt64}
}

// wrongWriters are not right, each for one thing.
func wrongWriters() map[string]impl.Writer {
	good := savedOn(impl.Writer{Name: 3, Boot: 7, Doc: typed(3007, "abc")}, 9, 2, 1)
	list := map[string]impl.Writer{
		"nothing":   {},
		"no disk":   withDisk(good, impl.Disk{}),
		"a doc":     {Doc: good.Doc},
		"no number": {Doc: good.Doc, Disk: good.Disk},
	}
	for _, n := range wrongNumbers(impl.MaxName) {
		w := good
		w.Name = n
		list["the name "+shown(n)] = w
	}
	for _, n := range wrongNumbers(impl.MaxBoot) {
		w := good
		w.Boot = n
		list["the boot "+shown(n)] = w
	}
	for what, d := range wrongDocs() {
		list["a doc: "+what] = withDoc(good, d)
	}
	for what, d := range wrongDisks() {
		list["a disk: "+what] = withDisk(good, d)
	}
	return list
}
