package tests

import (
	"fmt"
	"math"
	"math/rand"
	"testing"

	"loop.example/g00576/impl"
)

// settledSlowly is a disk in the sectors of which those pending stand, one by one, that are kept.
func settledSlowly(d impl.Disk, kept func(i int) bool) impl.Disk {
	sectors := diskTwin(d).Sectors
	for i, p := range d.Pending {
		if kept(i) {
			sectors[p.At] = p.Data
		}
	}
	return impl.Disk{Sectors: sectors}
}

func keepAll(int) bool {
	return true
}

// someKeeps are lists that keep nothing, all, or some, and lists of other lengths than what is pending.
func someKeeps() [][]int64 {
	all := make([]int64, impl.MaxList)
	for i := range all {
		all[i] = int64(i + 1)
	}
	return [][]int64{nil, {}, {0}, {1}, {-1}, {2, 0, 1}, {math.MaxInt64, math.MinInt64}, {0, 0, 0, 0, 0, 1 << 32}, make([]int64, impl.MaxList), all, all[:200], all[:199]}
}

func keptBy(keep []int64) func(i int) bool {
	return func(i int) bool { return i < len(keep) && keep[i] > 0 }
}

func TestDiskFlushOfRightDisks(t *testing.T) {
	for what, d := range rightDisks() {
		out := impl.DiskFlush(d)
		sameOut(t, what, out, impl.DiskOut{Disk: settledSlowly(d, keepAll)})
		sameOut(t, what+", once more", impl.DiskFlush(out.Disk), out)
	}
}

func TestDiskFlushIsInOrder(t *testing.T) {
	d := impl.Disk{Sectors: []string{"old", "stays", "old"}, Pending: []impl.Pending{{At: 0, Data: "b"}, {At: 2, Data: "x"}, {At: 0, Data: "a"}, {At: 2, Data: ""}}}
	sameOut(t, "the last ones", impl.DiskFlush(d), impl.DiskOut{Disk: impl.Disk{Sectors: []string{"a", "stays", ""}}})
}

func TestDiskFlushFaults(t *testing.T) {
	for what, d := range wrongDisks() {
		sameOut(t, what, impl.DiskFlush(d), diskFault(impl.ErrForm))
	}
}

// A flush changes nothing that is read.
func TestFlushedReadsTheSame(t *testing.T) {
	for what, d := range rightDisks() {
		flushed := impl.DiskFlush(d).Disk
		for at := range int64(len(d.Sectors)) {
			sameOut(t, fmt.Sprintf("%s, at %d", what, at), impl.DiskRead(flushed, at), impl.DiskOut{Disk: flushed, Data: readSlowly(d, at)})
		}
	}
}

// Promise 3: flushed, it is there behind any crash, whatever is written behind the flush and lost.
func TestFlushedIsThereBehindAnyCrash(t *testing.T) {
	for what, d := range rightDisks() {
		flushed := impl.DiskFlush(d).Disk
		later := impl.DiskWrite(impl.DiskWrite(flushed, 0, "later").Disk, int64(len(d.Sectors)-1), "last").Disk
		for _, keep := range someKeeps() {
			sameDisk(t, fmt.Sprintf("%s, keep %.60v", what, keep), impl.DiskCrash(flushed, keep), flushed)
			sameDisk(t, fmt.Sprintf("%s, written again, keep %.60v", what, keep), impl.DiskCrash(later, keep), settledSlowly(later, keptBy(keep)))
		}
		sameDisk(t, what+", written again, nothing kept", impl.DiskCrash(later, nil), flushed)
	}
}

func TestDiskCrashOfRightDisks(t *testing.T) {
	for what, d := range rightDisks() {
		for _, keep := range someKeeps() {
			sameDisk(t, fmt.Sprintf("%s, keep %.60v", what, keep), impl.DiskCrash(d, keep), settledSlowly(d, keptBy(keep)))
		}
		sameDisk(t, what+", nothing kept", impl.DiskCrash(d, nil), impl.Disk{Sectors: d.Sectors})
	}
}

// Each choice of what a crash leaves, on sectors that are written more than once.
func TestDiskCrashOfEachChoice(t *testing.T) {
	d := impl.Disk{Sectors: []string{"zero", "one", "two"}}
	for i, at := range []int64{1, 0, 1, 2, 0, 1} {
		d = plus(d, at, numbered(i+65))
	}
	for choice := range 64 {
		keep := []int64{0, -1, 0, -2, 0, math.MinInt64}
		chosen := func(i int) bool { return choice>>i&1 == 1 }
		for i := range keep {
			if chosen(i) {
				keep[i] = int64(i + 1)
			}
		}
		want := settledSlowly(d, chosen)
		sameDisk(t, fmt.Sprintf("keep %v", keep), impl.DiskCrash(d, keep), want)
		sameDisk(t, fmt.Sprintf("keep %v and more", keep), impl.DiskCrash(d, append(keep, 1, 1, 1)), want)
	}
}

func TestDiskCrashKeepsByNumber(t *testing.T) {
	d := plus(impl.DiskNew(1), 0, "kept")
	for _, n := range []int64{math.MinInt64, -1 << 32, -2, -1, 0, 1, 2, 64, 256, 1 << 31, 1 << 32, math.MaxInt64} {
		want := ""
		if n > 0 {
			want = "kept"
		}
		sameDisk(t, fmt.Sprintf("keep %d", n), impl.DiskCrash(d, []int64{n}), impl.Disk{Sectors: []string{want}})
	}
}

func TestDiskCrashOfWrongDisks(t *testing.T) {
	for what, d := range wrongDisks() {
		for _, keep := range someKeeps() {
			sameDisk(t, fmt.Sprintf("%s, keep %.60v", what, keep), impl.DiskCrash(d, keep), d)
		}
	}
}

// A list that is too long is looked for ahead of all else.
func TestDiskCrashOfTooLongAList(t *testing.T) {
	for _, n := range []int{impl.MaxList + 1, impl.MaxList + 2, 2 * impl.MaxList} {
		for what, d := range rightDisks() {
			sameDisk(t, fmt.Sprintf("%s, %d kept", what, n), impl.DiskCrash(d, make([]int64, n)), impl.Disk{})
		}
		for what, d := range wrongDisks() {
			sameDisk(t, fmt.Sprintf("%s, %d kept", what, n), impl.DiskCrash(d, make([]int64, n)), impl.Disk{})
		}
	}
}

func TestDiskCrashAtRandom(t *testing.T) {
	r := rand.New(rand.NewSource(4))
	for range 500 {
		d := diskOf(1+r.Intn(impl.MaxSectors), 0)
		for range r.Intn(mostPending + 1) {
			d = plus(d, int64(r.Intn(len(d.Sectors))), numbered(r.Intn(256)))
		}
		keep := make([]int64, r.Intn(impl.MaxList+1))
		for i := range keep {
			keep[i] = int64(r.Intn(5) - 2)
		}
		sameDisk(t, "crash", impl.DiskCrash(d, keep), settledSlowly(d, keptBy(keep)))
	}
}

// diskCalls are all calls that answer with a disk of the one that is handed in.
func diskCalls() map[string]func(d impl.Disk, keep []int64) impl.Disk {
	return map[string]func(d impl.Disk, keep []int64) impl.Disk{
		"DiskRead":  func(d impl.Disk, _ []int64) impl.Disk { return impl.DiskRead(d, 0).Disk },
		"DiskWrite": func(d impl.Disk, _ []int64) impl.Disk { return impl.DiskWrite(d, 0, "new").Disk },
		"DiskFlush": func(d impl.Disk, _ []int64) impl.Disk { return impl.DiskFlush(d).Disk },
		"DiskCrash": impl.DiskCrash,
	}
}

// roomy is the same disk, with room behind its lists into which a call could write.
func roomy(d impl.Disk) impl.Disk {
	sectors := append(append(make([]string, 0, len(d.Sectors)+9), d.Sectors...), "behind", "behind")
	pending := append(append(make([]impl.Pending, 0, len(d.Pending)+9), d.Pending...), impl.Pending{At: 7, Data: "behind"})
	return impl.Disk{Sectors: sectors[:len(d.Sectors)], Pending: pending[:len(d.Pending)]}
}

// spoil turns every item of a disk, and the one behind each list, into something else.
func spoil(d impl.Disk) {
	sectors, pending := d.Sectors[:cap(d.Sectors)], d.Pending[:cap(d.Pending)]
	for i := range sectors {
		sectors[i] = "spoilt"
	}
	for i := range pending {
		pending[i] = impl.Pending{At: 1, Data: "spoilt"}
	}
}

// Nothing that is handed in is changed, and nothing of it is shared.
func TestDiskArgumentsStay(t *testing.T) {
	disks := rightDisks()
	for what, d := range wrongDisks() {
		disks["not right: "+what] = d
	}
	for name, call := range diskCalls() {
		for what, d := range disks {
			disksStay(t, name+", "+what, call, d)
		}
	}
}

// disksStay looks whether a call leaves the disk and the list as they are, and answers in memory of its own.
func disksStay(t *testing.T, what string, call func(d impl.Disk, keep []int64) impl.Disk, d impl.Disk) {
	t.Helper()
	given, keep := roomy(d), []int64{1, 0, 2, -1, 5}
	got := call(given, keep)
	want := diskTwin(got)
	sameDisk(t, what+": the disk", given, d)
	same(t, what+": the list", keep, []int64{1, 0, 2, -1, 5})
	same(t, what+": behind the sectors", given.Sectors[:len(d.Sectors)+2][len(d.Sectors):], []string{"behind", "behind"})
	same(t, what+": behind what is pending", given.Pending[:len(d.Pending)+1][len(d.Pending)], impl.Pending{At: 7, Data: "behind"})
	spoil(given)
	sameDisk(t, what+": the answer, when the disk is spoilt", got, want)
	given = roomy(d)
	spoil(call(given, keep))
	sameDisk(t, what+": the disk, when the answer is spoilt", given, d)
}

// Nothing is kept from one call to the next.
func TestDisksOfTwoCallsAreApart(t *testing.T) {
	one, two := impl.DiskNew(3), impl.DiskNew(3)
	spoil(one)
	sameDisk(t, "two new ones", two, impl.Disk{Sectors: make([]string, 3)})
	d := impl.DiskWrite(two, 0, "first").Disk
	left, right := impl.DiskWrite(d, 1, "left").Disk, impl.DiskWrite(d, 1, "right").Disk
	same(t, "one way", impl.DiskRead(left, 1).Data, "left")
	same(t, "the other way", impl.DiskRead(right, 1).Data, "right")
	same(t, "neither", impl.DiskRead(d, 1).Data, "")
	same(t, "the other way, flushed", impl.DiskFlush(right).Disk.Sectors, []string{"first", "right", ""})
}
