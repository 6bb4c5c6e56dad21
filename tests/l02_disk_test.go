package tests

import (
	"fmt"
	"math"
	"math/rand"
	"strings"
	"testing"

	"loop.example/g00576/impl"
)

// nowhere are places that no disk of so many sectors has.
func nowhere(sectors int) []int64 {
	return []int64{-1, -2, math.MinInt64, -1 << 32, int64(sectors), int64(sectors) + 1, 1 << 32, math.MaxInt64}
}

// readSlowly is what a sector of a right disk reads as, looked for from the last pending one back.
func readSlowly(d impl.Disk, at int64) string {
	for i := len(d.Pending) - 1; i >= 0; i-- {
		if d.Pending[i].At == at {
			return d.Pending[i].Data
		}
	}
	return d.Sectors[at]
}

func TestDiskLimits(t *testing.T) {
	same(t, "constants", []int64{impl.MaxSectors, impl.SectorSize}, []int64{64, 64})
}

func TestDiskRight(t *testing.T) {
	for what, d := range rightDisks() {
		same(t, what, impl.DiskRight(d), true)
	}
	for what, d := range wrongDisks() {
		same(t, what, impl.DiskRight(d), false)
	}
}

func TestDiskRightByNumbers(t *testing.T) {
	for n := range 130 {
		same(t, fmt.Sprintf("%d sectors", n), impl.DiskRight(impl.Disk{Sectors: make([]string, n)}), n >= 1 && n <= 64)
		sector := impl.Disk{Sectors: []string{"", strings.Repeat("x", n), ""}}
		same(t, fmt.Sprintf("a sector of %d bytes", n), impl.DiskRight(sector), n <= 64)
		same(t, fmt.Sprintf("%d bytes pending", n), impl.DiskRight(plus(impl.DiskNew(3), 2, strings.Repeat("x", n))), n <= 64)
	}
	for n := range 450 {
		same(t, fmt.Sprintf("%d pending", n), impl.DiskRight(diskOf(2, n)), n <= 200)
	}
	for n := 1; n <= impl.MaxSectors; n++ {
		for at := int64(-2); at < impl.MaxSectors+2; at++ {
			same(t, fmt.Sprintf("pending at %d of %d", at, n), impl.DiskRight(plus(impl.DiskNew(int64(n)), at, "")), at >= 0 && at < int64(n))
		}
	}
}

func TestDiskNew(t *testing.T) {
	for n := int64(-3); n < 500; n++ {
		var want impl.Disk
		if n >= 1 && n <= 64 {
			want.Sectors = make([]string, n)
		}
		sameDisk(t, fmt.Sprintf("%d sectors", n), impl.DiskNew(n), want)
	}
	for _, n := range []int64{math.MinInt64, math.MaxInt64, 1<<32 + 1, -1<<32 + 1, 256 + 1, -256 + 1} {
		sameDisk(t, fmt.Sprintf("%d sectors", n), impl.DiskNew(n), impl.Disk{})
	}
}

// Promise 3: what is written is read, and no other sector reads as another one.
func TestWhatIsWrittenIsRead(t *testing.T) {
	for what, d := range rightDisks() {
		if len(d.Pending) == mostPending {
			continue
		}
		for at := range int64(len(d.Sectors)) {
			data := fmt.Sprint("written at ", at)
			written := impl.DiskWrite(d, at, data)
			sameOut(t, what+": "+data, written, impl.DiskOut{Disk: plus(d, at, data)})
			for other := range int64(len(d.Sectors)) {
				want := readSlowly(d, other)
				if other == at {
					want = data
				}
				sameOut(t, fmt.Sprintf("%s: %s, read at %d", what, data, other), impl.DiskRead(written.Disk, other), impl.DiskOut{Disk: written.Disk, Data: want})
			}
		}
	}
}

func TestDiskReadOfRightDisks(t *testing.T) {
	for what, d := range rightDisks() {
		for at := range int64(len(d.Sectors)) {
			sameOut(t, fmt.Sprintf("%s, at %d", what, at), impl.DiskRead(d, at), impl.DiskOut{Disk: d, Data: readSlowly(d, at)})
		}
	}
}

func TestDiskReadIsTheLastPending(t *testing.T) {
	d := impl.Disk{Sectors: []string{"old", "other"}}
	for _, data := range []string{"one", "two", "", "one", strings.Repeat("x", 64), ""} {
		d = impl.DiskWrite(d, 0, data).Disk
		sameOut(t, "the last one", impl.DiskRead(d, 0), impl.DiskOut{Disk: d, Data: data})
		sameOut(t, "the other sector", impl.DiskRead(d, 1), impl.DiskOut{Disk: d, Data: "other"})
		same(t, "the sector itself", d.Sectors, []string{"old", "other"})
	}
	same(t, "all are pending", len(d.Pending), 6)
}

func TestDiskReadFaults(t *testing.T) {
	for what, d := range wrongDisks() {
		for _, at := range append(nowhere(len(d.Sectors)), 0, 1) {
			sameOut(t, fmt.Sprintf("%s, at %d", what, at), impl.DiskRead(d, at), diskFault(impl.ErrForm))
		}
	}
	for what, d := range rightDisks() {
		for _, at := range nowhere(len(d.Sectors)) {
			sameOut(t, fmt.Sprintf("%s, at %d", what, at), impl.DiskRead(d, at), diskFault(impl.ErrRange))
		}
	}
}

func TestDiskWriteSizes(t *testing.T) {
	d := diskOf(3, 2)
	for n := range 200 {
		data := mixed(n)
		want := impl.DiskOut{Disk: plus(d, 2, data)}
		if n > 64 {
			want = diskFault(impl.ErrForm)
		}
		sameOut(t, fmt.Sprintf("%d bytes", n), impl.DiskWrite(d, 2, data), want)
	}
	sameOut(t, "the longest text", impl.DiskWrite(d, 2, mixed(impl.MaxBytes)), diskFault(impl.ErrForm))
	sameOut(t, "a longer one", impl.DiskWrite(d, 2, mixed(impl.MaxBytes+1)), diskFault(impl.ErrSize))
}

func TestDiskWriteUntilFull(t *testing.T) {
	d := impl.DiskNew(2)
	for i := range mostPending {
		data := numbered(i)
		out := impl.DiskWrite(d, int64(i%2), data)
		sameOut(t, fmt.Sprintf("write %d", i), out, impl.DiskOut{Disk: plus(d, int64(i%2), data)})
		d = out.Disk
	}
	sameOut(t, "one too many", impl.DiskWrite(d, 0, ""), diskFault(impl.ErrFull))
	d = impl.DiskFlush(d).Disk
	sameOut(t, "flushed, there is room", impl.DiskWrite(d, 0, "a"), impl.DiskOut{Disk: plus(d, 0, "a")})
}

// Of two faults at once that one is told that is named first.
func TestDiskWriteFaultsInOrder(t *testing.T) {
	for what, d := range wrongDisks() {
		for _, at := range append(nowhere(len(d.Sectors)), 0, 1) {
			for _, n := range []int{0, 1, 64, 65, impl.MaxBytes} {
				sameOut(t, fmt.Sprintf("%s, %d bytes at %d", what, n, at), impl.DiskWrite(d, at, mixed(n)), diskFault(impl.ErrForm))
			}
			sameOut(t, fmt.Sprintf("%s, too much at %d", what, at), impl.DiskWrite(d, at, mixed(impl.MaxBytes+1)), diskFault(impl.ErrSize))
		}
	}
	for what, d := range rightDisks() {
		for _, at := range nowhere(len(d.Sectors)) {
			what := fmt.Sprintf("%s, at %d", what, at)
			sameOut(t, what, impl.DiskWrite(d, at, ""), diskFault(impl.ErrRange))
			sameOut(t, what, impl.DiskWrite(d, at, mixed(64)), diskFault(impl.ErrRange))
			sameOut(t, what, impl.DiskWrite(d, at, mixed(65)), diskFault(impl.ErrForm))
			sameOut(t, what, impl.DiskWrite(d, at, mixed(impl.MaxBytes)), diskFault(impl.ErrForm))
			sameOut(t, what, impl.DiskWrite(d, at, mixed(impl.MaxBytes+1)), diskFault(impl.ErrSize))
		}
	}
	full := diskOf(3, mostPending)
	sameOut(t, "full", impl.DiskWrite(full, 1, "a"), diskFault(impl.ErrFull))
	sameOut(t, "full, and too long", impl.DiskWrite(full, 1, mixed(65)), diskFault(impl.ErrForm))
	sameOut(t, "full, and much too long", impl.DiskWrite(full, 1, mixed(impl.MaxBytes+1)), diskFault(impl.ErrSize))
}

// Promise 3: whatever is done with a disk, a plain list that is written at once reads the same.
func TestDiskAgainstAList(t *testing.T) {
	r := rand.New(rand.NewSource(3))
	for range 60 {
		n := 1 + r.Intn(impl.MaxSectors)
		d, list := impl.DiskNew(int64(n)), make([]string, n)
		for range 300 {
			at, data := r.Intn(n), numbered(r.Intn(256))
			if len(d.Pending) == mostPending || r.Intn(70) == 0 {
				d = impl.DiskFlush(d).Disk
			}
			d = impl.DiskWrite(d, int64(at), data).Disk
			list[at] = data
			at = r.Intn(n)
			same(t, "read", impl.DiskRead(d, int64(at)).Data, list[at])
		}
		sameOut(t, "flushed", impl.DiskFlush(d), impl.DiskOut{Disk: impl.Disk{Sectors: list}})
	}
}
