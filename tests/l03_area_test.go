package tests

import (
	"fmt"
	"math"
	"strings"
	"testing"

	"loop.example/g00576/impl"
)

func TestAreaRoom(t *testing.T) {
	for n := 1; n <= impl.MaxSectors; n++ {
		want := int64((n - 1) / 2 * 64)
		same(t, fmt.Sprintf("%d sectors", n), impl.AreaRoom(impl.DiskNew(int64(n))), want)
		same(t, fmt.Sprintf("%d sectors in use", n), impl.AreaRoom(diskOf(n, mostPending)), want)
	}
	for what, d := range wrongDisks() {
		same(t, what, impl.AreaRoom(d), int64(0))
	}
	same(t, "the largest", impl.AreaRoom(impl.DiskNew(impl.MaxSectors)), int64(1984))
}

// A format writes the head alone, and flushes what was pending.
func TestAreaFormat(t *testing.T) {
	for what, d := range rightDisks() {
		want := areaFault(impl.ErrFull)
		if len(d.Sectors) >= 3 && len(d.Pending) < mostPending {
			want = impl.AreaOut{Disk: headed(settledSlowly(d, keepAll), headOf(0, 0, 0))}
		}
		sameArea(t, what, impl.AreaFormat(d), want)
	}
	for n := 1; n <= impl.MaxSectors; n++ {
		want := areaFault(impl.ErrFull)
		if n >= 3 {
			want = impl.AreaOut{Disk: headed(impl.DiskNew(int64(n)), "\x00\x00\x00\x12\xd9\x41\xff")}
		}
		sameArea(t, fmt.Sprintf("%d sectors", n), impl.AreaFormat(impl.DiskNew(int64(n))), want)
	}
}

func TestAreaFormatWhenMuchIsPending(t *testing.T) {
	d := diskOf(3, mostPending-1)
	want := impl.AreaOut{Disk: headed(settledSlowly(d, keepAll), headOf(0, 0, 0))}
	sameArea(t, "room for one", impl.AreaFormat(d), want)
	sameArea(t, "room for none", impl.AreaFormat(diskOf(3, mostPending)), areaFault(impl.ErrFull))
	headPending := plus(plus(impl.DiskNew(3), 0, "a"), 0, headOf(7, 1, 3))
	sameArea(t, "another head is pending", impl.AreaFormat(headPending), impl.AreaOut{Disk: headed(impl.DiskNew(3), headOf(0, 0, 0))})
}

func TestAreaFormatFaults(t *testing.T) {
	for what, d := range wrongDisks() {
		sameArea(t, what, impl.AreaFormat(d), areaFault(impl.ErrForm))
	}
}

func TestFormattedIsReadAsNoText(t *testing.T) {
	for n := int64(3); n <= impl.MaxSectors; n++ {
		d := impl.AreaFormat(impl.DiskNew(n)).Disk
		sameArea(t, fmt.Sprintf("%d sectors", n), impl.AreaRead(d), impl.AreaOut{Disk: d})
	}
	for what, a := range rightAreas() {
		if roomOf(a.disk) == 0 || len(a.disk.Pending) == mostPending {
			continue
		}
		d := impl.AreaFormat(a.disk).Disk
		sameArea(t, what+", formatted again", impl.AreaRead(d), impl.AreaOut{Disk: d})
	}
}

func TestAreaRead(t *testing.T) {
	for what, a := range allAreas() {
		sameArea(t, what, impl.AreaRead(a.disk), a.read())
	}
}

func TestAreaReadOfEachLength(t *testing.T) {
	for _, sectors := range []int{3, 4, 5, 8, 64} {
		d := filled(sectors)
		for n := range roomOf(d) + 1 {
			a := areaOn(d, int64(n), n%2, mixed(n))
			sameArea(t, fmt.Sprintf("%d bytes, %d sectors", n, sectors), impl.AreaRead(a.disk), a.read())
		}
	}
}

// The sides are told apart, and stand where the document puts them.
func TestAreaReadOfEachSide(t *testing.T) {
	for n := 3; n <= impl.MaxSectors; n++ {
		d := impl.DiskNew(int64(n))
		var first, second string
		for i := range halfOf(d) {
			d.Sectors[1+i], d.Sectors[1+halfOf(d)+i] = strings.Repeat("1", 64), strings.Repeat("2", 64)
			first, second = first+d.Sectors[1+i], second+d.Sectors[1+halfOf(d)+i]
		}
		for side, want := range []string{first, second} {
			d = headed(d, headOf(5, side, len(want)))
			sameArea(t, fmt.Sprintf("%d sectors, side %d", n, side), impl.AreaRead(d), impl.AreaOut{Disk: d, Text: want, Gen: 5})
		}
	}
}

// What is pending is read ahead of what is in the sectors.
func TestAreaReadOfPending(t *testing.T) {
	d := areaOn(filled(5), 3, 0, "first").disk
	d = plus(d, 1, "other")
	sameArea(t, "the text", impl.AreaRead(d), impl.AreaOut{Disk: d, Text: "other", Gen: 3})
	d = plus(d, 0, headOf(4, 0, 2))
	sameArea(t, "the head", impl.AreaRead(d), impl.AreaOut{Disk: d, Text: "ot", Gen: 4})
	d = plus(d, 1, "more than that")
	sameArea(t, "the text again", impl.AreaRead(d), impl.AreaOut{Disk: d, Text: "mo", Gen: 4})
}

// Promise 4: each sector of a text must have its whole part of it, all but the last one 64 bytes. Each
// one is cut to each length while all others are full; those behind the text may have any.
func TestEachSectorOfATextCut(t *testing.T) {
	for _, n := range []int{0, 1, 63, 64, 65, 127, 128, 129, 191, 192} {
		for side := range 2 {
			a := brimful(areaOn(impl.DiskNew(7), 2, side, mixed(n)))
			for i := range halfOf(a.disk) {
				part := min(max(n-i*impl.SectorSize, 0), impl.SectorSize)
				at := 1 + side*halfOf(a.disk) + i
				for left := range impl.SectorSize + 1 {
					what := fmt.Sprintf("%d bytes, side %d, sector %d cut to %d", n, side, at, left)
					cutInAndPending(t, what, a, at, left, left >= part)
				}
			}
		}
	}
}

// cutInAndPending looks at a text of which one sector is cut: the sector itself, and what is pending of it.
func cutInAndPending(t *testing.T, what string, a area, at int, left int, whole bool) {
	t.Helper()
	full, cut := a.disk.Sectors[at], a.disk.Sectors[at][:left]
	stands := diskTwin(a.disk)
	stands.Sectors[at] = cut
	for how, d := range map[string]impl.Disk{
		"in it":       stands,
		"pending":     plus(a.disk, int64(at), cut),
		"and pending": plus(plus(stands, int64(at), full), int64(at), cut),
	} {
		read, put := areaFault(impl.ErrSum), areaFault(impl.ErrSum)
		if whole {
			read = impl.AreaOut{Disk: d, Text: a.text, Gen: a.gen}
			put = putSlowly(area{disk: d, text: a.text, gen: a.gen, side: a.side}, "x", 1)
		}
		sameArea(t, what+" "+how, impl.AreaRead(d), read)
		sameArea(t, what+" "+how+", put", impl.AreaPut(d, "x", 1), put)
	}
	mended := plus(stands, int64(at), full)
	sameArea(t, what+", mended", impl.AreaRead(mended), impl.AreaOut{Disk: mended, Text: a.text, Gen: a.gen})
}

// The first sector is the last one of a short text, which may have less or more than is left there.
func TestAreaReadOfOneSectorNotFull(t *testing.T) {
	d := impl.Disk{Sectors: []string{headOf(2, 1, 3), "", "", "", "abc", "", "defg"}}
	sameArea(t, "all there is", impl.AreaRead(d), impl.AreaOut{Disk: d, Text: "abc", Gen: 2})
	d = headed(d, headOf(2, 1, 2))
	sameArea(t, "more than is left", impl.AreaRead(d), impl.AreaOut{Disk: d, Text: "ab", Gen: 2})
	for n := 4; n <= 7; n++ {
		sameArea(t, fmt.Sprintf("%d bytes", n), impl.AreaRead(headed(d, headOf(2, 1, n))), areaFault(impl.ErrSum))
	}
}

func TestAreaReadFaults(t *testing.T) {
	for what, d := range wrongDisks() {
		sameArea(t, what, impl.AreaRead(d), areaFault(impl.ErrForm))
	}
	for what, a := range wrongAreas() {
		sameArea(t, what, impl.AreaRead(a.disk), areaFault(a.code))
	}
}

// A disk that is not right is told as such, whatever stands in its head.
func TestAreaReadFormFirst(t *testing.T) {
	good := areaOn(filled(5), 3, 1, "ab").disk
	sameArea(t, "a wrong place pending", impl.AreaRead(plus(good, 5, "")), areaFault(impl.ErrForm))
	sameArea(t, "a sector too long", impl.AreaRead(headed(good, strings.Repeat("x", 65))), areaFault(impl.ErrForm))
	sameArea(t, "pending too long", impl.AreaRead(plus(good, 0, strings.Repeat("x", 65))), areaFault(impl.ErrForm))
}

func TestAreaReadOfTheLongestHead(t *testing.T) {
	a := areaOn(filled(64), math.MaxInt64, 1, mixed(1984))
	same(t, "its bytes", len(a.disk.Sectors[0]), 10+1+2+4)
	sameArea(t, "the head", impl.AreaRead(a.disk), a.read())
}

// One bit turned anywhere in the head is told.
func TestAreaReadOfAHeadTurned(t *testing.T) {
	good := areaOn(filled(9), 300, 1, mixed(200)).disk
	whole := []byte(good.Sectors[0])
	for i := range whole {
		for bit := range 8 {
			whole[i] ^= 1 << bit
			sameArea(t, fmt.Sprintf("byte %d, bit %d", i, bit), impl.AreaRead(headed(good, string(whole))), areaFault(impl.ErrSum))
			whole[i] ^= 1 << bit
		}
	}
}
