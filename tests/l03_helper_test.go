package tests

import (
	"encoding/binary"
	"math"
	"testing"

	"loop.example/g00576/impl"
)

// area is a disk with a text on it, and what there is to be read.
type area struct {
	disk impl.Disk
	text string
	gen  int64
	side int
}

func (a area) read() impl.AreaOut {
	return impl.AreaOut{Disk: a.disk, Text: a.text, Gen: a.gen}
}

// sameArea looks at all fields of an answer, those too that must be zero.
func sameArea(t *testing.T, what string, got impl.AreaOut, want impl.AreaOut) {
	t.Helper()
	got.Disk, want.Disk = plainDisk(got.Disk), plainDisk(want.Disk)
	same(t, what, got, want)
}

func areaFault(code int64) impl.AreaOut {
	return impl.AreaOut{Code: code}
}

// varints are numbers as the standard library puts them, one behind the other.
func varints(numbers ...int64) string {
	var b []byte
	for _, n := range numbers {
		b = binary.AppendVarint(b, n)
	}
	return string(b)
}

// headOf is a head as the standard library puts and sums it.
func headOf(gen int64, side int, bytes int) string {
	return sealed(varints(gen, int64(side), int64(bytes)))
}

// halfOf is how many sectors each side of a disk has.
func halfOf(d impl.Disk) int {
	return (len(d.Sectors) - 1) / 2
}

func roomOf(d impl.Disk) int {
	return halfOf(d) * impl.SectorSize
}

// chunksOf is a text cut into as few sectors as may be.
func chunksOf(text string) []string {
	var list []string
	for len(text) > impl.SectorSize {
		list = append(list, text[:impl.SectorSize])
		text = text[impl.SectorSize:]
	}
	if text != "" {
		list = append(list, text)
	}
	return list
}

// filled is a disk as it is when it has been used: whatever is not written anew has something else.
func filled(sectors int) impl.Disk {
	return diskOf(sectors, 0)
}

// areaOn is a disk on which a text stands, on one side, in the sectors themselves.
func areaOn(d impl.Disk, gen int64, side int, text string) area {
	d = diskTwin(d)
	d.Sectors[0] = headOf(gen, side, len(text))
	for i, chunk := range chunksOf(text) {
		d.Sectors[1+side*halfOf(d)+i] = chunk
	}
	return area{disk: d, text: text, gen: gen, side: side}
}

// unflushed is the same area, of which all is pending, behind other things, and none is in the sectors.
func unflushed(a area) area {
	d := impl.DiskNew(int64(len(a.disk.Sectors)))
	for at, data := range a.disk.Sectors {
		d = plus(plus(d, int64(at), "old"), int64(at), data)
	}
	a.disk = d
	return a
}

// laden is the same area with so many pending, all of the last sector.
func laden(a area, pending int) area {
	last := len(a.disk.Sectors) - 1
	for range pending {
		a.disk = plus(a.disk, int64(last), a.disk.Sectors[last])
	}
	return a
}

// brimful is the same area, of which each sector but the head's is filled up behind what it has.
func brimful(a area) area {
	a.disk = diskTwin(a.disk)
	for at := 1; at < len(a.disk.Sectors); at++ {
		a.disk.Sectors[at] += mixed(impl.SectorSize)[len(a.disk.Sectors[at]):]
	}
	return a
}

// rightAreas are disks on which a text stands, up to the limits; none of a number with no next one.
func rightAreas() map[string]area {
	overfull := areaOn(filled(9), 3, 0, mixed(70))
	overfull.disk.Sectors[2] += "behind the text"
	return map[string]area{
		"no text":                     areaOn(impl.DiskNew(3), 0, 0, ""),
		"no text on the other side":   areaOn(filled(3), 1, 1, ""),
		"a byte":                      areaOn(impl.DiskNew(3), 1, 1, "\x00"),
		"the smallest room, full":     areaOn(filled(3), 2, 0, mixed(64)),
		"one sector of no side":       areaOn(filled(4), 3, 1, mixed(64)),
		"one byte less than a sector": areaOn(filled(5), 4, 1, mixed(63)),
		"one byte more":               areaOn(filled(5), 5, 1, mixed(65)),
		"two full sectors":            areaOn(filled(5), 6, 0, mixed(128)),
		"all bytes there are":         areaOn(filled(12), 7, 1, everyByte()),
		"the largest room, full":      areaOn(filled(64), 8, 0, mixed(1984)),
		"the other side of it, full":  areaOn(filled(64), 9, 1, mixed(1984)),
		"63 sectors, full":            areaOn(filled(63), 10, 1, mixed(1984)),
		"more in the last sector":     overfull,
		"the highest with a next one": areaOn(filled(5), impl.MaxTime-1, 0, "a"),
		"no sides at all":             areaOn(filled(1), 1, 0, ""),
		"no sides, of two sectors":    areaOn(filled(2), 1, 1, ""),
		"all of it pending":           unflushed(areaOn(filled(9), 2, 1, mixed(100))),
		"all pending, 64 sectors":     unflushed(areaOn(filled(64), 2, 0, mixed(1984))),
		"room for one pending":        laden(areaOn(filled(7), 2, 1, "ab"), mostPending-1),
		"room for two pending":        laden(areaOn(filled(7), 2, 0, "ab"), mostPending-2),
		"no room for one pending":     laden(areaOn(filled(7), 2, 1, "ab"), mostPending),
	}
}

// lastAreas have a number that has no next one.
func lastAreas() map[string]area {
	return map[string]area{
		"the highest":    areaOn(filled(5), impl.MaxTime, 0, "ab"),
		"one higher":     areaOn(filled(5), impl.MaxTime+1, 1, ""),
		"much higher":    areaOn(filled(64), 1<<40, 1, mixed(1984)),
		"as high as any": areaOn(filled(3), math.MaxInt64, 0, mixed(64)),
	}
}

// allAreas are all from which a text can be read.
func allAreas() map[string]area {
	all := rightAreas()
	for what, a := range lastAreas() {
		all[what] = a
	}
	return all
}

// wrongArea is a right disk from which no text can be read.
type wrongArea struct {
	disk impl.Disk
	code int64
}

// headed is a disk with this in its first sector.
func headed(d impl.Disk, first string) impl.Disk {
	d = diskTwin(d)
	d.Sectors[0] = first
	return d
}

func wrongAreas() map[string]wrongArea {
	good := areaOn(filled(5), 3, 1, mixed(100)).disk
	full := headed(filled(64), headOf(1, 0, 1984))
	for i := range 31 {
		full.Sectors[1+i] = mixed(impl.SectorSize)
	}
	list := map[string]wrongArea{
		"never formatted":         {impl.DiskNew(5), impl.ErrShort},
		"three bytes":             {headed(good, "\x00\x00\x00"), impl.ErrShort},
		"four bytes":              {headed(good, "\x00\x00\x00\x01"), impl.ErrSum},
		"a byte of it turned":     {headed(good, "\x07"+good.Sectors[0][1:]), impl.ErrSum},
		"a byte of it lost":       {headed(good, good.Sectors[0][1:]), impl.ErrSum},
		"a byte behind it":        {headed(good, good.Sectors[0]+"\x00"), impl.ErrSum},
		"pending, a head no more": {plus(good, 0, ""), impl.ErrShort},
		"pending, not sealed":     {plus(good, 0, "abcde"), impl.ErrSum},
		"pending, not a head":     {plus(good, 0, sealed("ab")), impl.ErrSyntax},
		"too short by one":        {headed(full, headOf(1, 0, 1985)), impl.ErrSyntax},
		"pending, text cut":       {plus(good, 3, "cut"), impl.ErrSum},
		"pending, a byte cut":     {plus(good, 4, mixed(35)), impl.ErrSum},
		"a new side is empty":     {headed(impl.DiskNew(3), headOf(1, 1, 1)), impl.ErrSum},
		"no room, no byte there":  {headed(impl.DiskNew(3), headOf(1, 1, 65)), impl.ErrSyntax},
		"no sides, but a byte":    {headed(filled(1), headOf(0, 0, 1)), impl.ErrSyntax},
		"no sides, and a sector":  {headed(filled(2), headOf(0, 0, 1)), impl.ErrSyntax},
	}
	full.Sectors[31] = mixed(impl.SectorSize - 1)
	list["its last byte is lost"] = wrongArea{full, impl.ErrSum}
	for what, body := range noHeads() {
		list["no head: "+what] = wrongArea{headed(good, sealed(body)), impl.ErrSyntax}
	}
	for what, d := range sidesCut() {
		list["a sector cut: "+what] = wrongArea{d, impl.ErrSum}
	}
	return list
}

// sidesCut are disks on which a sector of the text has too few bytes, but all of the side together have
// as many as the head tells.
func sidesCut() map[string]impl.Disk {
	sector := mixed(impl.SectorSize)
	ahead := headed(impl.DiskNew(7), headOf(2, 1, 6))
	ahead.Sectors[4], ahead.Sectors[6] = "abc", "defg"
	return map[string]impl.Disk{
		"the first, short ones":        {Sectors: []string{headOf(1, 0, 4), "ab", "cd", "", ""}},
		"the only one is empty":        {Sectors: []string{headOf(1, 0, 1), "", "a", "", ""}},
		"the only one has less":        ahead,
		"the first has a byte less":    {Sectors: []string{headOf(3, 1, 70), "", "", "", sector[:63], "abcdefgh", sector}},
		"the first is empty":           {Sectors: []string{headOf(3, 1, 64), "", "", "", "", sector, sector}},
		"the middle one":               {Sectors: []string{headOf(3, 0, 129), sector, sector[:63], sector, "", "", ""}},
		"the last has a byte less":     {Sectors: []string{headOf(3, 1, 70), "", "", "", sector, "abcde", sector}},
		"the last is empty":            {Sectors: []string{headOf(3, 0, 65), sector, "", sector, "", "", ""}},
		"pending, ahead of a full one": plus(areaOn(filled(9), 2, 0, mixed(192)).disk, 2, sector[:63]),
		"pending, behind a full one":   plus(brimful(areaOn(filled(9), 2, 0, mixed(70))).disk, 2, "abcde"),
		"pending, and more behind it":  plus(plus(areaOn(filled(9), 2, 1, mixed(64)).disk, 5, sector[:63]), 6, sector),
	}
}

// noHeads are well sealed, and no heads of five sectors.
func noHeads() map[string]string {
	return map[string]string{
		"nothing":                "",
		"one number":             varints(1),
		"two numbers":            varints(1, 0),
		"the third is cut":       varints(1, 0) + "\x80",
		"only cut":               "\x80\x80",
		"four numbers":           varints(1, 0, 3, 0),
		"a byte behind":          varints(1, 0, 3) + "\x80",
		"a number below 0":       varints(-1, 0, 3),
		"far below 0":            varints(math.MinInt64, 0, 3),
		"side 2":                 varints(1, 2, 3),
		"side -1":                varints(1, -1, 3),
		"side 2 to the 32nd":     varints(1, 1<<32, 3),
		"the highest side":       varints(1, math.MaxInt64, 3),
		"bytes below 0":          varints(1, 0, -1),
		"bytes far below 0":      varints(1, 0, math.MinInt64),
		"a byte too many":        varints(1, 0, 129),
		"far too many bytes":     varints(1, 1, math.MaxInt64),
		"more bytes than needed": "\x82\x00" + varints(0, 3),
		"needless bytes, last":   varints(1, 0) + "\x86\x00",
		"more than 64 bits":      "\xff\xff\xff\xff\xff\xff\xff\xff\xff\x02" + varints(0, 3),
		"another text":           "a text that is no head at all",
	}
}
