package tests

import (
	"math"
	"slices"
	"strings"
	"testing"

	"loop.example/g00576/impl"
)

const mostPending = 200

// plainDisk has none for an empty list: they are the same.
func plainDisk(d impl.Disk) impl.Disk {
	if len(d.Sectors) == 0 {
		d.Sectors = nil
	}
	if len(d.Pending) == 0 {
		d.Pending = nil
	}
	return d
}

func sameDisk(t *testing.T, what string, got impl.Disk, want impl.Disk) {
	t.Helper()
	same(t, what, plainDisk(got), plainDisk(want))
}

// sameOut looks at all fields of an answer, those too that must be zero.
func sameOut(t *testing.T, what string, got impl.DiskOut, want impl.DiskOut) {
	t.Helper()
	got.Disk, want.Disk = plainDisk(got.Disk), plainDisk(want.Disk)
	same(t, what, got, want)
}

func diskFault(code int64) impl.DiskOut {
	return impl.DiskOut{Code: code}
}

// diskTwin is the same disk, of which nothing is shared.
func diskTwin(d impl.Disk) impl.Disk {
	return impl.Disk{Sectors: slices.Clone(d.Sectors), Pending: slices.Clone(d.Pending)}
}

// plus is a disk on which one more is pending.
func plus(d impl.Disk, at int64, data string) impl.Disk {
	d = diskTwin(d)
	d.Pending = append(d.Pending, impl.Pending{At: at, Data: data})
	return d
}

// numbered is a text of 1 to SectorSize bytes that is unlike those of the 255 other numbers around.
func numbered(i int) string {
	return string([]byte{byte(i)}) + mixed(i%impl.SectorSize)
}

// diskOf is a disk of so many sectors, each unlike the others, and of so many pending on all of them.
func diskOf(sectors int, pending int) impl.Disk {
	var d impl.Disk
	for i := range sectors {
		d.Sectors = append(d.Sectors, numbered(i))
	}
	for i := range pending {
		d.Pending = append(d.Pending, impl.Pending{At: int64(i * 7 % sectors), Data: numbered(i + 100)})
	}
	return d
}

// rightDisks are right ones, up to the limits.
func rightDisks() map[string]impl.Disk {
	full := strings.Repeat("\xff", impl.SectorSize)
	return map[string]impl.Disk{
		"one empty sector":       {Sectors: []string{""}},
		"none as an empty list":  {Sectors: []string{""}, Pending: []impl.Pending{}},
		"a full sector":          {Sectors: []string{"", mixed(impl.SectorSize), full}},
		"the most sectors":       diskOf(impl.MaxSectors, 0),
		"pending at both ends":   {Sectors: []string{"a", "b", "c"}, Pending: []impl.Pending{{At: 2, Data: "x"}, {At: 0, Data: ""}}},
		"pending a full sector":  {Sectors: []string{"a"}, Pending: []impl.Pending{{At: 0, Data: full}}},
		"the most pending":       diskOf(3, mostPending),
		"the most of all":        diskOf(impl.MaxSectors, mostPending),
		"pending at the last":    plus(diskOf(impl.MaxSectors, 5), impl.MaxSectors-1, full),
		"pending twice the same": plus(plus(diskOf(2, 0), 1, "x"), 1, "x"),
	}
}

// wrongDisks are not right, each for one thing.
func wrongDisks() map[string]impl.Disk {
	long := strings.Repeat("x", impl.SectorSize+1)
	last := diskOf(impl.MaxSectors, mostPending)
	last.Pending[mostPending-1].At = impl.MaxSectors
	longLast := diskOf(impl.MaxSectors, mostPending)
	longLast.Pending[mostPending-1].Data = long
	return map[string]impl.Disk{
		"nothing":                     {},
		"empty lists":                 {Sectors: []string{}, Pending: []impl.Pending{}},
		"pending without sectors":     {Pending: []impl.Pending{{}}},
		"a sector too many":           diskOf(impl.MaxSectors+1, 0),
		"more sectors than in a list": {Sectors: make([]string, impl.MaxList+1)},
		"the first sector too long":   {Sectors: []string{long, "", ""}},
		"the last sector too long":    {Sectors: []string{"", "", long}},
		"a sector longer than a text": {Sectors: []string{mixed(impl.MaxBytes + 1)}},
		"a hidden sector too long":    plus(impl.Disk{Sectors: []string{"", long}}, 1, "a"),
		"one pending too many":        diskOf(3, mostPending+1),
		"more pending than in a list": diskOf(3, impl.MaxList+1),
		"pending below the first":     plus(diskOf(3, 0), -1, "a"),
		"pending behind the last":     plus(diskOf(3, 0), 3, "a"),
		"pending far below":           plus(diskOf(3, 0), math.MinInt64, ""),
		"pending far behind":          plus(diskOf(3, 0), math.MaxInt64, ""),
		"pending at 2 to the 32nd":    plus(diskOf(3, 0), 1<<32, ""),
		"pending too long":            plus(diskOf(3, 0), 1, long),
		"hidden pending too long":     plus(plus(diskOf(3, 0), 1, long), 1, "a"),
		"pending longer than a text":  plus(diskOf(3, 0), 1, mixed(impl.MaxBytes+1)),
		"the last pending nowhere":    last,
		"the last pending too long":   longLast,
	}
}
