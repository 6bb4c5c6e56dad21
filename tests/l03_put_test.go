package tests

import (
	"fmt"
	"math"
	"math/rand"
	"testing"

	"loop.example/g00576/impl"
)

// putSlowly does the first steps of a put, one by one, on a disk on which a text stands.
func putSlowly(a area, text string, steps int64) impl.AreaOut {
	d, side := a.disk, 1-a.side
	for i, chunk := range chunksOf(text) {
		if steps <= int64(i) {
			return impl.AreaOut{Disk: d}
		}
		if len(d.Pending) == mostPending {
			return areaFault(impl.ErrFull)
		}
		d = plus(d, int64(1+side*halfOf(d)+i), chunk)
	}
	behind := steps - int64(len(chunksOf(text)))
	if behind > 0 {
		d = settledSlowly(d, keepAll)
	}
	if behind > 1 {
		d = plus(d, 0, headOf(a.gen+1, side, len(text)))
	}
	if behind > 2 {
		d = settledSlowly(d, keepAll)
	}
	return impl.AreaOut{Disk: d}
}

// putOn is what there is when a text is put with all steps.
func putOn(a area, text string) area {
	return area{disk: putSlowly(a, text, math.MaxInt64).Disk, text: text, gen: a.gen + 1, side: 1 - a.side}
}

// stepsOf is how many steps the put of a text has.
func stepsOf(text string) int64 {
	return int64(len(chunksOf(text))) + 3
}

// textsFor are texts that a disk has room for, of the lengths at which one step more is needed.
func textsFor(d impl.Disk) []string {
	var list []string
	for _, n := range []int{0, 1, 63, 64, 65, 127, 128, 129, 1920, 1921, 1983, 1984} {
		if n <= roomOf(d) {
			list = append(list, mixed(n + 1)[1:])
		}
	}
	return list
}

// mayPut is whether all steps can be done: there must be room for what is pending until the first flush.
func mayPut(d impl.Disk, text string) bool {
	return len(d.Pending)+len(chunksOf(text)) <= mostPending
}

// Promise 4: a text that is put with all steps is read again, of the next number.
func TestWhatIsPutIsReadAgain(t *testing.T) {
	for what, a := range rightAreas() {
		for _, text := range textsFor(a.disk) {
			if !mayPut(a.disk, text) {
				continue
			}
			what := fmt.Sprintf("%s, %d bytes", what, len(text))
			for _, steps := range []int64{stepsOf(text), stepsOf(text) + 1, 100, math.MaxInt64} {
				put := impl.AreaPut(a.disk, text, steps)
				sameArea(t, what, put, impl.AreaOut{Disk: putOn(a, text).disk})
				sameArea(t, what+", read", impl.AreaRead(put.Disk), impl.AreaOut{Disk: put.Disk, Text: text, Gen: a.gen + 1})
			}
		}
	}
}

// Promise 4: text after text, from the format on, with a crash that keeps nothing behind each.
func TestTextAfterText(t *testing.T) {
	r := rand.New(rand.NewSource(5))
	for sectors := int64(3); sectors <= impl.MaxSectors; sectors++ {
		d := impl.AreaFormat(impl.DiskNew(sectors)).Disk
		for gen := int64(1); gen < 12; gen++ {
			text := mixed(3000)[r.Intn(900):][:r.Intn(roomOf(d)+1)]
			d = impl.DiskCrash(impl.AreaPut(d, text, 100).Disk, nil)
			sameArea(t, fmt.Sprintf("%d sectors, text %d", sectors, gen), impl.AreaRead(d), impl.AreaOut{Disk: d, Text: text, Gen: gen})
		}
	}
}

// Each number of steps at which a put can be cut, below none and beyond all.
func TestPutOfEachNumberOfSteps(t *testing.T) {
	for what, a := range rightAreas() {
		for _, text := range textsFor(a.disk) {
			for steps := int64(-2); steps < stepsOf(text)+3; steps++ {
				what := fmt.Sprintf("%s, %d bytes, %d steps", what, len(text), steps)
				sameArea(t, what, impl.AreaPut(a.disk, text, steps), putSlowly(a, text, steps))
			}
			for _, steps := range []int64{math.MinInt64, -1 << 32, 1 << 32, math.MaxInt64} {
				what := fmt.Sprintf("%s, %d bytes, %d steps", what, len(text), steps)
				sameArea(t, what, impl.AreaPut(a.disk, text, steps), putSlowly(a, text, steps))
			}
		}
	}
}

// As long as the head is not written, the old text is read.
func TestPutWithoutItsHead(t *testing.T) {
	for what, a := range rightAreas() {
		for _, text := range textsFor(a.disk) {
			if !mayPut(a.disk, text) {
				continue
			}
			for steps := int64(-1); steps < stepsOf(text)-1; steps++ {
				put := impl.AreaPut(a.disk, text, steps)
				what := fmt.Sprintf("%s, %d bytes, %d steps", what, len(text), steps)
				sameArea(t, what, impl.AreaRead(put.Disk), impl.AreaOut{Disk: put.Disk, Text: a.text, Gen: a.gen})
			}
		}
	}
}

// crashes are ways to lose what is pending: every one, if there are few.
func crashes(pending int, r *rand.Rand) [][]int64 {
	var list [][]int64
	if pending <= 6 {
		for choice := range 1 << pending {
			keep := make([]int64, pending)
			for i := range keep {
				keep[i] = int64(choice >> i & 1)
			}
			list = append(list, keep)
		}
		return list
	}
	list = append(list, nil, someKeeps()[9])
	for range 8 {
		keep := make([]int64, pending)
		for i := range keep {
			keep[i] = int64(r.Intn(2))
		}
		list = append(list, keep)
	}
	return list
}

// Promise 5: wherever the power goes, what is read is what there was, or that text, and the next put
// starts from it.
func TestPowerGoesWhileATextIsPut(t *testing.T) {
	r := rand.New(rand.NewSource(6))
	for what, a := range rightAreas() {
		if len(a.disk.Pending) > 0 {
			continue
		}
		for _, text := range textsFor(a.disk) {
			for steps := range stepsOf(text) + 1 {
				cut := impl.AreaPut(a.disk, text, steps).Disk
				for _, keep := range crashes(len(cut.Pending), r) {
					what := fmt.Sprintf("%s, %d bytes, %d steps, keep %v", what, len(text), steps, keep)
					dark := impl.DiskCrash(cut, keep)
					headWritten := steps == stepsOf(text) || steps == stepsOf(text)-1 && keep[0] > 0
					eitherText(t, what, dark, a, text, headWritten)
				}
			}
		}
	}
}

// eitherText looks whether the old text is on a disk, or the new one, and whether another one can be put.
func eitherText(t *testing.T, what string, d impl.Disk, a area, text string, isNew bool) {
	t.Helper()
	want := impl.AreaOut{Disk: d, Text: a.text, Gen: a.gen}
	if isNew {
		want.Text, want.Gen = text, a.gen+1
	}
	sameArea(t, what, impl.AreaRead(d), want)
	if want.Gen == impl.MaxTime {
		return
	}
	again := impl.AreaPut(d, a.text, 100).Disk
	sameArea(t, what+", put again", impl.AreaRead(again), impl.AreaOut{Disk: again, Text: a.text, Gen: want.Gen + 1})
}

// Promise 5, again and again on one disk.
func TestPowerGoesAgainAndAgain(t *testing.T) {
	r := rand.New(rand.NewSource(7))
	for sectors := int64(3); sectors <= impl.MaxSectors; sectors += 1 + sectors/3 {
		d := impl.AreaFormat(impl.DiskNew(sectors)).Disk
		there, gen := "", int64(0)
		for range 150 {
			text := mixed(3000)[r.Intn(900):][:r.Intn(roomOf(d)+1)]
			cut := impl.AreaPut(d, text, r.Int63n(stepsOf(text)+2)).Disk
			keep := make([]int64, 64)
			for i := range keep {
				keep[i] = int64(r.Intn(2))
			}
			d = impl.DiskCrash(cut, keep)
			got := impl.AreaRead(d)
			if got.Gen == gen+1 {
				there, gen = text, gen+1
			}
			sameArea(t, fmt.Sprintf("%d sectors, text %d", sectors, gen), got, impl.AreaOut{Disk: d, Text: there, Gen: gen})
		}
		same(t, fmt.Sprintf("%d sectors, some are put", sectors), gen > 20, true)
	}
}

func TestAreaPutRoom(t *testing.T) {
	for what, a := range rightAreas() {
		room := roomOf(a.disk)
		for _, n := range []int{room + 1, room + 2, room + 64, impl.MaxBytes} {
			for _, steps := range []int64{-1, 0, 1, 100} {
				what := fmt.Sprintf("%s, %d bytes, %d steps", what, n, steps)
				sameArea(t, what, impl.AreaPut(a.disk, mixed(n), steps), areaFault(impl.ErrFull))
			}
		}
	}
}

// Numbers end at MaxTime, which is still one.
func TestAreaPutNumbersEnd(t *testing.T) {
	for what, a := range lastAreas() {
		for _, steps := range []int64{-1, 0, 1, 100} {
			for _, text := range []string{"", "ab"} {
				sameArea(t, fmt.Sprintf("%s, %d steps", what, steps), impl.AreaPut(a.disk, text, steps), areaFault(impl.ErrFull))
			}
		}
	}
	a := areaOn(filled(5), impl.MaxTime-1, 1, "ab")
	last := impl.AreaPut(a.disk, "last", 100).Disk
	sameArea(t, "the last one", impl.AreaRead(last), impl.AreaOut{Disk: last, Text: "last", Gen: impl.MaxTime})
	sameArea(t, "behind it", impl.AreaPut(last, "", 100), areaFault(impl.ErrFull))
}

// Only a step that is done can tell that too much is pending.
func TestAreaPutWhenMuchIsPending(t *testing.T) {
	full := laden(areaOn(filled(7), 2, 1, "ab"), mostPending)
	sameArea(t, "no step", impl.AreaPut(full.disk, "x", 0), impl.AreaOut{Disk: full.disk})
	sameArea(t, "one step", impl.AreaPut(full.disk, "x", 1), areaFault(impl.ErrFull))
	sameArea(t, "no text", impl.AreaPut(full.disk, "", 100), impl.AreaOut{Disk: putOn(full, "").disk})
	one := laden(areaOn(filled(7), 2, 1, "ab"), mostPending-1)
	sameArea(t, "the first of two", impl.AreaPut(one.disk, mixed(65), 1), putSlowly(one, mixed(65), 1))
	sameArea(t, "the second of two", impl.AreaPut(one.disk, mixed(65), 2), areaFault(impl.ErrFull))
	sameArea(t, "one alone", impl.AreaPut(one.disk, mixed(64), 100), impl.AreaOut{Disk: putOn(one, mixed(64)).disk})
}

// Of two faults at once that one is told that is named first.
func TestAreaPutFaultsInOrder(t *testing.T) {
	long := mixed(impl.MaxBytes + 1)
	for _, steps := range []int64{math.MinInt64, 0, 100} {
		for what, d := range wrongDisks() {
			sameArea(t, what+", too long", impl.AreaPut(d, long, steps), areaFault(impl.ErrSize))
			sameArea(t, what+", no room", impl.AreaPut(d, long[1:], steps), areaFault(impl.ErrForm))
			sameArea(t, what+", no text", impl.AreaPut(d, "", steps), areaFault(impl.ErrForm))
		}
		for what, a := range wrongAreas() {
			sameArea(t, what+", too long", impl.AreaPut(a.disk, long, steps), areaFault(impl.ErrSize))
			sameArea(t, what+", no room", impl.AreaPut(a.disk, long[1:], steps), areaFault(a.code))
			sameArea(t, what+", no text", impl.AreaPut(a.disk, "", steps), areaFault(a.code))
		}
		for what, a := range allAreas() {
			sameArea(t, what+", too long", impl.AreaPut(a.disk, long, steps), areaFault(impl.ErrSize))
		}
	}
}

// A head that tells of no text is told ahead of its number.
func TestAreaPutOfALastNumberWithoutText(t *testing.T) {
	d := headed(impl.DiskNew(5), headOf(impl.MaxTime, 0, 1))
	sameArea(t, "its side has fewer", impl.AreaPut(d, "a", 100), areaFault(impl.ErrSum))
	d = headed(d, headOf(impl.MaxTime, 0, 129))
	sameArea(t, "more than there is room for", impl.AreaPut(d, "a", 100), areaFault(impl.ErrSyntax))
}

// areaCalls are all calls that answer with a disk of the one that is handed in.
func areaCalls() map[string]func(d impl.Disk, keep []int64) impl.Disk {
	calls := map[string]func(d impl.Disk, keep []int64) impl.Disk{
		"AreaRoom":   func(d impl.Disk, _ []int64) impl.Disk { return impl.DiskNew(1 + impl.AreaRoom(d)%2) },
		"AreaFormat": func(d impl.Disk, _ []int64) impl.Disk { return impl.AreaFormat(d).Disk },
		"AreaRead":   func(d impl.Disk, _ []int64) impl.Disk { return impl.AreaRead(d).Disk },
	}
	for _, text := range []string{"", mixed(64)} {
		for steps := int64(-1); steps <= stepsOf(text); steps++ {
			name := fmt.Sprintf("AreaPut of %d bytes, %d steps", len(text), steps)
			calls[name] = func(d impl.Disk, _ []int64) impl.Disk { return impl.AreaPut(d, text, steps).Disk }
		}
	}
	return calls
}

// Nothing that is handed in is changed, and nothing of it is shared.
func TestAreaArgumentsStay(t *testing.T) {
	disks := wrongDisks()
	for what, a := range wrongAreas() {
		disks["no text: "+what] = a.disk
	}
	for what, a := range allAreas() {
		disks["a text: "+what] = a.disk
	}
	for name, call := range areaCalls() {
		for what, d := range disks {
			disksStay(t, name+", "+what, call, d)
		}
	}
}

// Nothing is kept from one call to the next.
func TestAreasOfTwoCallsAreApart(t *testing.T) {
	d := impl.AreaFormat(impl.DiskNew(5)).Disk
	left, right := impl.AreaPut(d, "left", 100).Disk, impl.AreaPut(d, "right", 100).Disk
	sameArea(t, "one way", impl.AreaRead(left), impl.AreaOut{Disk: left, Text: "left", Gen: 1})
	sameArea(t, "the other way", impl.AreaRead(right), impl.AreaOut{Disk: right, Text: "right", Gen: 1})
	sameArea(t, "neither", impl.AreaRead(d), impl.AreaOut{Disk: d})
}
