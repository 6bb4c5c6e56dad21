package tests

import (
	"fmt"
	"math"
	"math/rand"
	"strings"
	"testing"

	"loop.example/g00576/impl"
)

func TestUpdateBytes(t *testing.T) {
	u := lost(sent(letter(named(1, 0), none, none, "a"), letter(named(100, 2), named(1, 0), named(2, 3), "~")), named(64, 1))
	// Of a number that is not below 0, its double is put; 64 and 100 need two bytes then.
	body := "\x04" + "\x02\x00\x00\x00\x00\x00\x02a" + "\xc8\x01\x04\x02\x00\x04\x06\x02~" + "\x02" + "\x80\x01\x02"
	same(t, "two items, one gone", impl.UpdateBytes(u), impl.Seal(body))
	same(t, "nothing", impl.UpdateBytes(impl.Update{}), impl.Seal("\x00\x00"))
	for what, u := range rightUpdates() {
		same(t, what, impl.UpdateBytes(u), sealed(bodySlowly(u)))
	}
	for what, u := range wrongUpdates() {
		same(t, what, impl.UpdateBytes(u), "")
	}
}

// Promise 7: an update comes back from its bytes.
func TestUpdatesComeBack(t *testing.T) {
	for what, u := range rightUpdates() {
		sameUpdateOut(t, what, impl.UpdateRead(impl.UpdateBytes(u)), impl.UpdateOut{Update: u})
	}
	for what, d := range rightDocs() {
		u := impl.DiffOf(d, nil)
		sameUpdateOut(t, "of a doc: "+what, impl.UpdateRead(impl.UpdateBytes(u)), impl.UpdateOut{Update: u})
	}
	r := rand.New(rand.NewSource(21))
	for range 3000 {
		u := anyUpdate(r, anyDoc(r, 14))
		sameUpdateOut(t, shown(u), impl.UpdateRead(impl.UpdateBytes(u)), impl.UpdateOut{Update: u})
	}
}

func TestEachCharComesBack(t *testing.T) {
	for b := byte(32); b <= 126; b++ {
		u := sent(letter(named(1, 0), none, none, string(rune(b))))
		sameUpdateOut(t, string(rune(b)), impl.UpdateRead(impl.UpdateBytes(u)), impl.UpdateOut{Update: u})
	}
}

// someBytes are those of a few updates.
func someBytes() []string {
	u := lost(sent(letter(named(1, 0), none, none, "a"), letter(named(300, 2), named(1, 0), named(2, 3), "~")), named(64, 1), named(64, 70))
	return []string{impl.UpdateBytes(impl.Update{}), impl.UpdateBytes(u), impl.UpdateBytes(sent(u.Items...)), impl.UpdateBytes(lost(sent(), u.Gone...))}
}

func TestUpdateReadCutShort(t *testing.T) {
	for _, text := range someBytes() {
		for n := range len(text) {
			want := int64(impl.ErrSum)
			if n < 4 {
				want = impl.ErrShort
			}
			sameUpdateOut(t, fmt.Sprintf("%q, %d bytes", text, n), impl.UpdateRead(text[:n]), updateFault(want))
			sameUpdateOut(t, fmt.Sprintf("%q, behind %d bytes", text, n+1), impl.UpdateRead(text[n+1:]), updateFault(updateSlowly(text[n+1:]).Code))
		}
		body := text[:len(text)-4]
		for n := range len(body) {
			sameUpdateOut(t, fmt.Sprintf("%q, %d bytes sealed", text, n), impl.UpdateRead(sealed(body[:n])), updateFault(impl.ErrSyntax))
		}
	}
}

func TestUpdateReadLengthened(t *testing.T) {
	for _, text := range someBytes() {
		body := text[:len(text)-4]
		for _, more := range []string{"\x00", "\x02", "a", "\xff", "\x00\x00\x00\x00", text} {
			sameUpdateOut(t, fmt.Sprintf("%q and %q", text, more), impl.UpdateRead(text+more), updateFault(impl.ErrSum))
			sameUpdateOut(t, fmt.Sprintf("%q ahead of %q", more, text), impl.UpdateRead(more+text), updateFault(impl.ErrSum))
			sameUpdateOut(t, fmt.Sprintf("%q and %q, sealed", text, more), impl.UpdateRead(sealed(body+more)), updateFault(impl.ErrSyntax))
		}
	}
}

// Each byte turned into each other one: the seal tells; and sealed again it is as the document says.
func TestUpdateReadTurned(t *testing.T) {
	good := 0
	for _, text := range someBytes() {
		for i := range len(text) {
			for b := range 256 {
				turned := text[:i] + string([]byte{byte(b)}) + text[i+1:]
				if turned == text {
					continue
				}
				sameUpdateOut(t, fmt.Sprintf("%q", turned), impl.UpdateRead(turned), updateFault(impl.ErrSum))
				again := sealed(turned[:len(turned)-4])
				want := updateSlowly(again)
				sameUpdateOut(t, fmt.Sprintf("%q", again), impl.UpdateRead(again), want)
				if want.Code == impl.OK {
					good++
				}
			}
		}
	}
	same(t, "some are right again", good > 200, true)
}

// What is not right has bytes, too, of which nothing is read.
func TestUpdateReadWrong(t *testing.T) {
	for what, u := range wrongUpdates() {
		if strings.Contains(what, "item is gone") {
			continue // In bytes, an item is not gone.
		}
		want := int64(impl.ErrSyntax)
		if len(sealed(bodySlowly(u))) > impl.MaxBytes {
			want = impl.ErrSize
		}
		sameUpdateOut(t, what, impl.UpdateRead(sealed(bodySlowly(u))), updateFault(want))
	}
}

func TestUpdateReadWrongNumbers(t *testing.T) {
	item := "\x02\x00\x00\x00\x00\x00\x02a"
	for what, body := range map[string]string{
		"nothing":                       "",
		"one list":                      "\x00",
		"a number that does not end":    "\x80",
		"the second does not end":       "\x00\x80",
		"more bytes than needed":        "\x80\x00\x00",
		"the second, more than needed":  "\x00\x80\x00",
		"an item's, more than needed":   "\x02\x82\x00\x00\x00\x00\x00\x00\x02a\x00",
		"a length of more than needed":  "\x02\x02\x00\x00\x00\x00\x00\x82\x00a\x00",
		"eleven bytes":                  "\x80\x80\x80\x80\x80\x80\x80\x80\x80\x80\x00\x00",
		"a tenth byte too high":         "\xff\xff\xff\xff\xff\xff\xff\xff\xff\x02\x00",
		"fewer than none":               varints(-1) + "\x00",
		"fewer than none, and an item":  varints(-1) + item + "\x00",
		"fewer than none gone":          "\x00" + varints(-1),
		"the lowest number":             varints(math.MinInt64) + "\x00",
		"the highest number":            varints(math.MaxInt64) + "\x00",
		"the highest number of gone":    "\x00" + varints(math.MaxInt64),
		"the lowest number of gone":     "\x00" + varints(math.MinInt64),
		"as many as there are, and one": varints(2) + item + "\x00",
		"more than there may be":        varints(61) + strings.Repeat(item, 61) + "\x00",
		"2 to the 32nd and one":         varints(1<<32+1) + item + "\x00",
		"a char of no byte":             "\x02\x02\x00\x00\x00\x00\x00\x00\x00",
		"a char of two bytes":           "\x02\x02\x00\x00\x00\x00\x00\x04ab\x00",
		"a char below none":             "\x02\x02\x00\x00\x00\x00\x00" + varints(-1) + "a\x00",
		"a char of too many":            "\x02\x02\x00\x00\x00\x00\x00" + varints(impl.MaxBytes+1) + "a\x00",
		"gone, and then it ends":        "\x00\x02",
		"half a name":                   "\x00\x02\x02",
	} {
		sameUpdateOut(t, what, impl.UpdateRead(sealed(body)), updateFault(impl.ErrSyntax))
	}
	good := impl.UpdateRead(sealed("\x02" + item + "\x02\x02\x00"))
	sameUpdateOut(t, "as it should be", good, impl.UpdateOut{Update: lost(sent(letter(named(1, 0), none, none, "a")), named(1, 0))})
}

func TestUpdateReadCodes(t *testing.T) {
	for _, text := range []string{"", "x", "abc"} {
		sameUpdateOut(t, fmt.Sprintf("%q", text), impl.UpdateRead(text), updateFault(impl.ErrShort))
	}
	for _, text := range []string{"abcd", "\x00\x00", mixed(100), mixed(impl.MaxBytes)} {
		sameUpdateOut(t, shown(text), impl.UpdateRead(text+"abcd"[:min(4, impl.MaxBytes-len(text))]), updateFault(impl.ErrSum))
	}
	for _, body := range []string{"", mixed(50), mixed(impl.MaxBytes - 4)} {
		sameUpdateOut(t, shown(body)+", sealed", impl.UpdateRead(sealed(body)), updateFault(impl.ErrSyntax))
	}
	for _, text := range []string{mixed(impl.MaxBytes + 1), sealed(mixed(impl.MaxBytes - 3)), mixed(10 * impl.MaxBytes)} {
		sameUpdateOut(t, shown(text), impl.UpdateRead(text), updateFault(impl.ErrSize))
	}
}
