package tests

import (
	"fmt"
	"math"
	"math/rand"
	"strings"
	"testing"

	"loop.example/g00576/impl"
)

func TestDocBytes(t *testing.T) {
	d := impl.Doc{
		Items: []impl.Item{letter(named(1, 0), none, none, "a"), erased(letter(named(100, 0), named(1, 0), none, "~"))},
		Pend:  []impl.Item{erased(letter(named(2, 3), named(1, 0), named(100, 0), "x"))},
		Holes: []impl.Id{named(64, 1), named(64, 2)},
	}
	// Of a number that is not below 0, its double is put; 64 and 100 need two bytes then.
	items := "\x04" + "\x02\x00\x00\x00\x00\x00\x02a\x00" + "\xc8\x01\x00\x02\x00\x00\x00\x02~\x02"
	pend := "\x02" + "\x04\x06\x02\x00\xc8\x01\x00\x02x\x02"
	same(t, "some of all", impl.DocBytes(d), items+pend+"\x04"+"\x80\x01\x02"+"\x80\x01\x04")
	same(t, "an empty doc", impl.DocBytes(impl.Doc{}), "\x00\x00\x00")
	for what, d := range rightDocs() {
		same(t, what, impl.DocBytes(d), docBytesSlowly(d))
	}
	for what, d := range wrongDocs() {
		same(t, what, impl.DocBytes(d), "")
	}
}

func TestDocsComeBack(t *testing.T) {
	for what, d := range rightDocs() {
		sameDocOut(t, what, impl.DocRead(impl.DocBytes(d)), impl.DocOut{Doc: d})
	}
	r := rand.New(rand.NewSource(31))
	for range 3000 {
		d := anyDoc(r, 14)
		sameDocOut(t, shown(d), impl.DocRead(impl.DocBytes(d)), impl.DocOut{Doc: d})
	}
}

func TestEachCharOfADocComesBack(t *testing.T) {
	for b := byte(32); b <= 126; b++ {
		d := without(typed(1, string(rune(b))+"x"+string(rune(b))), 2)
		sameDocOut(t, string(rune(b)), impl.DocRead(impl.DocBytes(d)), impl.DocOut{Doc: d})
	}
}

// bytesOfDocs are those of a few docs.
func bytesOfDocs() []string {
	some := holed(waiting(without(handed(), 1), lonely(1)[0], erased(letter(named(3, 1), named(1, 0), named(300, 0), "~"))), named(4, 70))
	var list []string
	for _, d := range []impl.Doc{{}, typed(1, "ab"), waiting(impl.Doc{}, lonely(1)...), holed(impl.Doc{}, named(1, 0), named(64, 64)), some} {
		list = append(list, docBytesSlowly(d))
	}
	return list
}

func TestDocReadCutShort(t *testing.T) {
	for _, text := range bytesOfDocs() {
		sameDocOut(t, fmt.Sprintf("%q", text), impl.DocRead(text), docReadSlowly(text))
		for n := range len(text) {
			sameDocOut(t, fmt.Sprintf("%q, %d bytes", text, n), impl.DocRead(text[:n]), docFault(impl.ErrSyntax))
			sameDocOut(t, fmt.Sprintf("%q, behind %d bytes", text, n+1), impl.DocRead(text[n+1:]), docReadSlowly(text[n+1:]))
		}
	}
}

func TestDocReadLengthened(t *testing.T) {
	for _, text := range bytesOfDocs() {
		for _, more := range []string{"\x00", "\x02", "a", "\x80", "\xff", "\x00\x00\x00", text} {
			sameDocOut(t, fmt.Sprintf("%q and %q", text, more), impl.DocRead(text+more), docFault(impl.ErrSyntax))
			sameDocOut(t, fmt.Sprintf("%q ahead of %q", more, text), impl.DocRead(more+text), docReadSlowly(more+text))
		}
	}
}

// Each byte turned into each other one.
func TestDocReadTurned(t *testing.T) {
	good := 0
	for _, text := range bytesOfDocs() {
		for i := range len(text) {
			for b := range 256 {
				turned := text[:i] + string([]byte{byte(b)}) + text[i+1:]
				want := docReadSlowly(turned)
				sameDocOut(t, fmt.Sprintf("%q", turned), impl.DocRead(turned), want)
				if want.Code == impl.OK && turned != text {
					good++
				}
			}
		}
	}
	same(t, "some are right again", good > 200, true)
}

// What is not right has bytes, too, of which nothing is read.
func TestDocReadWrong(t *testing.T) {
	for what, d := range wrongDocs() {
		text, want := docBytesSlowly(d), int64(impl.ErrSyntax)
		if len(text) > impl.MaxBytes {
			want = impl.ErrSize
		}
		sameDocOut(t, what, impl.DocRead(text), docFault(want))
	}
}

func TestDocReadWrongNumbers(t *testing.T) {
	item := "\x02\x00\x00\x00\x00\x00\x02a"
	for what, text := range map[string]string{
		"nothing":                      "",
		"one list":                     "\x00",
		"two lists":                    "\x00\x00",
		"a number that does not end":   "\x80",
		"the third does not end":       "\x00\x00\x80",
		"more bytes than needed":       "\x80\x00\x00\x00",
		"the second, more than needed": "\x00\x80\x00\x00",
		"the third, more than needed":  "\x00\x00\x80\x00",
		"gone is 2":                    "\x02" + item + varints(2) + "\x00\x00",
		"gone is 3":                    "\x02" + item + varints(3) + "\x00\x00",
		"gone is below 0":              "\x02" + item + varints(-1) + "\x00\x00",
		"gone is 2 to the 32nd":        "\x02" + item + varints(1<<32) + "\x00\x00",
		"gone is that and one":         "\x02" + item + varints(1<<32+1) + "\x00\x00",
		"gone is the lowest":           "\x02" + item + varints(math.MinInt64) + "\x00\x00",
		"gone is the highest":          "\x02" + item + varints(math.MaxInt64) + "\x00\x00",
		"gone, more than needed":       "\x02" + item + "\x82\x00\x00\x00",
		"not gone, more than needed":   "\x02" + item + "\x80\x00\x00\x00",
		"gone is not told":             "\x02" + item + "\x00\x00",
		"pend gone is 2":               "\x00\x02\x02\x02\x00\x00\x00\x00\x02a" + varints(2) + "\x00",
		"fewer than none":              varints(-1) + "\x00\x00",
		"fewer than none, and an item": varints(-1) + item + "\x00\x00\x00",
		"fewer than none in pend":      "\x00" + varints(-1) + "\x00",
		"fewer than no holes":          "\x00\x00" + varints(-1),
		"the lowest number":            varints(math.MinInt64) + "\x00\x00",
		"the highest number":           varints(math.MaxInt64) + "\x00\x00",
		"the highest number of pend":   "\x00" + varints(math.MaxInt64) + "\x00",
		"the highest number of holes":  "\x00\x00" + varints(math.MaxInt64),
		"the lowest number of holes":   "\x00\x00" + varints(math.MinInt64),
		"more than there are":          varints(2) + item + "\x00\x00\x00",
		"fewer than there are":         "\x00" + item + "\x00\x00\x00",
		"2 to the 32nd and one":        varints(1<<32+1) + item + "\x00\x00\x00",
		"a char of no byte":            "\x02\x02\x00\x00\x00\x00\x00\x00\x00\x00\x00",
		"a char of two bytes":          "\x02\x02\x00\x00\x00\x00\x00\x04ab\x00\x00\x00",
		"a char below none":            "\x02\x02\x00\x00\x00\x00\x00" + varints(-1) + "a\x00\x00\x00",
		"a char of too many":           "\x02\x02\x00\x00\x00\x00\x00" + varints(impl.MaxBytes+1) + "a\x00\x00\x00",
		"a hole, and then it ends":     "\x00\x00\x02",
		"half a hole":                  "\x00\x00\x02\x02",
		"sealed":                       sealed("\x00\x00\x00"),
	} {
		sameDocOut(t, what, impl.DocRead(text), docFault(impl.ErrSyntax))
	}
	sameDocOut(t, "as it should be", impl.DocRead("\x02"+item+"\x00"+"\x00\x00"), impl.DocOut{Doc: typed(1, "a")})
	sameDocOut(t, "and gone", impl.DocRead("\x02"+item+"\x02"+"\x00\x00"), impl.DocOut{Doc: without(typed(1, "a"), 0)})
	waits := waiting(impl.Doc{}, erased(letter(named(1, 1), none, none, "a")))
	sameDocOut(t, "and what waits", impl.DocRead("\x00\x02\x02\x02\x00\x00\x00\x00\x02a\x02\x00"), impl.DocOut{Doc: waits})
}

func TestDocReadSize(t *testing.T) {
	for _, text := range []string{mixed(impl.MaxBytes + 1), strings.Repeat("\x00", impl.MaxBytes+1), mixed(10 * impl.MaxBytes)} {
		sameDocOut(t, shown(text), impl.DocRead(text), docFault(impl.ErrSize))
	}
	for _, text := range []string{mixed(impl.MaxBytes), strings.Repeat("\x00", impl.MaxBytes), "x"} {
		sameDocOut(t, shown(text), impl.DocRead(text), docFault(impl.ErrSyntax))
	}
}
