package tests

import (
	"fmt"
	"math"
	"strings"
	"testing"

	"loop.example/g00576/impl"
)

func textFault(code int64) impl.TextOut {
	return impl.TextOut{Code: code}
}

// Promise 1: the bytes themselves.
func TestPutTextBytes(t *testing.T) {
	same(t, "nothing", impl.PutText(""), "\x00")
	same(t, "two bytes", impl.PutText("ab"), "\x04ab")
	same(t, "any bytes", impl.PutText("\x00\xff\x80"), "\x06\x00\xff\x80")
	same(t, "63 bytes", impl.PutText(mixed(63)), "\x7e"+mixed(63))
	same(t, "64 bytes", impl.PutText(mixed(64)), "\x80\x01"+mixed(64))
	same(t, "bytes, not runes, are counted", impl.PutText("\u00e9"), "\x04\u00e9")
}

func TestPutTextSize(t *testing.T) {
	most := mixed(impl.MaxBytes)
	same(t, "as many as may be", impl.PutText(most) == "\x80\x7d"+most, true)
	same(t, "one too many", impl.PutText(most+"x"), "")
	same(t, "many too many", impl.PutText(most+most), "")
}

// Promise 1: every text that fits in comes back, wherever it stands.
func TestTextsComeBack(t *testing.T) {
	texts := []string{"", "a", "ab", "\x00", "\xff", " ", "\n", "\u00e9\u20ac", everyByte()}
	for _, n := range []int{62, 63, 64, 65, 127, 128, 1000, 7900} {
		texts = append(texts, mixed(n))
	}
	for _, x := range texts {
		put := impl.PutText(x)
		for _, ahead := range []string{"", "x", "\x80\x80\x80"} {
			for _, behind := range []string{"", "\x00", "more"} {
				out := impl.GetText(ahead+put+behind, int64(len(ahead)))
				want := impl.TextOut{Text: x, At: int64(len(ahead) + len(put))}
				if out != want {
					t.Errorf("a text of %d bytes behind %q, ahead of %q: got At %d, Code %d", len(x), ahead, behind, out.At, out.Code)
				}
			}
		}
	}
}

func TestTheLongestTextThatFitsIn(t *testing.T) {
	most := mixed(impl.MaxBytes - 2)
	same(t, "it fits", impl.GetText(impl.PutText(most), 0) == impl.TextOut{Text: most, At: impl.MaxBytes}, true)
	same(t, "a byte more does not", impl.GetText(impl.PutText(most+"x"), 0), textFault(impl.ErrSize))
}

func TestTextsInARow(t *testing.T) {
	list := []string{"one", "", everyByte(), "\x00\x00", mixed(70), "last"}
	row := ""
	for _, x := range list {
		row += impl.PutText(x)
	}
	at := int64(0)
	for i, x := range list {
		out := impl.GetText(row, at)
		if out.Code != impl.OK || out.Text != x {
			t.Fatalf("text %d, at %d: got %s", i, at, shown(out))
		}
		at = out.At
	}
	same(t, "the place behind all", at, int64(len(row)))
}

func TestGetTextSize(t *testing.T) {
	long := strings.Repeat("\x00", impl.MaxBytes+1)
	for _, at := range []int64{0, -1, math.MinInt64, math.MaxInt64} {
		same(t, fmt.Sprintf("a byte too many, at %d", at), impl.GetText(long, at), textFault(impl.ErrSize))
	}
	same(t, "as many as may be", impl.GetText(long[1:], 0), impl.TextOut{At: 1})
}

func TestGetTextForm(t *testing.T) {
	for _, text := range []string{"", "\x00", "\x02a", "\x80\x00"} {
		for _, at := range []int64{-1, math.MinInt64} {
			same(t, fmt.Sprintf("GetText(%q, %d)", text, at), impl.GetText(text, at), textFault(impl.ErrForm))
		}
	}
}

func TestGetTextShort(t *testing.T) {
	for _, c := range []struct {
		text string
		at   int64
	}{
		{"", 0}, {"", 1}, {"\x00", 1}, {"\x00", math.MaxInt64}, {"\x80", 0}, {strings.Repeat("\xff", 9), 0},
		{"\x02", 0}, {"\x06ab", 0}, {"xy\x04a", 2}, {"\x7e" + mixed(62), 0}, {"\x80\x01" + mixed(63), 0},
		{impl.PutNum(impl.MaxBytes), 0}, {impl.PutNum(impl.MaxBytes) + mixed(impl.MaxBytes-2), 0},
	} {
		same(t, fmt.Sprintf("GetText(%.20q.., %d)", c.text, c.at), impl.GetText(c.text, c.at), textFault(impl.ErrShort))
	}
}

// A text that is cut off is short, wherever that is.
func TestGetTextCutOff(t *testing.T) {
	for _, x := range []string{"a", "abc", mixed(64)} {
		put := impl.PutText(x)
		for many := range len(put) {
			same(t, fmt.Sprintf("GetText(%.20q.., 0)", put[:many]), impl.GetText(put[:many], 0), textFault(impl.ErrShort))
		}
	}
}

// A length that may not be is told even where the text ends too early for it.
func TestGetTextSyntax(t *testing.T) {
	for _, text := range []string{
		"\x80\x00", "\x84\x00ab", strings.Repeat("\x80", 10), strings.Repeat("\xff", 9) + "\x02", strings.Repeat("\x80", 9) + "\x00",
		impl.PutNum(-1), impl.PutNum(-2), impl.PutNum(-1) + "abc", impl.PutNum(math.MinInt64), impl.PutNum(math.MaxInt64),
		impl.PutNum(impl.MaxBytes + 1), impl.PutNum(impl.MaxBytes+1) + mixed(100), impl.PutNum(1 << 32), impl.PutNum(1<<32 + 1),
	} {
		same(t, fmt.Sprintf("GetText(%.20q.., 0)", text), impl.GetText(text, 0), textFault(impl.ErrSyntax))
		same(t, fmt.Sprintf("GetText(z%.20q.., 1)", text), impl.GetText("z"+text, 1), textFault(impl.ErrSyntax))
	}
}

func TestNameRightOfEachByte(t *testing.T) {
	for b := range 256 {
		x := string([]byte{byte(b)})
		letter := strings.Contains("abcdefghijklmnopqrstuvwxyz", x)
		part := letter || strings.Contains("0123456789_", x)
		same(t, fmt.Sprintf("name %q", x), impl.NameRight(x), letter)
		same(t, fmt.Sprintf("name %q", x+"a"), impl.NameRight(x+"a"), letter)
		for _, name := range []string{"a" + x, "z" + x + "9", "abcdefghijklmnopqrs" + x} {
			same(t, fmt.Sprintf("name %q", name), impl.NameRight(name), part)
		}
	}
}

func TestNameRightByLength(t *testing.T) {
	for n := range 60 {
		same(t, fmt.Sprintf("%d letters", n), impl.NameRight(strings.Repeat("a", n)), n >= 1 && n <= 20)
	}
	for _, n := range []int{256 + 1, 256 + 20, impl.MaxBytes, impl.MaxBytes + 1, 1<<16 + 1} {
		same(t, fmt.Sprintf("%d letters", n), impl.NameRight(strings.Repeat("a", n)), false)
	}
}

func TestNameRightOfSomeNames(t *testing.T) {
	for _, x := range []string{"a", "z", "a_9", "a__", "a0123456789", "abcdefghijklmnopqrst", "x_1_y_2"} {
		same(t, fmt.Sprintf("name %q", x), impl.NameRight(x), true)
	}
	for _, x := range []string{"", "_", "_a", "9", "0a", "A", "aB", "a b", " a", "a ", "a-b", "a.b", "a\n", "a\x00", "\u00e9", "a\u00e9", "abcdefghijklmnopqrstu"} {
		same(t, fmt.Sprintf("name %q", x), impl.NameRight(x), false)
	}
}
