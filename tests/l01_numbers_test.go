package tests

import (
	"encoding/binary"
	"fmt"
	"math"
	"math/rand"
	"strings"
	"testing"

	"loop.example/g00576/impl"
)

// someNumbers has each number at which one byte more is needed, its neighbours, the ends of int64,
// and others of every size.
func someNumbers() []int64 {
	list := []int64{0, math.MinInt64, math.MinInt64 + 1, math.MaxInt64, math.MaxInt64 - 1}
	for shift := range 63 {
		p := int64(1) << shift
		list = append(list, p-1, p, p+1, -p-1, -p, -p+1)
	}
	r := rand.New(rand.NewSource(1))
	for range 2000 {
		n := int64(r.Uint64())
		list = append(list, n>>r.Intn(64))
	}
	return list
}

func getNum(n int64, at int) impl.NumOut {
	return impl.NumOut{N: n, At: int64(at)}
}

func TestCodesAndLimits(t *testing.T) {
	got := []int64{impl.OK, impl.ErrForm, impl.ErrSize, impl.ErrSyntax, impl.ErrShort, impl.ErrSum, impl.ErrNone, impl.ErrThere,
		impl.ErrRange, impl.ErrFull, impl.ErrState, impl.MaxBytes, impl.MaxList, impl.MaxTime}
	same(t, "constants", got, []int64{0, 1, 2, 3, 4, 5, 6, 7, 8, 9, 10, 8000, 400, 1000000})
}

// Promise 1: the bytes themselves.
func TestPutNumBytes(t *testing.T) {
	for _, c := range []struct {
		n    int64
		want string
	}{
		{0, "\x00"}, {-1, "\x01"}, {1, "\x02"}, {-2, "\x03"}, {63, "\x7e"}, {-64, "\x7f"},
		{64, "\x80\x01"}, {-65, "\x81\x01"}, {8191, "\xfe\x7f"}, {-8192, "\xff\x7f"}, {8192, "\x80\x80\x01"},
		{150, "\xac\x02"}, {8000, "\x80\x7d"}, {1000000, "\x80\x89\x7a"},
		{math.MaxInt64, "\xfe\xff\xff\xff\xff\xff\xff\xff\xff\x01"},
		{math.MinInt64, "\xff\xff\xff\xff\xff\xff\xff\xff\xff\x01"},
		{1 << 62, "\x80\x80\x80\x80\x80\x80\x80\x80\x80\x01"},
		{1<<62 - 1, "\xfe\xff\xff\xff\xff\xff\xff\xff\x7f"},
	} {
		same(t, fmt.Sprintf("PutNum(%d)", c.n), impl.PutNum(c.n), c.want)
	}
}

// Promise 1: every number is put as the standard library puts it, and comes back, wherever it stands.
func TestNumbersComeBack(t *testing.T) {
	for _, n := range someNumbers() {
		put := impl.PutNum(n)
		same(t, fmt.Sprintf("PutNum(%d)", n), put, string(binary.AppendVarint(nil, n)))
		for _, ahead := range []string{"", "x", "\xff\xff\xff"} {
			for _, behind := range []string{"", "\x00", "\xff\x01"} {
				text := ahead + put + behind
				what := fmt.Sprintf("GetNum(%q, %d)", text, len(ahead))
				same(t, what, impl.GetNum(text, int64(len(ahead))), getNum(n, len(ahead)+len(put)))
			}
		}
	}
}

func TestNumbersInARow(t *testing.T) {
	numbers := someNumbers()[:300]
	text := ""
	for _, n := range numbers {
		text += impl.PutNum(n)
	}
	at := int64(0)
	for i, n := range numbers {
		out := impl.GetNum(text, at)
		if out.Code != impl.OK || out.N != n {
			t.Fatalf("number %d, at %d: got %s, want %d", i, at, shown(out), n)
		}
		at = out.At
	}
	same(t, "the place behind all", at, int64(len(text)))
}

func TestGetNumAtTheEndOfTheLongestText(t *testing.T) {
	text := strings.Repeat("\xff", impl.MaxBytes-1) + "\x03"
	same(t, "the last byte", impl.GetNum(text, impl.MaxBytes-1), getNum(-2, impl.MaxBytes))
	same(t, "two bytes", impl.GetNum(text, impl.MaxBytes-2), getNum(-256, impl.MaxBytes))
	same(t, "behind it", impl.GetNum(text, impl.MaxBytes), impl.NumOut{Code: impl.ErrShort})
}

func TestGetNumSize(t *testing.T) {
	long := strings.Repeat("\x00", impl.MaxBytes+1)
	for _, at := range []int64{0, -1, math.MinInt64, math.MaxInt64, impl.MaxBytes + 1} {
		same(t, fmt.Sprintf("a byte too many, at %d", at), impl.GetNum(long, at), impl.NumOut{Code: impl.ErrSize})
	}
	same(t, "as many as may be", impl.GetNum(long[1:], 0), getNum(0, 1))
}

func TestGetNumForm(t *testing.T) {
	for _, text := range []string{"", "\x00", "\x80", "\x80\x00"} {
		for _, at := range []int64{-1, -2, math.MinInt64} {
			same(t, fmt.Sprintf("GetNum(%q, %d)", text, at), impl.GetNum(text, at), impl.NumOut{Code: impl.ErrForm})
		}
	}
}

func TestGetNumShort(t *testing.T) {
	for _, c := range []struct {
		text string
		at   int64
	}{
		{"", 0}, {"", 1}, {"", math.MaxInt64}, {"\x01", 1}, {"\x01", 2}, {"\x01", math.MaxInt64}, {"\x01", 1 << 32},
		{"\x80", 0}, {"\xff", 0}, {"\x80\x80", 0}, {"\x00\xff\xff", 1}, {"\x00\x80", 1},
	} {
		same(t, fmt.Sprintf("GetNum(%q, %d)", c.text, c.at), impl.GetNum(c.text, c.at), impl.NumOut{Code: impl.ErrShort})
	}
	for many := range 10 {
		for _, b := range []string{"\x80", "\xff"} {
			text := strings.Repeat(b, many)
			same(t, fmt.Sprintf("GetNum(%q, 0)", text), impl.GetNum(text, 0), impl.NumOut{Code: impl.ErrShort})
		}
	}
}

// A number that is cut off is short, wherever that is.
func TestGetNumCutOff(t *testing.T) {
	for _, n := range someNumbers() {
		put := impl.PutNum(n)
		for many := range len(put) {
			same(t, fmt.Sprintf("GetNum(%q, 0)", put[:many]), impl.GetNum(put[:many], 0), impl.NumOut{Code: impl.ErrShort})
		}
	}
}

func TestGetNumTenthByte(t *testing.T) {
	for _, ahead := range []string{strings.Repeat("\x80", 9), strings.Repeat("\xff", 9), "\x80\xff\x80\xff\x80\xff\x80\xff\x80"} {
		for b := range 256 {
			if b == 1 {
				continue
			}
			text := ahead + string([]byte{byte(b)})
			for _, behind := range []string{"", "\x00", "\x80\x01"} {
				same(t, fmt.Sprintf("GetNum(%q, 0)", text+behind), impl.GetNum(text+behind, 0), impl.NumOut{Code: impl.ErrSyntax})
			}
		}
	}
	same(t, "tenth byte 1", impl.GetNum(strings.Repeat("\xff", 9)+"\x01", 0), getNum(math.MinInt64, 10))
}

func TestGetNumMoreBytesThanNeeded(t *testing.T) {
	for _, n := range someNumbers() {
		put := []byte(impl.PutNum(n))
		put[len(put)-1] |= 128
		for more := range 12 - len(put) {
			text := string(put) + strings.Repeat("\x80", more) + "\x00"
			same(t, fmt.Sprintf("GetNum(%q, 0)", text), impl.GetNum(text, 0), impl.NumOut{Code: impl.ErrSyntax})
		}
	}
	same(t, "a nought of two bytes", impl.GetNum("\x80\x00", 0), impl.NumOut{Code: impl.ErrSyntax})
	same(t, "a nought of two bytes inside", impl.GetNum("\x05\x80\x00\x05", 1), impl.NumOut{Code: impl.ErrSyntax})
	same(t, "a nought within is needed", impl.GetNum("\x80\x80\x01", 0), getNum(8192, 3))
}

// All texts of one and two bytes: what is read is what is put so, and nothing else is.
func TestGetNumOfAllShortTexts(t *testing.T) {
	for a := range 256 {
		one := string([]byte{byte(a)})
		want := impl.NumOut{Code: impl.ErrShort}
		if a < 128 {
			want = getNum(int64(a/2)^-int64(a%2), 1)
		}
		same(t, fmt.Sprintf("GetNum(%q, 0)", one), impl.GetNum(one, 0), want)
		for b := range 256 {
			two := one + string([]byte{byte(b)})
			out := impl.GetNum(two, 0)
			switch u := a&127 + b<<7; {
			case a < 128:
				same(t, fmt.Sprintf("GetNum(%q, 0)", two), out, want)
			case b >= 128:
				same(t, fmt.Sprintf("GetNum(%q, 0)", two), out, impl.NumOut{Code: impl.ErrShort})
			case b == 0:
				same(t, fmt.Sprintf("GetNum(%q, 0)", two), out, impl.NumOut{Code: impl.ErrSyntax})
			default:
				same(t, fmt.Sprintf("GetNum(%q, 0)", two), out, getNum(int64(u/2)^-int64(u%2), 2))
			}
		}
	}
}
