package tests

import (
	"encoding/binary"
	"fmt"
	"hash/crc32"
	"math"
	"strings"
	"testing"

	"loop.example/g00576/impl"
)

// sealed is a text and its CRC as the standard library has it, of any length.
func sealed(text string) string {
	return string(binary.LittleEndian.AppendUint32([]byte(text), crc32.ChecksumIEEE([]byte(text))))
}

func someTexts() []string {
	list := []string{"", "a", "ab", "\x00", "\x00\x00", "\xff", "\xff\xff\xff\xff", "\x80", "123456789", everyByte()}
	for _, n := range []int{3, 4, 5, 60, 63, 64, 65, 255, 1024, impl.MaxBytes - 5, impl.MaxBytes - 4} {
		list = append(list, mixed(n))
	}
	return list
}

// Promise 2: what a CRC is.
func TestCrcOfKnownTexts(t *testing.T) {
	same(t, "digits", impl.Crc("123456789"), int64(0xCBF43926))
	same(t, "nothing", impl.Crc(""), int64(0))
	same(t, "a nought", impl.Crc("\x00"), int64(0xD202EF8D))
	same(t, "four bytes of ones", impl.Crc("\xff\xff\xff\xff"), int64(0xFFFFFFFF))
	for _, x := range someTexts() {
		same(t, fmt.Sprintf("CRC of %d bytes", len(x)), impl.Crc(x), int64(crc32.ChecksumIEEE([]byte(x))))
	}
	for b := range 256 {
		x := string([]byte{byte(b)})
		same(t, fmt.Sprintf("CRC of %q", x), impl.Crc(x), int64(crc32.ChecksumIEEE([]byte(x))))
	}
}

func TestCrcSize(t *testing.T) {
	most := mixed(impl.MaxBytes)
	same(t, "as many as may be", impl.Crc(most), int64(crc32.ChecksumIEEE([]byte(most))))
	same(t, "one too many", impl.Crc(most+"x"), int64(0))
	same(t, "many too many", impl.Crc(most+most), int64(0))
}

// Promise 2: a CRC goes on from text to text, wherever the text is cut.
func TestCrcGoesOn(t *testing.T) {
	for _, x := range []string{"", "a", "123456789", everyByte(), mixed(300)} {
		for cut := range len(x) + 1 {
			same(t, fmt.Sprintf("%d bytes cut at %d", len(x), cut), impl.CrcMore(impl.Crc(x[:cut]), x[cut:]), impl.Crc(x))
		}
	}
}

func TestCrcGoesOnInManyPieces(t *testing.T) {
	all := mixed(20000)
	crc := int64(0)
	for at := 0; at < len(all); at += 100 {
		crc = impl.CrcMore(crc, all[at:at+100])
	}
	same(t, "more than fits into one text", crc, int64(crc32.ChecksumIEEE([]byte(all))))
	half := mixed(impl.MaxBytes)
	same(t, "two of the longest", impl.CrcMore(impl.Crc(half), half), int64(crc32.ChecksumIEEE([]byte(half+half))))
}

func TestCrcMoreOfTheEmptyText(t *testing.T) {
	for _, crc := range []int64{0, 1, 0xCBF43926, 1 << 31, math.MaxUint32 - 1, math.MaxUint32} {
		same(t, fmt.Sprintf("behind %d nothing", crc), impl.CrcMore(crc, ""), crc)
	}
}

// What is no CRC is refused; the highest one is one.
func TestCrcMoreOfWrongCrc(t *testing.T) {
	for _, crc := range []int64{-1, -2, math.MinInt64, math.MaxUint32 + 1, 1<<32 + 0xCBF43926, math.MaxInt64} {
		same(t, fmt.Sprintf("CrcMore(%d, a)", crc), impl.CrcMore(crc, "a"), int64(0))
		same(t, fmt.Sprintf("CrcMore(%d, nothing)", crc), impl.CrcMore(crc, ""), int64(0))
	}
	want := int64(crc32.Update(math.MaxUint32, crc32.IEEETable, []byte("a")))
	same(t, "the highest", impl.CrcMore(math.MaxUint32, "a"), want)
}

func TestCrcMoreSize(t *testing.T) {
	long := mixed(impl.MaxBytes + 1)
	for _, crc := range []int64{0, 1, math.MaxUint32, -1} {
		same(t, fmt.Sprintf("one too many behind %d", crc), impl.CrcMore(crc, long), int64(0))
	}
	want := int64(crc32.Update(7, crc32.IEEETable, []byte(long[1:])))
	same(t, "as many as may be", impl.CrcMore(7, long[1:]), want)
}

// Promise 2: the bytes themselves.
func TestSealBytes(t *testing.T) {
	same(t, "nothing", impl.Seal(""), "\x00\x00\x00\x00")
	same(t, "digits", impl.Seal("123456789"), "123456789\x26\x39\xf4\xcb")
	for _, x := range someTexts() {
		same(t, fmt.Sprintf("a seal of %d bytes", len(x)), impl.Seal(x) == sealed(x), true)
	}
}

func TestSealSize(t *testing.T) {
	most := mixed(impl.MaxBytes - 4)
	same(t, "as many as may be", len(impl.Seal(most)), impl.MaxBytes)
	for more := 1; more < 10; more++ {
		same(t, fmt.Sprintf("%d too many", more), impl.Seal(most+mixed(more)), "")
	}
	same(t, "many too many", impl.Seal(most+most), "")
}

// Promise 2: a sealed text comes back.
func TestSealedTextsComeBack(t *testing.T) {
	for _, x := range someTexts() {
		same(t, fmt.Sprintf("%d bytes", len(x)), impl.Unseal(impl.Seal(x)) == impl.TextOut{Text: x}, true)
	}
	same(t, "sealed twice", impl.Unseal(impl.Unseal(impl.Seal(impl.Seal("ab"))).Text), impl.TextOut{Text: "ab"})
}

// Promise 2: with one byte turned it is refused, whichever it is, and whatever it becomes.
func TestOneByteTurned(t *testing.T) {
	for _, x := range []string{"", "a", "123456789", "\x00\x00\x00", mixed(70)} {
		whole := []byte(impl.Seal(x))
		for i := range whole {
			for turn := 1; turn < 256; turn++ {
				whole[i] ^= byte(turn)
				same(t, fmt.Sprintf("%d bytes, byte %d turned by %d", len(x), i, turn), impl.Unseal(string(whole)), textFault(impl.ErrSum))
				whole[i] ^= byte(turn)
			}
		}
	}
}

func TestOneByteTurnedInTheLongest(t *testing.T) {
	whole := []byte(impl.Seal(mixed(impl.MaxBytes - 4)))
	for i := 0; i < len(whole); i += 333 {
		whole[i] ^= 1
		same(t, fmt.Sprintf("byte %d turned", i), impl.Unseal(string(whole)), textFault(impl.ErrSum))
		whole[i] ^= 1
	}
}

func TestUnsealShort(t *testing.T) {
	for _, x := range []string{"", "\x00", "\x00\x00", "\x00\x00\x00", "a", "ab", "abc"} {
		same(t, fmt.Sprintf("Unseal(%q)", x), impl.Unseal(x), textFault(impl.ErrShort))
	}
	same(t, "four bytes are enough", impl.Unseal("\x00\x00\x00\x00"), impl.TextOut{})
}

func TestUnsealSum(t *testing.T) {
	whole := impl.Seal("123456789")
	for _, x := range []string{
		"\x00\x00\x00\x01", "\xff\xff\xff\xff", "abcd", "\x00\x00\x00\x00\x00", whole + "\x00", "\x00" + whole,
		whole[1:], whole[:len(whole)-1], "213456789" + whole[9:], "123456789\xcb\xf4\x39\x26", "123456789\xd9\xc6\x0b\x34",
		everyByte(), mixed(impl.MaxBytes),
	} {
		same(t, fmt.Sprintf("Unseal(%.20q..)", x), impl.Unseal(x), textFault(impl.ErrSum))
	}
}

func TestUnsealSize(t *testing.T) {
	same(t, "a byte too many, well sealed", impl.Unseal(sealed(mixed(impl.MaxBytes-3))), textFault(impl.ErrSize))
	same(t, "a byte too many, not sealed", impl.Unseal(strings.Repeat("a", impl.MaxBytes+1)), textFault(impl.ErrSize))
	most := mixed(impl.MaxBytes - 4)
	same(t, "as many as may be", impl.Unseal(sealed(most)) == impl.TextOut{Text: most}, true)
}
