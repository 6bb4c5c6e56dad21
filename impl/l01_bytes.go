package impl

import (
	"errors"
	"math"
	"strconv"
	"strings"
)

// Constants, see chapter 1.
const (
	OK        = 0
	ErrForm   = 1
	ErrSize   = 2
	ErrSyntax = 3
	ErrShort  = 4
	ErrSum    = 5
	ErrNone   = 6
	ErrThere  = 7
	ErrRange  = 8
	ErrFull   = 9
	ErrState  = 10
	MaxBytes  = 8000
	MaxList   = 400
	MaxTime   = 1000000
)

const (
	// maxNumBytes is how many groups of seven bits a number of 64 bits fills.
	maxNumBytes  = 10
	maxNameBytes = 20
	// sumBytes is how many bytes of a sealed text hold its CRC.
	sumBytes = 4
	// crcPoly has its highest power in its lowest bit, because the register is shifted down.
	crcPoly = 0xEDB88320
)

// NumOut is a thing of chapter 2.
type NumOut struct {
	N    int64
	At   int64
	Code int64
}

// TextOut is a thing of chapter 2.
type TextOut struct {
	Text string
	At   int64
	Code int64
}

// fault is why bytes could not be read. It carries the code that the face tells.
type fault struct {
	code int64
}

// Error makes a fault an error.
func (f fault) Error() string {
	return "bytes: code " + strconv.FormatInt(f.code, 10)
}

// PutNum: see chapter 2.
func PutNum(n int64) string {
	u := folded(n)
	var groups [maxNumBytes]byte
	count := 0
	for ; u > 127; u >>= 7 {
		groups[count] = byte(u&127) + 128
		count++
	}
	groups[count] = byte(u)
	return string(groups[:count+1])
}

// folded puts the sign into the lowest bit, so that a small number below 0 needs few bytes too.
func folded(n int64) uint64 {
	return uint64(n)<<1 ^ uint64(n>>63)
}

// unfolded is the number of which folded makes u.
func unfolded(u uint64) int64 {
	return int64(u>>1) ^ -int64(u&1)
}

// GetNum: see chapter 2.
func GetNum(text string, at int64) NumOut {
	n, behind, err := numAt(text, at)
	var f fault
	if errors.As(err, &f) {
		return NumOut{Code: f.code}
	}
	return NumOut{N: n, At: behind}
}

// numAt is the number at a place of a text, and the place behind it.
func numAt(text string, at int64) (int64, int64, error) {
	if len(text) > MaxBytes {
		return 0, 0, fault{ErrSize}
	}
	if at < 0 {
		return 0, 0, fault{ErrForm}
	}
	u, behind, err := groupsAt(text, at)
	if err != nil {
		return 0, 0, err
	}
	return unfolded(u), behind, nil
}

// groupsAt puts together the groups of seven bits from a place on, which is not below 0.
func groupsAt(text string, at int64) (uint64, int64, error) {
	var u uint64
	var b byte
	count := 0
more:
	if at >= int64(len(text)) {
		return 0, 0, fault{ErrShort}
	}
	b = text[at]
	at++
	u |= uint64(b&127) << (7 * count)
	count++
	if count == maxNumBytes && b > 1 {
		goto wrong
	}
	if b < 128 {
		goto last
	}
	goto more
last:
	if b == 0 && count > 1 {
		goto wrong
	}
	return u, at, nil
wrong:
	return 0, 0, fault{ErrSyntax}
}

// PutText: see chapter 2.
func PutText(t string) string {
	if len(t) > MaxBytes {
		return ""
	}
	return joined(PutNum(int64(len(t))), t)
}

// joined is one text of two.
func joined(first string, second string) string {
	both := make([]byte, len(first)+len(second))
	copy(both, first)
	copy(both[len(first):], second)
	return string(both)
}

// GetText: see chapter 2.
func GetText(text string, at int64) TextOut {
	t, behind, err := textAt(text, at)
	var f fault
	if errors.As(err, &f) {
		return TextOut{Code: f.code}
	}
	return TextOut{Text: t, At: behind}
}

// textAt is the text that stands with its length at a place of a text, and the place behind it.
func textAt(text string, at int64) (string, int64, error) {
	length, start, err := numAt(text, at)
	if err != nil {
		return "", 0, err
	}
	if length < 0 || length > MaxBytes {
		return "", 0, fault{ErrSyntax}
	}
	if length > int64(len(text))-start {
		return "", 0, fault{ErrShort}
	}
	return strings.Clone(text[start : start+length]), start + length, nil
}

// NameRight: see chapter 2.
func NameRight(t string) bool {
	if len(t) < 1 || len(t) > maxNameBytes || !isLetter(t[0]) {
		return false
	}
	for i := range len(t) {
		if !isLetter(t[i]) && !isDigit(t[i]) && t[i] != '_' {
			return false
		}
	}
	return true
}

func isLetter(b byte) bool {
	return 'a' <= b && b <= 'z'
}

func isDigit(b byte) bool {
	return '0' <= b && b <= '9'
}

// Crc: see chapter 2.
func Crc(text string) int64 {
	return CrcMore(0, text)
}

// CrcMore: see chapter 2.
func CrcMore(crc int64, text string) int64 {
	if len(text) > MaxBytes || crc < 0 || crc > math.MaxUint32 {
		return 0
	}
	// Turned back, a CRC is the register as it was left; 0, of the empty text, is all ones.
	register := ^uint32(crc)
	for i := range len(text) {
		register = stepped(register ^ uint32(text[i]))
	}
	return int64(^register)
}

// stepped shifts the register by the eight bits of a byte, which are put together with it at once:
// a bit of the byte waits in the register until it is the lowest one.
func stepped(register uint32) uint32 {
	for range 8 {
		out := register & 1
		register >>= 1
		if out == 1 {
			register ^= crcPoly
		}
	}
	return register
}

// Seal: see chapter 2.
func Seal(text string) string {
	if len(text) > MaxBytes-sumBytes {
		return ""
	}
	return joined(text, sumOf(text))
}

// sumOf is the CRC of a text in its four bytes, the lowest first.
func sumOf(text string) string {
	crc := Crc(text)
	var sum [sumBytes]byte
	for i := range sum {
		sum[i] = byte(crc >> (8 * i))
	}
	return string(sum[:])
}

// Unseal: see chapter 2.
func Unseal(text string) TextOut {
	if len(text) > MaxBytes {
		return TextOut{Code: ErrSize}
	}
	if len(text) < sumBytes {
		return TextOut{Code: ErrShort}
	}
	body, sum := text[:len(text)-sumBytes], text[len(text)-sumBytes:]
	if sum != sumOf(body) {
		return TextOut{Code: ErrSum}
	}
	return TextOut{Text: strings.Clone(body)}
}
