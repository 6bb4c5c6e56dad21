package tests

import (
	"fmt"
	"reflect"
	"testing"
)

// same compares what was got with what is wanted, all fields at once, so that
// what must be zero beside a code is looked at too.
func same(t *testing.T, what string, got any, want any) {
	t.Helper()
	if !reflect.DeepEqual(got, want) {
		t.Errorf("%s: got %s, want %s", what, shown(got), shown(want))
	}
}

// shown is a value as it is told of, cut so that a long text does not hide what else failed.
func shown(x any) string {
	return fmt.Sprintf("%.200s", fmt.Sprintf("%#v", x))
}

// everyByte is a text in which each byte stands once, most of it no UTF-8.
func everyByte() string {
	b := make([]byte, 256)
	for i := range b {
		b[i] = byte(i)
	}
	return string(b)
}

// mixed is a text of n bytes in which no short piece repeats.
func mixed(n int) string {
	b := make([]byte, n)
	x := uint32(1)
	for i := range b {
		x = x*1664525 + 1013904223
		b[i] = byte(x >> 24)
	}
	return string(b)
}
