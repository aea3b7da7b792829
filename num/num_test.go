package num_test

import (
	"bytes"
	"math"
	"strings"
	"testing"

	"newsstand/api"
	"newsstand/num"
)

// forms are numbers, and their bytes, at each edge: of the groups, of what a number is.
var forms = []struct {
	n int
	b string
}{
	{0, "\x00"},
	{-1, "\x01"},
	{1, "\x02"},
	{-2, "\x03"},
	{2, "\x04"},
	{63, "\x7e"},
	{-64, "\x7f"},
	{64, "\x80\x01"},
	{-65, "\x81\x01"},
	{100, "\xc8\x01"},
	{8191, "\xfe\x7f"},
	{-8192, "\xff\x7f"},
	{8192, "\x80\x80\x01"},
	{1 << 16, "\x80\x80\x08"},
	{1 << 31, "\x80\x80\x80\x80\x10"},
	{-1 << 31, "\xff\xff\xff\xff\x0f"},
	{1<<48 - 1, "\xfe\xff\xff\xff\xff\xff\x7f"},
	{1 << 48, "\x80\x80\x80\x80\x80\x80\x80\x01"},
	{api.MaxInt - 1, "\xfc\xff\xff\xff\xff\xff\xff\x1f"},
	{api.MaxInt, "\xfe\xff\xff\xff\xff\xff\xff\x1f"},
	{1 - api.MaxInt, "\xfb\xff\xff\xff\xff\xff\xff\x1f"},
	{-api.MaxInt, "\xfd\xff\xff\xff\xff\xff\xff\x1f"},
}

// numbers are those at the edges, and around each power of two.
func numbers() []int {
	var l []int
	for _, f := range forms {
		l = append(l, f.n)
	}
	for n := -300; n <= 300; n++ {
		l = append(l, n)
	}
	for k := range 53 {
		for d := -1; d <= 1; d++ {
			for _, n := range []int{1<<k + d, -1<<k + d} {
				if -api.MaxInt <= n && n <= api.MaxInt {
					l = append(l, n)
				}
			}
		}
	}
	return l
}

// P1.1
func TestPut(t *testing.T) {
	for _, f := range forms {
		if b, e := num.Put(f.n); e != api.OK || string(b) != f.b {
			t.Errorf("Put(%d): %x, %d", f.n, b, e)
		}
	}
	for _, n := range []int{api.MaxInt + 1, -api.MaxInt - 1, api.MaxInt + 2, 1 << 54, -1 << 54, 1 << 62, math.MaxInt, math.MinInt, math.MinInt + 1} {
		if b, e := num.Put(n); e != api.ErrNum || len(b) != 0 {
			t.Errorf("Put(%d): %x, %d", n, b, e)
		}
	}
}

// P1.1, R3
func TestPutSharesNothing(t *testing.T) {
	for _, n := range []int{0, 5, 64, api.MaxInt} {
		a, _ := num.Put(n)
		want := string(a)
		for i := range a {
			a[i] ^= 0xff
		}
		if b, _ := num.Put(n); string(b) != want {
			t.Errorf("Put(%d): %x", n, b)
		}
	}
}

// P1.1
func TestGet(t *testing.T) {
	for _, f := range forms {
		for _, more := range []string{"", "\x00", "\x01", "\x7f", "\x80", "\xff\xff\xff\xff\xff\xff\xff\xff\xff"} {
			b := []byte(f.b + more)
			if n, k, e := num.Get(b); e != api.OK || n != f.n || k != len(f.b) {
				t.Errorf("Get(%x): %d, %d, %d", b, n, k, e)
			}
			if string(b) != f.b+more {
				t.Errorf("Get changed its bytes: %x", b)
			}
		}
	}
}

// P1.1
func TestGetNoNumber(t *testing.T) {
	for _, s := range []string{
		"",
		"\x80", "\xff", "\x80\x80", "\xff\xff\xff\xff\xff\xff\xff", // they end too soon
		"\xfe\xff\xff\xff\xff\xff\xff", "\xfe\xff\xff\xff\xff\xff\xff\xff",
		"\x80\x00", "\x81\x00", "\xff\x00", "\xff\xff\x00", "\x80\x80\x80\x00", "\x80\x00\x01", // more than are needed
		"\x80\x80\x80\x80\x80\x80\x80\x00", "\xfe\xff\xff\xff\xff\xff\xff\x9f\x00",
		"\xff\xff\xff\xff\xff\xff\xff\x1f", // -MaxInt - 1
		"\x80\x80\x80\x80\x80\x80\x80\x20", // MaxInt + 1
		"\x81\x80\x80\x80\x80\x80\x80\x20", "\xff\xff\xff\xff\xff\xff\xff\x7f",
		"\xff\xff\xff\xff\xff\xff\xff\xff\x01", "\x80\x80\x80\x80\x80\x80\x80\x80\x01", // 9 groups
		"\x80\x80\x80\x80\x80\x80\x80\x80\x80\x02", "\x82\x80\x80\x80\x80\x80\x80\x80\x80\x80\x01", // what 64 bits lose
		strings.Repeat("\x80", 1000), strings.Repeat("\x80", 1000) + "\x01",
	} {
		if n, k, e := num.Get([]byte(s)); n != 0 || k != 0 || e != api.ErrNum {
			t.Errorf("Get(%x): %d, %d, %d", s, n, k, e)
		}
	}
	if n, k, e := num.Get(nil); n != 0 || k != 0 || e != api.ErrNum {
		t.Errorf("Get(nil): %d, %d, %d", n, k, e)
	}
}

// P1.1
func TestText(t *testing.T) {
	for s, want := range map[string]string{
		"":                                  "\x00",
		"ab":                                "\x04ab",
		"\x00\xff":                          "\x04\x00\xff",
		"\u00e9":                            "\x04\xc3\xa9", // bytes are counted, not runes
		strings.Repeat("x", 63):             "\x7e" + strings.Repeat("x", 63),
		strings.Repeat("x", 64):             "\x80\x01" + strings.Repeat("x", 64),
		strings.Repeat("x", 8192):           "\x80\x80\x01" + strings.Repeat("x", 8192),
		strings.Repeat("x", api.MaxBytes-1): "\xfe\xff\x07" + strings.Repeat("x", api.MaxBytes-1),
		strings.Repeat("x", api.MaxBytes):   "\x80\x80\x08" + strings.Repeat("x", api.MaxBytes),
	} {
		if b, e := num.Text(s); e != api.OK || string(b) != want {
			t.Errorf("Text of %d bytes: %d bytes, %d", len(s), len(b), e)
		}
	}
	for _, n := range []int{api.MaxBytes + 1, api.MaxBytes + 2, 2 * api.MaxBytes, 1 << 20} {
		if b, e := num.Text(strings.Repeat("x", n)); e != api.ErrLong || len(b) != 0 {
			t.Errorf("Text of %d bytes: %d bytes, %d", n, len(b), e)
		}
	}
}

// P1.1
func TestWord(t *testing.T) {
	for n, want := range map[uint32]string{
		0:              "\x00\x00\x00\x00",
		1:              "\x01\x00\x00\x00",
		0x80:           "\x80\x00\x00\x00",
		0x100:          "\x00\x01\x00\x00",
		0x12345678:     "\x78\x56\x34\x12",
		0x80000000:     "\x00\x00\x00\x80",
		math.MaxUint32: "\xff\xff\xff\xff",
	} {
		if b := num.Word(n); string(b) != want {
			t.Errorf("Word(%x): %x", n, b)
		}
	}
	a := num.Word(7)
	a[0] = 9
	if b := num.Word(7); string(b) != "\x07\x00\x00\x00" {
		t.Errorf("Word(7): %x", b)
	}
}

// P1.3
func TestPutIsGot(t *testing.T) {
	for _, n := range numbers() {
		b, e := num.Put(n)
		if e != api.OK || len(b) == 0 {
			t.Fatalf("Put(%d): %x, %d", n, b, e)
		}
		for _, more := range []string{"", "\x00", "\x80", "\xff", "\x05\x06"} {
			if m, k, e := num.Get(append(bytes.Clone(b), more...)); m != n || k != len(b) || e != api.OK {
				t.Errorf("Get of Put(%d) and %x: %d, %d, %d", n, more, m, k, e)
			}
			if r := num.From(append(bytes.Clone(b), more...)); r.Num() != n || r.Left() != len(more) || r.Bad() {
				t.Errorf("Num of Put(%d) and %x", n, more)
			}
		}
		for i := range b {
			if m, k, e := num.Get(b[:i]); m != 0 || k != 0 || e != api.ErrNum {
				t.Errorf("Get of %d bytes of Put(%d): %d, %d, %d", i, n, m, k, e)
			}
		}
	}
}

// P1.3
func TestOneWay(t *testing.T) {
	look := func(b []byte) {
		n, k, e := num.Get(b)
		if e != api.OK {
			return
		}
		if p, e := num.Put(n); e != api.OK || !bytes.Equal(p, b[:k]) {
			t.Errorf("Get(%x): %d, but Put: %x, %d", b, n, p, e)
		}
	}
	for i := range 1 << 8 {
		look([]byte{byte(i)})
	}
	for i := range 1 << 16 {
		look([]byte{byte(i), byte(i >> 8)})
		look([]byte{0x80 | byte(i), 0x80, byte(i >> 8)})
		look([]byte{byte(i), 0xff, 0xff, 0xff, 0xff, 0xff, 0xff, byte(i >> 8)})
		look([]byte{byte(i), 0x80, 0x80, 0x80, 0x80, 0x80, 0x80, byte(i >> 8), 1})
	}
	for _, n := range numbers() { // no longer form is one
		b, _ := num.Put(n)
		for range 12 {
			b[len(b)-1] |= 0x80
			b = append(b, 0)
			if m, k, e := num.Get(b); m != 0 || k != 0 || e != api.ErrNum {
				t.Errorf("Get(%x): %d, %d, %d", b, m, k, e)
			}
		}
	}
}
