package utf_test

import (
	"slices"
	"strings"
	"testing"
	"unicode/utf8"

	"newsstand/utf"
)

// parts are what the texts of each are put together from: runes of each length and at each edge, and bytes that are no rune's.
var parts = []string{
	"a", "Z", " ", "\x00", "\n", "\x7f", "\u0080", "\u00a0", "\u00c4", "\u07ff", "\u0800", "\u2029", "\ud7ff", "\ue000", "\ufffd", "\uffff", "\U00010000", "\U0010ffff",
	"\x80", "\xbf", "\xc0", "\xc3", "\xe2\x80", "\xed\xa0\x80", "\xed\xbf\xbf", "\xef\xbf", "\xf0\x80\x80\x80", "\xf0\x9f\x98", "\xf4\x90\x80\x80", "\xff",
}

// each hands on all texts of up to three of the parts.
func each(check func(s string)) {
	check("")
	for _, a := range parts {
		check(a)
		for _, b := range parts {
			check(a + b)
			for _, c := range parts {
				check(a + b + c)
			}
		}
	}
}

// all hands on each number of a rune, and some that are none's.
func all(check func(c rune)) {
	for c := rune(-0x200); c <= utf8.MaxRune+0x200; c++ {
		check(c)
	}
	for _, c := range []rune{-1 << 31, -0x110000, 1<<31 - 1, 1<<21 | ' ', 1<<16 | 1<<30} {
		check(c)
	}
}

// decoded are texts and their runes; right are those without bytes that are no rune's.
var decoded = []struct {
	s     string
	runes []rune
	right bool
}{
	{"", nil, true},
	{"a", []rune{'a'}, true},
	{"\x00", []rune{0}, true},
	{"\x7f\u0080", []rune{0x7f, 0x80}, true},
	{"\u00e4\u20ac\U0001f600", []rune{0xe4, 0x20ac, 0x1f600}, true},
	{"\u07ff\u0800\uffff\U00010000\U0010ffff", []rune{0x7ff, 0x800, 0xffff, 0x10000, 0x10ffff}, true},
	{"\ufffd", []rune{0xfffd}, true},
	{"a\ufffdb", []rune{'a', 0xfffd, 'b'}, true},
	{"\x80", []rune{0xfffd}, false},
	{"\xff", []rune{0xfffd}, false},
	{"\xe4b", []rune{0xfffd, 'b'}, false},
	{"a\xc3", []rune{'a', 0xfffd}, false},
	{"\xe2\x82", []rune{0xfffd, 0xfffd}, false},
	{"\xef\xbf", []rune{0xfffd, 0xfffd}, false},
	{"\xf0\x9f\x98a", []rune{0xfffd, 0xfffd, 0xfffd, 'a'}, false},
	{"\xc0\x80", []rune{0xfffd, 0xfffd}, false},
	{"\xe0\x9f\xbf", []rune{0xfffd, 0xfffd, 0xfffd}, false},
	{"\xed\xa0\x80", []rune{0xfffd, 0xfffd, 0xfffd}, false},
	{"\xed\xbf\xbf", []rune{0xfffd, 0xfffd, 0xfffd}, false},
	{"\xf4\x90\x80\x80", []rune{0xfffd, 0xfffd, 0xfffd, 0xfffd}, false},
	{"\ufffd\xff", []rune{0xfffd, 0xfffd}, false},
	{"\xff\ufffd", []rune{0xfffd, 0xfffd}, false},
}

// P5.1
func TestRunesOfTexts(t *testing.T) {
	for _, c := range decoded {
		if utf.Right(c.s) != c.right {
			t.Errorf("Right(%q): %v", c.s, !c.right)
		}
		if l := utf.Runes(c.s); !slices.Equal(l, c.runes) {
			t.Errorf("Runes(%q): %x", c.s, l)
		}
		if n := utf.Count(c.s); n != len(c.runes) {
			t.Errorf("Count(%q): %d", c.s, n)
		}
	}
}

// P5.1: held against the library.
func TestRunesOfAllTexts(t *testing.T) {
	each(func(s string) {
		if utf.Right(s) != utf8.ValidString(s) {
			t.Fatalf("Right(%q): %v", s, utf.Right(s))
		}
		if l := utf.Runes(s); !slices.Equal(l, []rune(s)) {
			t.Fatalf("Runes(%q): %x", s, l)
		}
		if n := utf.Count(s); n != utf8.RuneCountInString(s) {
			t.Fatalf("Count(%q): %d", s, n)
		}
		if p := utf.Put(utf.Runes(s)); p != string([]rune(s)) || utf.Right(s) != (p == s) {
			t.Fatalf("Put(Runes(%q)): %q", s, p)
		}
	})
}

// P5.1
func TestPut(t *testing.T) {
	for _, c := range []struct {
		l    []rune
		want string
	}{
		{nil, ""},
		{[]rune{}, ""},
		{[]rune{0}, "\x00"},
		{[]rune{'a', 0xe4, 0x20ac, 0x1f600}, "a\u00e4\u20ac\U0001f600"},
		{[]rune{-1, 'a', 0xd800, 0xdfff, 0x110000}, "\ufffda\ufffd\ufffd\ufffd"},
		{[]rune{0xd7ff, 0xe000, 0xfffd, 0x10ffff}, "\ud7ff\ue000\ufffd\U0010ffff"},
	} {
		before := slices.Clone(c.l)
		if s := utf.Put(c.l); s != c.want {
			t.Errorf("Put(%x): %q", before, s)
		}
		if !slices.Equal(c.l, before) {
			t.Errorf("Put(%x) changed it: %x", before, c.l)
		}
	}
}

// P5.1, P5.3: each number by itself.
func TestPutOfEachRune(t *testing.T) {
	all(func(c rune) {
		want := c
		if !utf8.ValidRune(c) {
			want = utf8.RuneError
		}
		s := utf.Put([]rune{c})
		if s != string(c) || !utf.Right(s) || utf.Count(s) != 1 || utf.Runes(s)[0] != want {
			t.Fatalf("Put(%x): %q", c, s)
		}
	})
}

// P5.1: the list that is answered is the caller's.
func TestRunesAreNotKept(t *testing.T) {
	const s = "abc"
	utf.Runes(s)[0] = 'x'
	if l := utf.Runes(s); !slices.Equal(l, []rune{'a', 'b', 'c'}) {
		t.Errorf("Runes(%q): %q", s, string(l))
	}
}

// P5.2
func TestCut(t *testing.T) {
	for _, c := range []struct {
		s    string
		n    int
		want string
	}{
		{"", -1, ""}, {"", 0, ""}, {"", 1, ""},
		{"abc", -1 << 63, ""}, {"abc", -1, ""}, {"abc", 0, ""}, {"abc", 1, "a"}, {"abc", 2, "ab"}, {"abc", 3, "abc"}, {"abc", 4, "abc"}, {"abc", 1<<63 - 1, "abc"},
		{"\u00e4", 1, ""}, {"\u00e4", 2, "\u00e4"},
		{"\u20aca", 1, ""}, {"\u20aca", 2, ""}, {"\u20aca", 3, "\u20ac"}, {"\u20aca", 4, "\u20aca"},
		{"a\U0001f600", 4, "a"}, {"a\U0001f600", 5, "a\U0001f600"},
		{"\xffa", 1, "\xff"}, {"\xffa", 2, "\xffa"},
		{"\xe2\x82", 1, "\xe2"}, {"\xe2\x82", 2, "\xe2\x82"}, // bytes that are no rune's are one rune each
		{"a\xe2\x82z", 2, "a\xe2"}, {"a\xe2\x82z", 3, "a\xe2\x82"},
		{"\xc3\u00a4", 1, "\xc3"}, {"\xc3\u00a4", 2, "\xc3"}, {"\xc3\u00a4", 3, "\xc3\u00a4"},
		{" \x01A", 2, " \x01"},
	} {
		if s := utf.Cut(c.s, c.n); s != c.want {
			t.Errorf("Cut(%q, %d): %q", c.s, c.n, s)
		}
	}
}

// P5.2: held against the runes as the library takes them.
func TestCutOfAllTexts(t *testing.T) {
	each(func(s string) {
		want, next := 0, 0
		for n := -1; n <= len(s)+1; n++ {
			for next <= n && next <= len(s) {
				want = next
				_, size := utf8.DecodeRuneInString(s[next:])
				next += max(size, 1)
			}
			if c := utf.Cut(s, n); c != s[:want] {
				t.Fatalf("Cut(%q, %d): %q", s, n, c)
			}
		}
	})
}

// What a text with many runes is asked for hangs on its end, too.
func TestLongTexts(t *testing.T) {
	const n = 1 << 16
	s := strings.Repeat("\u20ac ", n) + "\xff"
	if utf.Right(s) || !utf.Right(s[:4*n]) || utf.Count(s) != 2*n+1 || len(utf.Runes(s)) != 2*n+1 {
		t.Error("a long text")
	}
	if utf.Cut(s, 4*n+1) != s || utf.Cut(s, 4*n) != s[:4*n] || utf.Cut(s, 4*n-2) != s[:4*n-4] || utf.Clean(s) != s[:4*n]+"\ufffd" || utf.Fold(s) != s[:4*n]+"\ufffd" {
		t.Error("what is left of a long text")
	}
}
