package utf_test

import (
	"slices"
	"strings"
	"testing"
	"unicode/utf8"

	"newsstand/utf"
)

// blanks are all that there are.
var blanks = []rune{'\t', '\n', '\r', ' ', 0xa0, 0x2028, 0x2029, 0x3000}

// isUnseen tells whether c is left out of a clean text, and is no blank.
func isUnseen(c rune) bool {
	return !slices.Contains(blanks, c) && (c < 0x20 || c >= 0x7f && c <= 0x9f)
}

// rows are the first and the last rune of those that are folded, and how much higher they are then.
var rows = [][3]rune{{'A', 'Z', 32}, {0xc0, 0xd6, 32}, {0xd8, 0xde, 32}, {0x391, 0x3a1, 32}, {0x3a3, 0x3a9, 32}, {0x400, 0x40f, 80}, {0x410, 0x42f, 32}}

func fold(c rune) rune {
	for _, r := range rows {
		if r[0] <= c && c <= r[1] {
			return c + r[2]
		}
	}
	return c
}

// P5.1
func TestBlank(t *testing.T) {
	all(func(c rune) {
		if want := slices.Contains(blanks, c); utf.Blank(c) != want {
			t.Fatalf("Blank(%x): %v", c, !want)
		}
	})
}

// P5.2
func TestClean(t *testing.T) {
	for s, want := range map[string]string{
		"":                         "",
		"a":                        "a",
		" ":                        "",
		" \t\n\r\u00a0\u2028":      "",
		" a\t\n b ":                "a b",
		"a\r\nb":                   "a b",
		"a\u00a0\u3000\u2029b":     "a b",
		"\u2028a\u3000":            "a",
		"a  b   c":                 "a b c",
		"\x00":                     "",
		"\x01\x1f\x7f\u0080":       "",
		"a\x01b\x7fc\u0085d":       "abcd",
		"a\x0bb\x0cc\u009fd":       "abcd", // no blanks here
		"a \x02 b":                 "a b",
		"a\x02 b":                  "a b",
		"a \x02b":                  "a b",
		"\x02 a":                   "a",
		" \x02a":                   "a",
		"a \x02":                   "a",
		"a\x02 ":                   "a",
		"\x02 \x02":                "",
		"\u200b\u2003\u1680\ufeff": "\u200b\u2003\u1680\ufeff", // no blanks here
		"\u00a1~ \u2027\u202a":     "\u00a1~ \u2027\u202a",
		"\xff a":                   "\ufffd a",
		" \xff\xfe ":               "\ufffd\ufffd",
		"a\x80 \x9fb":              "a\ufffd \ufffdb", // bytes that are no rune's, not the runes of these numbers
		"\u00c4 B":                 "\u00c4 B",
	} {
		if c := utf.Clean(s); c != want {
			t.Errorf("Clean(%q): %q", s, c)
		}
	}
}

// P5.2: each rune, at each place of a text.
func TestCleanOfEachRune(t *testing.T) {
	all(func(c rune) {
		if !utf8.ValidRune(c) {
			return
		}
		s := string(c)
		want := s + s + "a" + s + s + "b" + s + s
		switch {
		case slices.Contains(blanks, c):
			want = "a b"
		case isUnseen(c):
			want = "ab"
		}
		if got := utf.Clean(s + s + "a" + s + s + "b" + s + s); got != want {
			t.Fatalf("Clean with %x: %q", c, got)
		}
	})
}

// P5.2, P5.3: held against the library.
func TestCleanOfAllTexts(t *testing.T) {
	each(func(s string) {
		seen := slices.DeleteFunc([]rune(s), isUnseen)
		want := strings.Join(strings.FieldsFunc(string(seen), func(c rune) bool { return slices.Contains(blanks, c) }), " ")
		c := utf.Clean(s)
		if c != want {
			t.Fatalf("Clean(%q): %q", s, c)
		}
		if again := utf.Clean(c); again != c {
			t.Fatalf("Clean(%q): %q", c, again)
		}
		if !utf.Right(c) {
			t.Fatalf("Clean(%q) is not right: %q", s, c)
		}
	})
}

// P5.2
func TestFold(t *testing.T) {
	for s, want := range map[string]string{
		"":                         "",
		"AZaz09":                   "azaz09",
		"@[`{":                     "@[`{",
		"\u00c4B":                  "\u00e4b",
		"\u00c0\u00d6\u00d8\u00de": "\u00e0\u00f6\u00f8\u00fe",
		"\u00bf\u00d7\u00df\u00ff": "\u00bf\u00d7\u00df\u00ff",
		"\u0100\u0130\u0178":       "\u0100\u0130\u0178",
		"\u0391\u03a1\u03a3\u03a9": "\u03b1\u03c1\u03c3\u03c9",
		"\u0390\u03a2\u03aa\u0386": "\u0390\u03a2\u03aa\u0386",
		"\u0400\u040f":             "\u0450\u045f",
		"\u0410\u042f":             "\u0430\u044f",
		"\u03ff\u0430\u0460":       "\u03ff\u0430\u0460",
		" A\tB\x01 ":               " a\tb\x01 ",
		"A\xc3":                    "a\ufffd",
		"\xc0\xd8":                 "\ufffd\ufffd",
	} {
		if f := utf.Fold(s); f != want {
			t.Errorf("Fold(%q): %q", s, f)
		}
	}
}

// P5.2, P5.3: each rune.
func TestFoldOfEachRune(t *testing.T) {
	all(func(c rune) {
		s := string(c)
		f := utf.Fold(s)
		if f != string(fold([]rune(s)[0])) {
			t.Fatalf("Fold of %x: %q", c, f)
		}
		if again := utf.Fold(f); again != f {
			t.Fatalf("Fold(%q): %q", f, again)
		}
	})
}

// P5.2, P5.3: what is folded is right, folded again the same, and of as many runes.
func TestFoldOfAllTexts(t *testing.T) {
	each(func(s string) {
		f := utf.Fold(s)
		if want := strings.Map(fold, s); f != want {
			t.Fatalf("Fold(%q): %q", s, f)
		}
		if utf.Fold(f) != f || !utf.Right(f) || utf.Count(f) != utf.Count(s) {
			t.Fatalf("Fold(%q): %q", s, f)
		}
	})
}
