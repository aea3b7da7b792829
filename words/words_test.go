package words_test

import (
	"slices"
	"strings"
	"testing"
	"unicode/utf8"

	"newsstand/api"
	"newsstand/words"
)

// blanks are all that there are.
var blanks = []string{"\t", "\n", "\r", " ", "\u00a0", "\u2028", "\u2029", "\u3000"}

// parts are what the texts of each are put together from.
var parts = []string{
	"a", "Z", "7", " ", "\n", "-", "\x01", "\u00b5", "\u00bf", "\u00c4", "\u00d7", "\u00f7", "\u03a9", "\u0401", "\u1fff", "\u2028", "\u2070", "\u2fff", "\u3000", "\u3040", "\ufffd", "\U0010ffff", "\xff", "\xe2\x80",
	strings.Repeat("x", api.MaxWord-1), strings.Repeat("\u00d6", api.MaxWord),
}

// each hands on all texts of up to three of the parts.
func each(check func(s string)) {
	check("")
	for _, a := range parts {
		check(a)
		for _, b := range parts {
			check(a + b)
			for _, c := range parts {
				check(a + b + c)
			}
		}
	}
}

// rows are the first and the last rune of those that are letters, as they stand, and how much higher they are folded.
var rows = [][3]rune{
	{'0', '9', 0}, {'A', 'Z', 32}, {'a', 'z', 0}, {0xc0, 0xd6, 32}, {0xd8, 0xde, 32}, {0xdf, 0xf6, 0}, {0xf8, 0x390, 0}, {0x391, 0x3a1, 32}, {0x3a2, 0x3a2, 0}, {0x3a3, 0x3a9, 32}, {0x3aa, 0x3ff, 0},
	{0x400, 0x40f, 80}, {0x410, 0x42f, 32}, {0x430, 0x1fff, 0}, {0x2070, 0x2fff, 0}, {0x3040, 0xfffc, 0}, {0xfffe, 0x10ffff, 0},
}

// letter answers c, folded, or -1, if it is no letter.
func letter(c rune) rune {
	for _, r := range rows {
		if r[0] <= c && c <= r[1] {
			return c + r[2]
		}
	}
	return -1
}

// want answers the words of s.
func want(s string) []string {
	runs := strings.FieldsFunc(s, func(c rune) bool { return letter(c) < 0 })
	for i, run := range runs {
		l := []rune(strings.Map(letter, run))
		runs[i] = string(l[:min(len(l), 32)])
	}
	return runs
}

// P6.1
func TestWords(t *testing.T) {
	for s, want := range map[string][]string{
		"":                                     nil,
		" ... \n":                              nil,
		"a":                                    {"a"},
		"The U.S.-based \u00c4rzte 3":          {"the", "u", "s", "based", "\u00e4rzte", "3"},
		"b a b":                                {"b", "a", "b"},
		"don't":                                {"don", "t"},
		"one_two":                              {"one", "two"},
		"x1Y2":                                 {"x1y2"},
		"\u00bd\u00aa\u00b5\u00ba":             nil,
		"a\u00d7b\u00f7c":                      {"a", "b", "c"},
		"\u00c0\u00d6 \u00d8\u00de":            {"\u00e0\u00f6", "\u00f8\u00fe"},
		"a\u2014b\u2000c\u206fd":               {"a", "b", "c", "d"},
		"a\u1fff\u2070b":                       {"a\u1fff\u2070b"},
		"\u65b0\u805e\u3002\u65b0\u303f\u3040": {"\u65b0\u805e", "\u65b0", "\u3040"},
		"\u2fff\u3000\u30ab":                   {"\u2fff", "\u30ab"},
		"a\ufffdb\ufffcc\ufffed":               {"a", "b\ufffcc\ufffed"},
		"a\xffb":                               {"a", "b"},
		"a\xc3":                                {"a"},
		"\u0416\u0401 \u03a9\u03a2":            {"\u0436\u0451", "\u03c9\u03a2"},
		"\U0001f600":                           {"\U0001f600"},
		"caf\u0065\u0301":                      {"cafe\u0301"},
		"a\x01b\x7fc":                          {"a", "b", "c"},
	} {
		if l := words.Words(s); !slices.Equal(l, want) {
			t.Errorf("Words(%q): %q", s, l)
		}
	}
}

// P6.1: a run of letters has no more than its first MaxWord runes as a word, however many bytes these have.
func TestWordsThatAreLong(t *testing.T) {
	for _, c := range []struct{ great, small string }{{"Q", "q"}, {"\u00c9", "\u00e9"}, {"\u805e", "\u805e"}, {"\U0001f600", "\U0001f600"}} {
		for _, n := range []int{1, 31, 32, 33, 64, 65, 1000} {
			word := strings.Repeat(c.small, min(n, 32))
			if l := words.Words("a " + strings.Repeat(c.great, n) + "-b"); !slices.Equal(l, []string{"a", word, "b"}) {
				t.Errorf("%d runes %q: %q", n, c.great, l)
			}
			if l := words.Words(strings.Repeat(c.great, n)); !slices.Equal(l, []string{word}) {
				t.Errorf("%d runes %q alone: %q", n, c.great, l)
			}
			if words.Is(strings.Repeat(c.small, n)) != (n <= 32) {
				t.Errorf("%d runes %q: a word? %v", n, c.small, n > 32)
			}
		}
	}
	if l := words.Words(strings.Repeat("a", 32) + "bc d"); !slices.Equal(l, []string{strings.Repeat("a", 32), "d"}) {
		t.Errorf("a run's end: %q", l)
	}
}

// P6.1: each rune, between letters.
func TestWordsOfEachRune(t *testing.T) {
	for c := rune(0); c <= utf8.MaxRune; c++ {
		s, want := "x"+string(c)+"y", []string{"x", "y"}
		f := letter([]rune(string(c))[0])
		if f >= 0 {
			want = []string{"x" + string(f) + "y"}
		}
		if l := words.Words(s); !slices.Equal(l, want) {
			t.Fatalf("Words(%q): %q", s, l)
		}
		if words.Is(string(c)) != (f == c) {
			t.Fatalf("Is(%q): %v", string(c), words.Is(string(c)))
		}
	}
}

// P6.1: held against the library.
func TestWordsOfAllTexts(t *testing.T) {
	each(func(s string) {
		want := want(s)
		if l := words.Words(s); !slices.Equal(l, want) {
			t.Fatalf("Words(%q): %q", s, l)
		}
		if words.Is(s) != (len(want) == 1 && want[0] == s) {
			t.Fatalf("Is(%q): %v", s, words.Is(s))
		}
		slices.Sort(want)
		if l := words.Set(s); !slices.Equal(l, slices.Compact(want)) {
			t.Fatalf("Set(%q): %q", s, l)
		}
	})
}

// P6.1
func TestSet(t *testing.T) {
	for s, want := range map[string][]string{
		"":                           nil,
		"...":                        nil,
		"b a":                        {"a", "b"},
		"a A a":                      {"a"},
		"the cat The dog cat":        {"cat", "dog", "the"},
		"ab a abc b 10 9":            {"10", "9", "a", "ab", "abc", "b"},
		"\U0001f600 \uff41 z \u00e4": {"z", "\u00e4", "\uff41", "\U0001f600"},
		strings.Repeat("y", 33) + " x " + strings.Repeat("y", 34): {"x", strings.Repeat("y", 32)},
	} {
		if l := words.Set(s); !slices.Equal(l, want) {
			t.Errorf("Set(%q): %q", s, l)
		}
	}
}

// P6.1
func TestIs(t *testing.T) {
	for s, want := range map[string]bool{
		"": false, " ": false, "-": false, "\xff": false, "\ufffd": false, "\u00d7": false,
		"a": true, "x1": true, "2026": true, "\u00e4rzte": true, "\u805e": true,
		"X1": false, "\u00c4rzte": false, "a b": false, " a": false, "a ": false, "a.": false, "a\xff": false, "a\x00": false,
	} {
		if words.Is(s) != want {
			t.Errorf("Is(%q): %v", s, !want)
		}
	}
}

// P6.2
func TestHasAndBegins(t *testing.T) {
	long := strings.Repeat("n", 32)
	for _, c := range []struct {
		s, word     string
		has, begins bool
	}{
		{"Go 1.27 is out", "out", true, true},
		{"Go 1.27 is out", "go", true, true},
		{"Go 1.27 is out", "GO", true, true},
		{"Go 1.27 is out", "27", true, true},
		{"Go 1.27 is out", "OUT of", true, true}, // the first word alone counts
		{"Go 1.27 is out", " -is- no", true, true},
		{"Go 1.27 is out", "of out", false, false},
		{"Go 1.27 is out", "o", false, true},
		{"Go 1.27 is out", "ou", false, true},
		{"Go 1.27 is out", "u", false, false},
		{"Go 1.27 is out", "outer", false, false},
		{"Go 1.27 is out", "2", false, true},
		{"Go 1.27 is out", "", false, false},
		{"Go 1.27 is out", " ... ", false, false},
		{"", "", false, false},
		{"", "a", false, false},
		{"...", "-", false, false},
		{"b ab", "a", false, true},
		{"ab b", "b", true, true},
		{"\u00c4rzte", "\u00e4RZTE", true, true},
		{"\u00c4rzte", "\u00c4", false, true},
		{"\u00c4rzte", "\xc3", false, false}, // a part of a rune is no word
		{"\u805e\u65b0", "\u805e", false, true},
		{long + "a", long + "b", true, true}, // what is behind the 32nd rune counts for nothing
		{long, long + "nn", true, true},
		{long, long[1:], false, true},
		{long[1:], long, false, false},
	} {
		if words.Has(c.s, c.word) != c.has {
			t.Errorf("Has(%q, %q): %v", c.s, c.word, !c.has)
		}
		if words.Begins(c.s, c.word) != c.begins {
			t.Errorf("Begins(%q, %q): %v", c.s, c.word, !c.begins)
		}
	}
}

// P6.2
func TestSame(t *testing.T) {
	long := strings.Repeat("n", 32)
	for _, c := range []struct {
		a, b string
		want bool
	}{
		{"", "", true},
		{"", " - ", true},
		{"", "a", false},
		{"Tea, please", "tea (please)", true},
		{"a b", "b a", false},
		{"a b", "a", false},
		{"a", "a a", false},
		{"a b", "ab", false},
		{"ab", "ac", false},
		{"\u00c4", "\u00e4!", true},
		{"a", "\u00e4", false},
		{long + "x", long + "y", true},
		{long[1:] + "x", long[1:] + "y", false},
	} {
		if words.Same(c.a, c.b) != c.want || words.Same(c.b, c.a) != c.want {
			t.Errorf("Same(%q, %q): %v", c.a, c.b, !c.want)
		}
	}
}

// P6.3
func TestOtherBlanksBetween(t *testing.T) {
	const plain = "The  Ca\u00d1on.of 3 \u0416\u0430"
	l := []string{"the", "ca\u00f1on", "of", "3", "\u0436\u0430"}
	for _, x := range blanks {
		for _, y := range append([]string{""}, blanks...) {
			s := y + strings.ReplaceAll(plain, " ", x+y) + x
			if got := words.Words(s); !slices.Equal(got, l) {
				t.Errorf("Words(%q): %q", s, got)
			}
			if !words.Same(s, plain) {
				t.Errorf("Same(%q, %q): false", s, plain)
			}
		}
	}
}

// P6.3, P6.2: each word of a text is its own only word, and in the text.
func TestEachWordIsAWord(t *testing.T) {
	each(func(s string) {
		for _, w := range words.Words(s) {
			if l := words.Words(w); len(l) != 1 || l[0] != w || !words.Is(w) {
				t.Fatalf("Words(%q): %q", w, l)
			}
			if !words.Has(s, w) || !words.Begins(s, w) {
				t.Fatalf("%q has not %q", s, w)
			}
		}
		if joined := strings.Join(words.Words(s), "\u3000"); !words.Same(s, joined) {
			t.Fatalf("Same(%q, %q): false", s, joined)
		}
	})
}

// What is answered is the caller's.
func TestWordsAreNotKept(t *testing.T) {
	const s = "b a"
	words.Words(s)[0] = "x"
	words.Set(s)[0] = "x"
	if l, m := words.Words(s), words.Set(s); !slices.Equal(l, []string{"b", "a"}) || !slices.Equal(m, []string{"a", "b"}) {
		t.Errorf("%q, %q", l, m)
	}
}
