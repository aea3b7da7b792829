package entity_test

import (
	"regexp"
	"strconv"
	"strings"
	"testing"
	"time"
	"unicode/utf8"

	"newsstand/entity"
)

// parts are what the texts of each are put together from: signs, names, what is nearly a name, runes and bytes that are no rune's.
var parts = []string{
	"&", ";", "#", "x", "amp", "lt", "gt;", "quot", "apos;", "&amp;", "&lt;", "<", ">", "\"", "'", " ", "6", "0000065", "x41;", "x00004a", "nbsp", "&#", "&#x", "&#38;", "AF9;", "D800", "\xff", "\xe2\x82", "\u00e4", "\ufffd", "\U0001f600", "\x00",
}

// each hands on all texts of up to three of the parts.
func each(check func(s string)) {
	check("")
	for _, a := range parts {
		check(a)
		for _, b := range parts {
			check(a + b)
			for _, c := range parts {
				check(a + b + c)
			}
		}
	}
}

// named finds the names of signs in a text, each with what is ahead and behind; single is a name alone.
var (
	named  = regexp.MustCompile(`&(?:amp|lt|gt|quot|apos|#[0-9]{1,7}|#x[0-9a-fA-F]{1,6});`)
	single = regexp.MustCompile(`^(?:amp|lt|gt|quot|apos|#[0-9]{1,7}|#x[0-9a-fA-F]{1,6})$`)
)

// runeOf answers the rune of a name that is one.
func runeOf(name string) rune {
	if i := strings.Index(" amp  lt   gt   quot apos", " "+name); i >= 0 {
		return rune(`&<>"'`[i/5])
	}
	base := 10
	digits := name[1:]
	if name[1] == 'x' {
		base, digits = 16, name[2:]
	}
	n, err := strconv.ParseInt(digits, base, 64)
	if err != nil {
		panic(err)
	}
	return numbered(n)
}

// numbered answers the rune of a number.
func numbered(n int64) rune {
	if n != 9 && n != 10 && n != 13 && n < 32 || !utf8.ValidRune(rune(n)) {
		return 0xfffd
	}
	return rune(n)
}

// P7.1
func TestSign(t *testing.T) {
	for name, want := range map[string]rune{
		"amp": '&', "lt": '<', "gt": '>', "quot": '"', "apos": '\'',
		"#65": 'A', "#065": 'A', "#0000065": 'A', "#9": '\t', "#10": '\n', "#13": '\r', "#32": ' ', "#0000010": '\n',
		"#x41": 'A', "#x000041": 'A', "#x9": '\t', "#xa": '\n', "#xA": '\n', "#xd": '\r', "#x20": ' ',
		"#xe4": 0xe4, "#xE4": 0xe4, "#x1f600": 0x1f600, "#x1F60a": 0x1f60a, "#128512": 0x1f600, "#xabcdef": 0xfffd, "#xABCDE": 0xabcde,
		"#127": 127, "#128": 128, "#159": 159, "#x80": 0x80, "#65533": 0xfffd, "#65535": 0xffff, "#xFFFE": 0xfffe,
		"#0": 0xfffd, "#1": 0xfffd, "#8": 0xfffd, "#11": 0xfffd, "#12": 0xfffd, "#14": 0xfffd, "#31": 0xfffd, "#x0": 0xfffd, "#x1f": 0xfffd, "#0000000": 0xfffd, "#x000000": 0xfffd,
		"#55295": 0xd7ff, "#55296": 0xfffd, "#57343": 0xfffd, "#57344": 0xe000, "#xd7ff": 0xd7ff, "#xD800": 0xfffd, "#xdfff": 0xfffd, "#xE000": 0xe000,
		"#1114111": 0x10ffff, "#1114112": 0xfffd, "#9999999": 0xfffd, "#x10ffff": 0x10ffff, "#x110000": 0xfffd, "#xffffff": 0xfffd,
	} {
		if c, is := entity.Sign(name); !is || c != want {
			t.Errorf("Sign(%q): %x, %v", name, c, is)
		}
	}
}

// P7.1
func TestNoSign(t *testing.T) {
	for _, name := range []string{
		"", "a", "am", "ampx", "amp ", " amp", "amp;", "&amp", "&amp;", "AMP", "Lt", "QUOT", "nbsp", "copy", "&", "<", "'", "65", "x41",
		"#", "##", "##65", "#-1", "#+1", "#1.", "#1e", "#6A", "#a", "# 1", "#1 ", "#1_0", "#65;", "#\u0663", "#\uff11", "#6\xff", "#/", "#:",
		"#00000065", "#12345678", "#00000000", "#" + strings.Repeat("0", 100), "#" + strings.Repeat("9", 100), "#" + strings.Repeat("4294967361", 3),
		"#x", "#X41", "#xg", "#xG", "#x@", "#x`", "#x/", "#x:", "#x4 ", "#x-4", "#x0x4", "#xx4", "#x1234567", "#x0000041", "#x" + strings.Repeat("f", 100), "#x\u00e4", "#x\xff", "x", "#x41;",
	} {
		if c, is := entity.Sign(name); is || c != 0 {
			t.Errorf("Sign(%q): %x, %v", name, c, is)
		}
	}
}

// P7.1: each number, in both ways.
func TestSignOfEachNumber(t *testing.T) {
	check := func(name string, n int64) {
		if c, is := entity.Sign(name); !is || c != numbered(n) {
			t.Fatalf("Sign(%q): %x, %v", name, c, is)
		}
	}
	for n := int64(0); n < 0x110000+0x1000; n++ {
		check("#"+strconv.FormatInt(n, 10), n)
		check("#x"+strconv.FormatInt(n, 16), n)
		check("#x"+strings.ToUpper(strconv.FormatInt(n, 16)), n)
	}
}

// P7.1: names of each byte, at each place.
func TestSignOfEachByte(t *testing.T) {
	for _, name := range []string{"amp", "lt", "gt", "quot", "apos", "#65", "#1114111", "#x41", "#x10FFFF"} {
		for i := range name {
			for x := range 256 {
				s := name[:i] + string([]byte{byte(x)}) + name[i+1:]
				c, is := entity.Sign(s)
				if is != single.MatchString(s) || !is && c != 0 || is && c != runeOf(s) {
					t.Errorf("Sign(%q): %x, %v", s, c, is)
				}
			}
		}
	}
}

// P7.1
func TestRead(t *testing.T) {
	for s, want := range map[string]string{
		"":                             "",
		"plain":                        "plain",
		"a &lt; b &#x41;&nbsp;":        "a < b A&nbsp;",
		"&amp;&lt;&gt;&quot;&apos;":    "&<>\"'",
		"&amp;lt;":                     "&lt;", // what was read is not read again
		"&#38;#38;":                    "&#38;",
		"&&&":                          "&&&",
		"&&lt;&":                       "&<&",
		"& lt;":                        "& lt;",
		"&lt":                          "&lt",
		"&lt;&gt":                      "<&gt",
		"&lt &gt;":                     "&lt >",
		"&a&amp;b;":                    "&a&b;",
		"&am&#112;;":                   "&amp;",
		"&;":                           "&;",
		"&;lt;":                        "&;lt;",
		"lt;":                          "lt;",
		"&LT;&Amp;":                    "&LT;&Amp;",
		"&#0000065;&#00000065;":        "A&#00000065;",
		"&#x00004A;&#x000004A;":        "J&#x000004A;",
		"&#65 ;&#x;&#;":                "&#65 ;&#x;&#;",
		"&#9;&#11;&#xd800;&#1114112;":  "\t\ufffd\ufffd\ufffd",
		"&a name that goes on; &gt;":   "&a name that goes on; >",
		"&\u00e4\u00e4\u00e4\u00e4;":   "&\u00e4\u00e4\u00e4\u00e4;",
		"\xff&lt;\xff\xe2\x82&gt;\xe2": "\xff<\xff\xe2\x82>\xe2", // as it stands, right or not
		"&\xff;&\xfflt;&lt\xff;":       "&\xff;&\xfflt;&lt\xff;",
		"\x00\x1f":                     "\x00\x1f",
		"&#x20AC;&#8364;\u20ac":        "\u20ac\u20ac\u20ac",
	} {
		if r := entity.Read(s); r != want {
			t.Errorf("Read(%q): %q", s, r)
		}
	}
}

// P7.1: held against the library's expressions.
func TestReadOfAllTexts(t *testing.T) {
	each(func(s string) {
		want := named.ReplaceAllStringFunc(s, func(found string) string { return string(runeOf(found[1 : len(found)-1])) })
		if r := entity.Read(s); r != want {
			t.Fatalf("Read(%q): %q", s, r)
		}
	})
}

// P7.2
func TestWrite(t *testing.T) {
	for s, want := range map[string]string{
		"":                 "",
		"plain":            "plain",
		"&<>\"'":           "&amp;&lt;&gt;&quot;&apos;",
		"a<b>&c":           "a&lt;b&gt;&amp;c",
		"&amp;":            "&amp;amp;",
		"&#65;":            "&amp;#65;",
		"\t\n\r\x00\x7f":   "\t\n\r\x00\x7f",
		"\u00a0\u20ac\xff": "\u00a0\u20ac\xff",
		"\xff<\xe2\x82&":   "\xff&lt;\xe2\x82&amp;",
		"''":               "&apos;&apos;",
		"`\u2018\u201c":    "`\u2018\u201c",
	} {
		if w := entity.Write(s); w != want {
			t.Errorf("Write(%q): %q", s, w)
		}
		if entity.Plain(s) != (want == s) {
			t.Errorf("Plain(%q): %v", s, want != s)
		}
	}
}

// P7.2: each byte, alone and among others.
func TestWriteOfEachByte(t *testing.T) {
	names := map[byte]string{'&': "&amp;", '<': "&lt;", '>': "&gt;", '"': "&quot;", '\'': "&apos;"}
	for x := range 256 {
		s := string([]byte{byte(x)})
		want, is := names[byte(x)]
		if !is {
			want = s
		}
		if w := entity.Write("a" + s + s + "b"); w != "a"+want+want+"b" {
			t.Errorf("Write with %x: %q", x, w)
		}
		if entity.Plain(s) == is || entity.Plain("ab"+s) == is || entity.Plain(s+"ab") == is {
			t.Errorf("Plain with %x: %v", x, is)
		}
	}
}

// P7.2, P7.3
func TestWriteOfAllTexts(t *testing.T) {
	names := strings.NewReplacer("&", "&amp;", "<", "&lt;", ">", "&gt;", "\"", "&quot;", "'", "&apos;")
	each(func(s string) {
		w := entity.Write(s)
		if w != names.Replace(s) {
			t.Fatalf("Write(%q): %q", s, w)
		}
		if r := entity.Read(w); r != s {
			t.Fatalf("Read(%q): %q", w, r)
		}
		if entity.Plain(s) != !strings.ContainsAny(s, "&<>\"'") {
			t.Fatalf("Plain(%q): %v", s, entity.Plain(s))
		}
	})
}

// R1: also texts of nothing but what might begin a name are gone through in a moment.
func TestLongTexts(t *testing.T) {
	began := time.Now()
	for _, part := range []string{"&", "&#", "&#x", "&amp", "&amp;", ";", "\xff", "<"} {
		s := strings.Repeat(part, 1<<20)
		if r := entity.Read(s); part != "&amp;" && r != s || part == "&amp;" && r != strings.Repeat("&", 1<<20) {
			t.Errorf("Read of many %q", part)
		}
		if w := entity.Write(s); entity.Read(w) != s {
			t.Errorf("Write of many %q", part)
		}
	}
	if _, is := entity.Sign(strings.Repeat("#", 1<<24)); is {
		t.Error("a long name")
	}
	if d := time.Since(began); d > 20*time.Second {
		t.Error(d)
	}
}
