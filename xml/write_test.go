package xml_test

import (
	"slices"
	"strings"
	"testing"

	"newsstand/api"
	"newsstand/xml"
)

// P8.2
func TestWrite(t *testing.T) {
	for _, c := range []struct {
		want string
		l    []api.Token
	}{
		{"", nil},
		{"", []api.Token{}},
		{"x", []api.Token{word("x")}},
		{" \n", []api.Token{word(" \n")}},
		{"a &lt;b&gt; &amp;amp; &quot;&apos;]]&gt;\xff", []api.Token{word("a <b> &amp; \"']]>\xff")}},
		{"<a></a>", []api.Token{open("a"), shut("a")}},
		{"</b><a:a.-_9>", []api.Token{shut("b"), open("a:a.-_9")}},
		{"<a b=\"1\" c=\"\">x</a>y", []api.Token{open("a", "b", "1", "c", ""), word("x"), shut("a"), word("y")}},
		{"<a b=\"&lt;&amp;&gt;\" B=\"&quot;&apos;\n\xff\">", []api.Token{open("a", "b", "<&>", "B", "\"'\n\xff")}},
		{"x<a>y</a>z", []api.Token{word("x"), open("a"), word("y"), shut("a"), word("z")}},
		{"<a>", []api.Token{{Kind: api.TokenOpen, Name: "a", Attrs: []api.Attr{}}}},
		{"</a>", []api.Token{{Kind: api.TokenClose, Name: "a", Attrs: []api.Attr{}}}},
		{"x", []api.Token{{Kind: api.TokenText, Text: "x", Attrs: []api.Attr{}}}},
	} {
		if s, e := xml.Write(c.l); s != c.want || e != api.OK {
			t.Errorf("Write(%v): %q, %d", c.l, s, e)
		}
	}
}

// wrong are tokens that may not be written.
var wrong = []api.Token{
	{}, {Kind: 4, Name: "a"}, {Kind: -1, Name: "a"}, {Kind: 0, Text: "x"}, {Kind: 1 << 40, Text: "x"}, {Name: "a"}, {Text: "x"},
	open(""), open("1"), open(":a"), open("a b"), open("a>"), open(strings.Repeat("a", 65)), open("\xff"),
	shut(""), shut("1"), shut(":a"), shut("a b"), shut("a>"), shut(strings.Repeat("a", 65)), shut("/a"),
	open("a", "", ""), open("a", "1", ""), open("a", "b c", "1"), open("a", "b=", "1"), open("a", strings.Repeat("b", 65), ""), open("a", "b", "", "", ""),
	open("a", "b", "", "b", ""), open("a", "b", "1", "b", "1"), open("a", "b", "1", "c", "1", "b", "2"),
	{Kind: api.TokenOpen, Name: "a", Text: "x"},
	{Kind: api.TokenClose, Name: "a", Text: "x"},
	{Kind: api.TokenClose, Name: "a", Attrs: []api.Attr{{Name: "b", Value: "1"}}},
	{Kind: api.TokenClose, Name: "a", Attrs: []api.Attr{{}}},
	word(""),
	{Kind: api.TokenText, Name: "a"},
	{Kind: api.TokenText, Name: "a", Text: "x"},
	{Kind: api.TokenText, Text: "x", Attrs: []api.Attr{{Name: "b", Value: "1"}}},
	{Kind: api.TokenText, Text: "x", Attrs: []api.Attr{{}}},
}

func refusesWrite(t *testing.T, l ...api.Token) {
	t.Helper()
	if s, e := xml.Write(l); s != "" || e != api.ErrArg {
		t.Errorf("Write(%v): %q, %d", l, s, e)
	}
}

// P8.2: what is wrong, alone, and among others.
func TestWriteOfWrongTokens(t *testing.T) {
	for _, bad := range wrong {
		refusesWrite(t, bad)
		refusesWrite(t, open("a"), bad)
		refusesWrite(t, bad, shut("a"))
		refusesWrite(t, open("a"), word("x"), shut("a"), bad, open("b"))
	}
	refusesWrite(t, word("x"), word("y"))
	refusesWrite(t, open("a"), word("x"), word("x"), shut("a"))
	refusesWrite(t, open("a"), word("x"), shut("a"), word("y"), word("z"))
	if s, e := xml.Write([]api.Token{word("x"), shut("a"), word("y"), open("a"), word("z")}); s != "x</a>y<a>z" || e != api.OK {
		t.Error(s, e)
	}
}

// P8.2: a document that is written may be longer than one that is read.
func TestWriteLong(t *testing.T) {
	s := strings.Repeat("<", api.MaxDoc)
	if w, e := xml.Write([]api.Token{word(s)}); w != strings.Repeat("&lt;", api.MaxDoc) || e != api.OK {
		t.Error(len(w), e)
	}
	if w, e := xml.Write(slices.Repeat([]api.Token{shut("a")}, 3*api.MaxTokens)); w != strings.Repeat("</a>", 3*api.MaxTokens) || e != api.OK {
		t.Error(len(w), e)
	}
}

// some are tokens of which lists are made that may be written, or may not.
func some() []api.Token {
	return []api.Token{
		open("a"), open("b", "c", "&lt;\"'<>"), open("b", "c", "", "d", "\xff", "C:c", " "), shut("a"), shut("b:b"), word("x"), word("]]> <!-- &amp; -->"), word(" \r\n"), word("<![CDATA[\"'\x00"), word("\u00e4\xe2\x82"),
	}
}

// P8.3
func TestWrittenIsRead(t *testing.T) {
	check := func(l ...api.Token) {
		s, e := xml.Write(l)
		for i := 1; i < len(l); i++ {
			if l[i-1].Kind == api.TokenText && l[i].Kind == api.TokenText {
				if s != "" || e != api.ErrArg {
					t.Fatalf("Write(%v): %q, %d", l, s, e)
				}
				return
			}
		}
		m, n, f := xml.Tokens(s)
		if e != api.OK || f != api.OK || n != len(s) || !same(l, m) {
			t.Fatalf("Write(%v): %q, %d; Tokens: %v, %d, %d", l, s, e, m, n, f)
		}
	}
	check()
	for _, a := range some() {
		check(a)
		for _, b := range some() {
			check(a, b)
			for _, c := range some() {
				check(a, b, c)
				for _, d := range some() {
					check(a, b, c, d)
				}
			}
		}
	}
	check(slices.Repeat([]api.Token{open("a"), word("&")}, api.MaxTokens/2)...)
}

// P8.3: what is read of any text is written, and read again.
func TestReadIsWritten(t *testing.T) {
	each(func(s string) {
		l, _, e := xml.Tokens(s)
		if e != api.OK {
			return
		}
		w, e := xml.Write(l)
		m, n, f := xml.Tokens(w)
		if e != api.OK || f != api.OK || n != len(w) || !same(l, m) {
			t.Fatalf("%q: %v; Write: %q, %d; Tokens: %v, %d, %d", s, l, w, e, m, n, f)
		}
	})
}

// P8.2
func TestSame(t *testing.T) {
	lists := [][]api.Token{nil, {open("a"), open("a")}, {open("a"), shut("a")}, {shut("a"), open("a")}, {open("a"), shut("a"), word("x")}}
	for _, x := range append(some(), wrong...) {
		lists = append(lists, []api.Token{x})
	}
	for _, x := range []api.Token{open("b", "c", "1"), open("b", "c", "2"), open("b", "d", "1"), open("b", "c", "1", "d", "2"), open("b", "d", "2", "c", "1")} {
		lists = append(lists, []api.Token{x})
	}
	for _, a := range lists {
		for _, b := range lists {
			if xml.Same(a, b) != same(a, b) {
				t.Errorf("Same(%v, %v): %v", a, b, xml.Same(a, b))
			}
		}
		if !xml.Same(a, append(slices.Clone(a), make([]api.Token, 3)...)[:len(a)]) {
			t.Errorf("Same(%v, ..): false", a)
		}
	}
	none := []api.Token{{Kind: api.TokenOpen, Name: "a", Attrs: []api.Attr{}}}
	if !xml.Same(nil, []api.Token{}) || !xml.Same(none, []api.Token{open("a")}) || !xml.Same([]api.Token{open("a")}, none) {
		t.Error("nil and empty lists")
	}
}

// P8.2, R3: what is handed in is not changed, nor the room behind it; what was answered is new each time.
func TestNothingIsChanged(t *testing.T) {
	room := append(some()[:5], word("behind"))
	for i := range room {
		room[i].Attrs = append(slices.Clone(room[i].Attrs), api.Attr{Name: "behind"})[:len(room[i].Attrs)]
	}
	l := room[:5]
	if s, e := xml.Write(l); e != api.OK || s == "" {
		t.Error(s, e)
	}
	xml.Same(l, l)
	for i, x := range append(some()[:5], word("behind")) {
		if !same([]api.Token{room[i]}, []api.Token{x}) {
			t.Errorf("%d is changed: %v", i, room[i])
		}
		if more := room[i].Attrs[:len(x.Attrs)+1]; more[len(x.Attrs)] != (api.Attr{Name: "behind"}) {
			t.Errorf("%d is changed: %v", i, more)
		}
	}

	const s = "<a b='1' c='2' d='3'/><a b='4' c='5'>x</a>"
	first, _, _ := xml.Tokens(s)
	want, _, _ := xml.Tokens(s)
	for i := range want {
		other, _, _ := xml.Tokens(s)
		other[i].Name = "z"
		other[i].Attrs = append(other[i].Attrs, api.Attr{Name: "z"})
		for k := range other[i].Attrs {
			other[i].Attrs[k].Value = "z"
		}
		for k := range other {
			if k != i && !same(other[k:k+1], want[k:k+1]) {
				t.Errorf("%d was changed with %d: %v", k, i, other[k])
			}
		}
	}
	if !same(first, want) {
		t.Error(first)
	}
}
