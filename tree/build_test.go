package tree_test

import (
	"reflect"
	"slices"
	"strings"
	"testing"
	"time"

	"newsstand/api"
	"newsstand/tree"
	"newsstand/xml"
)

func parses(t *testing.T, s string, want api.Element) {
	t.Helper()
	if e, f := tree.Parse(s); f != api.OK || !alike(e, want) {
		t.Errorf("Parse(%.200q): %.200v, %d", s, e, f)
	}
}

func refusesText(t *testing.T, s string, want api.Errno) {
	t.Helper()
	if e, f := tree.Parse(s); f != want || !reflect.DeepEqual(e, api.Element{}) {
		t.Errorf("Parse(%.200q): %.200v, %d", s, e, f)
	}
}

// P9.1
func TestParse(t *testing.T) {
	parses(t, "<a>x<b/>y</a>", el("a", "xy", el("b", "")))
	parses(t, "<a/>", el("a", ""))
	parses(t, "<a></a>", el("a", ""))
	parses(t, "<a> </a>", el("a", " "))
	parses(t, "<a>&lt;b/&gt;<![CDATA[<c/>]]></a>", el("a", "<b/><c/>"))
	parses(t, " \t\r\n<a/>\n\n", el("a", ""))
	parses(t, "<?xml version='1.0'?>\n<!DOCTYPE a>\n<!-- x --><a>x<!-- y -->z</a><!-- x --> <?y?>", el("a", "xz"))
	parses(t, "<![CDATA[ ]]><a/>&#10;&#x20;", el("a", ""))
	parses(t, "<a b='1' c:d='&amp;'><e f=''>g</e>\n<e/></a>", with(el("a", "\n", with(el("e", "g"), "f", ""), el("e", "")), "b", "1", "c:d", "&"))
	parses(t, "<a:b>1<a>2<a:b>3</a:b>4<b/>5</a>6</a:b>", el("a:b", "16", el("a", "245", el("a:b", "3"), el("b", ""))))
	parses(t, "<a>1<b>2</b>3<c>4</c>5<b>6</b></a>", el("a", "135", el("b", "2"), el("c", "4"), el("b", "6")))
	parses(t, "<a>\xff\u00a0</a>", el("a", "\xff\u00a0"))
}

// P9.1
func TestParseOfNoElement(t *testing.T) {
	for _, s := range []string{
		"", " ", "x", "<!-- <a/> -->", "<?a?>", "<a>", "</a>", "<a></b>", "<a></A>", "<a:b></b>", "<a></a></a>", "</a><a>", "<a><a></a>", "<a><b></a></b>", "<a><b></a>", "<a></b></a>",
		"<a/><a/>", "<a/> <b/>", "<a></a><b>", "x<a/>", "<a/>x", " . <a/>", "<a/>&amp;", "<![CDATA[x]]><a/>", "<a/><![CDATA[x]]>",
		"\u00a0<a/>", "<a/>\u2028", "<a/>\u3000", "\x0b<a/>", "<a/>\x0c", "<a/>\x00", "<a/>\xff", "\ufeff<a/>", "<a/>&#160;",
	} {
		refusesText(t, s, api.ErrTree)
	}
}

// P9.1: what is no document of tokens is refused as such, whatever these would be.
func TestParseOfNoDocument(t *testing.T) {
	for _, s := range []string{"<", "<a>&<", "</a><", "<a b='1' b='2'/>", "<a/><b", "x<!", "<a/><a/><1>"} {
		refusesText(t, s, api.ErrXml)
	}
	refusesText(t, strings.Repeat("x", api.MaxDoc+1), api.ErrLong)
	refusesText(t, "<a>"+strings.Repeat(" ", api.MaxDoc-7+1)+"</a>", api.ErrLong)
	refusesText(t, "<a>"+strings.Repeat("<b/>", api.MaxTokens/2)+"</a>", api.ErrLong)
	refusesText(t, strings.Repeat("<a/>", api.MaxTokens/2)+"<", api.ErrXml)
	refusesText(t, strings.Repeat("</a>", api.MaxTokens+1), api.ErrLong)
	refusesText(t, strings.Repeat("<a/>", api.MaxTokens/2), api.ErrTree)
	parses(t, "<a>"+strings.Repeat("<b/>", api.MaxTokens/2-1)+"</a>", el("a", "", slices.Repeat([]api.Element{el("b", "")}, api.MaxTokens/2-1)...))
	parses(t, "<a>"+strings.Repeat(" ", api.MaxDoc-7)+"</a>", el("a", strings.Repeat(" ", api.MaxDoc-7)))
}

// P9.1: as deep as may be, and one deeper.
func TestDepth(t *testing.T) {
	for n := 1; n <= 32; n++ {
		parses(t, nest(n, ""), deep(n))
		parses(t, nest(n, "x<!-- -->y"), deep(n-1, el("a", "xy")))
	}
	for _, n := range []int{33, 34, 64, 1000, 4096} {
		refusesText(t, nest(n, ""), api.ErrTree)
	}
	parses(t, nest(31, "<b/><b>x</b><b/>"), deep(31, el("b", ""), el("b", "x"), el("b", "")))
	refusesText(t, nest(32, "<b/>"), api.ErrTree)
	refusesText(t, nest(31, "<b/><b><c/></b><b/>"), api.ErrTree)
	refusesText(t, nest(31, "<b><c>")+nest(3, ""), api.ErrTree)
	parses(t, nest(2, nest(30, "")+nest(30, "")), deep(2, deep(30), deep(30)))
	refusesText(t, nest(2, nest(30, "")+nest(31, "")), api.ErrTree)
}

// P9.1: tokens that no document has; of each nothing but its kind, and what that uses, is looked at.
func TestBuildOfOddTokens(t *testing.T) {
	builds(t, []api.Token{open(""), shut("")}, api.Element{})
	builds(t, []api.Token{open(" <1>"), open(""), shut(""), shut(" <1>")}, el(" <1>", "", el("", "")))
	builds(t, []api.Token{open(strings.Repeat("a", 99)), shut(strings.Repeat("a", 99))}, el(strings.Repeat("a", 99), ""))
	builds(t, []api.Token{open("a", "", "<", "", "&", "b b", "\xff"), shut("a")}, with(el("a", ""), "", "<", "", "&", "b b", "\xff"))
	builds(t, []api.Token{open("a", slices.Repeat([]string{"b", "c"}, 99)...), shut("a")}, with(el("a", ""), slices.Repeat([]string{"b", "c"}, 99)...))
	builds(t, []api.Token{word(""), word(" "), word("\n\t\r"), open("a"), word("x"), word(""), word("y"), shut("a"), word(""), word(" ")}, el("a", "xy"))
	builds(t, []api.Token{{Kind: 1, Name: "a", Text: "x", Attrs: []api.Attr{}}, {Kind: 3, Name: "b", Text: "y", Attrs: attrs("c", "d")}, {Kind: 2, Name: "a", Text: "z", Attrs: attrs("e", "f")}, {Kind: 3, Name: "x", Attrs: attrs("g", "h")}}, el("a", "y"))
	refuses(t)
	refuses(t, word(""))
	refuses(t, shut(""))
	refuses(t, open(""))
	refuses(t, word(" "), shut(""))
	refuses(t, shut(""), open(""))
	refuses(t, open(""), shut(""), shut(""))
	refuses(t, open("a"), shut(""))
	refuses(t, open(""), shut("a"))
	for _, kind := range []int{0, 4, -1, 1 << 40, 1<<32 + 1} {
		bad := api.Token{Kind: kind, Name: "a"}
		refuses(t, bad)
		refuses(t, bad, open("a"), shut("a"))
		refuses(t, open("a"), shut("a"), bad)
		refuses(t, open("a"), bad, shut("a"))
		refuses(t, open("a"), bad)
		refuses(t, bad, shut("a"))
		refuses(t, open("a"), shut("a"), api.Token{Kind: kind})
	}
}

// P9.1: all short lists of tokens, held against the chapter's rule.
func TestBuildOfAllLists(t *testing.T) {
	kinds := []api.Token{open("a"), open("b", "c", "1"), shut("a"), shut("b"), word("x"), word(" \n"), word(""), {Kind: 4}}
	var check func(l []api.Token, more int)
	check = func(l []api.Token, more int) {
		want, f := document(l)
		if e, g := tree.Build(l); f != g || !alike(e, want) {
			t.Fatalf("Build(%v): %v, %d, not %v, %d", l, e, g, want, f)
		}
		for _, k := range kinds {
			if more > 0 {
				check(append(slices.Clip(l), k), more-1)
			}
		}
	}
	check(nil, 6)
	inner := func(n int) []api.Token {
		return slices.Concat(slices.Repeat([]api.Token{open("a")}, n), slices.Repeat([]api.Token{shut("a")}, n))
	}
	for n := range 40 {
		for _, ahead := range [][]api.Token{nil, {open("b")}, {open("b"), open("b"), shut("b")}} {
			l := slices.Concat(ahead, inner(n), inner(40-n), []api.Token{shut("b")})
			if want, f := document(l); f == api.OK {
				builds(t, l, want)
			} else {
				refuses(t, l...)
			}
		}
	}
}

// P9.1: Parse is Build of the tokens.
func TestParseOfPieces(t *testing.T) {
	pieces := []string{"<a>", "</a>", "<b c='1'>", "</b>", "<a/>", "x", " ", "<!-- -->", "<", "&lt;", "<![CDATA[ ]]>"}
	var check func(s string, more int)
	check = func(s string, more int) {
		l, _, f := xml.Tokens(s)
		var want api.Element
		if f == api.OK {
			want, f = document(l)
		}
		if e, g := tree.Parse(s); f != g || !alike(e, want) {
			t.Fatalf("Parse(%q): %v, %d, not %v, %d", s, e, g, want, f)
		}
		for _, p := range pieces {
			if more > 0 {
				check(s+p, more-1)
			}
		}
	}
	check("", 5)
}

// R3: what is handed in is not changed, nor the room behind it, and what was answered is not changed by it later on.
func TestBuildKeepsNothing(t *testing.T) {
	room := []api.Token{open("a", "b", "1"), word("x"), open("c", "d", "2"), shut("c"), shut("a"), word("room")}
	before := slices.Clone(room)
	l := room[:5]
	want := with(el("a", "x", with(el("c", ""), "d", "2")), "b", "1")
	one, _ := tree.Build(l)
	other, _ := tree.Build(l)
	if !alikeTokens(room, before) {
		t.Error("changed:", room)
	}
	one.Attrs[0].Value = "9"
	one.Kids[0].Attrs[0].Value = "9"
	one.Kids[0].Name = "z"
	_ = append(one.Kids, el("y", ""))
	if !alike(other, want) {
		t.Error("shared:", other)
	}
	if l[0].Attrs[0].Value != "1" || l[2].Attrs[0].Value != "2" {
		t.Error("shared:", l)
	}
}

// R3: no list of an answer lies in the room behind another one.
func TestBuiltListsLieApart(t *testing.T) {
	s := "<a><b><c/><c/><c/></b><b><c><d/></c><c/></b><e f='1'/><e g='1' h='2'/><b/></a>"
	e, _ := tree.Parse(s)
	var grow func(x api.Element)
	grow = func(x api.Element) {
		_ = append(x.Kids, el("wrong", "wrong"))
		_ = append(x.Attrs, api.Attr{Name: "wrong"})
		for _, kid := range x.Kids {
			grow(kid)
		}
	}
	grow(e)
	parses(t, s, e)
}

// R1: long lists are gone through in a moment.
func TestBuildOfLongLists(t *testing.T) {
	began := time.Now()
	const n = 1 << 18
	around := func(l []api.Token, times int) []api.Token {
		return slices.Concat(slices.Repeat([]api.Token{open("a")}, times), l, slices.Repeat([]api.Token{shut("a")}, times))
	}
	if e, f := tree.Build(around(slices.Repeat([]api.Token{word("x")}, n), 1)); f != api.OK || e.Text != strings.Repeat("x", n) {
		t.Error(f)
	}
	if e, f := tree.Build(around(slices.Repeat([]api.Token{word("x"), open("b"), shut("b")}, n/4), 31)); f != api.OK || tree.Size(e) != 31+n/4 || len(tree.All(e)) != n/4 {
		t.Error(f)
	}
	blanks := slices.Repeat([]api.Token{word(" ")}, n)
	if e, f := tree.Build(slices.Concat(blanks, around(nil, 1), blanks)); f != api.OK || !alike(e, el("a", "")) {
		t.Error(f)
	}
	refuses(t, slices.Repeat([]api.Token{open("a")}, n)...)
	refuses(t, slices.Repeat([]api.Token{open("a"), shut("a")}, n)...)
	refuses(t, slices.Repeat([]api.Token{word("x")}, n)...)
	if d := time.Since(began); d > 20*time.Second {
		t.Error(d)
	}
}
