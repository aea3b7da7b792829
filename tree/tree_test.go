package tree_test

import (
	"math/rand"
	"reflect"
	"slices"
	"strings"
	"testing"

	"newsstand/api"
	"newsstand/tree"
	"newsstand/xml"
)

// tokens is the rule of the chapter, as it stands.
func tokens(e api.Element, depth int) []api.Token {
	if depth > 32 {
		return nil
	}
	l := []api.Token{{Kind: 1, Name: e.Name, Attrs: e.Attrs}}
	if e.Text != "" {
		l = append(l, api.Token{Kind: 3, Text: e.Text})
	}
	for _, kid := range e.Kids {
		l = append(l, tokens(kid, depth+1)...)
	}
	return append(l, api.Token{Kind: 2, Name: e.Name})
}

// random answers an element with at most so many levels.
func random(r *rand.Rand, levels int) api.Element {
	names := []string{"a", "b", "c:a", "c:b", "a:c:b", "b:", ":a", "", "A"}
	texts := []string{"", "", "x", "y ", " ", "&<>", "\xff", "\u00e4"}
	e := el(names[r.Intn(len(names))], texts[r.Intn(len(texts))])
	for range r.Intn(3) {
		e.Attrs = append(e.Attrs, api.Attr{Name: names[r.Intn(len(names))], Value: texts[r.Intn(len(texts))]})
	}
	if levels > 1 {
		for range r.Intn(4) {
			e.Kids = append(e.Kids, random(r, levels-1))
		}
	}
	return e
}

// P9.2
func TestTokens(t *testing.T) {
	for _, c := range []struct {
		e    api.Element
		want []api.Token
	}{
		{api.Element{}, []api.Token{open(""), shut("")}},
		{el("a", ""), []api.Token{open("a"), shut("a")}},
		{el("a", " "), []api.Token{open("a"), word(" "), shut("a")}},
		{el("a", "xy", el("b", "")), []api.Token{open("a"), word("xy"), open("b"), shut("b"), shut("a")}},
		{with(el("a", "x", with(el("b", "y"), "c", "2", "c", "3"), el("1", "", el("b", ""))), "b", "1"), []api.Token{open("a", "b", "1"), word("x"), open("b", "c", "2", "c", "3"), word("y"), shut("b"), open("1"), open("b"), shut("b"), shut("1"), shut("a")}},
		{api.Element{Name: "a", Attrs: []api.Attr{}, Kids: []api.Element{}}, []api.Token{open("a"), shut("a")}},
	} {
		if l := tree.Tokens(c.e); !alikeTokens(l, c.want) {
			t.Errorf("Tokens(%v): %v", c.e, l)
		}
	}
}

// P9.2, R3: what is answered may be changed, and the element stays as it was.
func TestTokensKeepNothing(t *testing.T) {
	same := attrs("b", "1")
	e := el("a", "x", api.Element{Name: "b", Attrs: same}, api.Element{Name: "c", Attrs: same})
	e.Attrs = same
	l := tree.Tokens(e)
	l[0].Attrs[0].Value = "9"
	l[2].Attrs[0].Name = "z"
	if want := tokens(e, 1); !alikeTokens(tree.Tokens(e), want) || same[0] != (api.Attr{Name: "b", Value: "1"}) || l[4].Attrs[0] != same[0] {
		t.Error(e, l)
	}
}

// P9.2
func TestShort(t *testing.T) {
	for name, want := range map[string]string{
		"": "", "a": "a", "a:b": "b", "a:b:c": "c", "a:": "", ":": "", ":a": "a", "::": "", "a::b": "b", "a:B": "B", "a b": "a b", "a;b": "a;b", "a\uff1ab": "a\uff1ab", "\xff:\xff": "\xff", "dc:date": "date", "a: b": " b",
	} {
		if s := tree.Short(name); s != want {
			t.Errorf("Short(%q): %q", name, s)
		}
	}
}

// P9.2
func TestKids(t *testing.T) {
	e := el("b", "x", el("b", "1"), el("x:b", "2", el("b", "within")), el("c", "", el("b", "within")), el("x:y:b", "3"), el("b:", "none"), el("b:c", ""), el("B", ""), el("", "none"), el("b", "4"), el("bb", ""))
	for short, want := range map[string][]api.Element{
		"b":   {e.Kids[0], e.Kids[1], e.Kids[3], e.Kids[8]},
		"c":   {e.Kids[2], e.Kids[5]},
		"":    {e.Kids[4], e.Kids[7]},
		"B":   {e.Kids[6]},
		"bb":  {e.Kids[9]},
		"x:b": nil, "y:b": nil, ":b": nil, "b:": nil, "b:c": nil, "x": nil, "d": nil, " b": nil,
	} {
		if l := tree.Kids(e, short); !alikes(l, want) {
			t.Errorf("Kids(.., %q): %v", short, l)
		}
		kid, is := tree.Kid(e, short)
		if is != (len(want) > 0) || is && !alike(kid, want[0]) || !is && !reflect.DeepEqual(kid, api.Element{}) {
			t.Errorf("Kid(.., %q): %v, %v", short, kid, is)
		}
	}
	if l := tree.Kids(el("b", "x"), "b"); len(l) != 0 {
		t.Error(l)
	}
	if kid, is := tree.Kid(el("b", "x"), "b"); is || !reflect.DeepEqual(kid, api.Element{}) {
		t.Error(kid, is)
	}
}

// P9.2, R3: the list of kids is a new one, and so is the room behind it.
func TestKidsAreListedAnew(t *testing.T) {
	e := el("a", "", el("b", "1"), el("b", "2"), el("c", "3"))
	l := tree.Kids(e, "b")
	_ = append(l, el("wrong", ""))
	l[0] = el("wrong", "")
	if !alike(e, el("a", "", el("b", "1"), el("b", "2"), el("c", "3"))) || !alikes(tree.Kids(e, "b"), e.Kids[:2]) {
		t.Error(e)
	}
}

// P9.2
func TestAttr(t *testing.T) {
	e := with(el("a", "x", with(el("b", ""), "y", "within")), "b", "1", "x:c", "2", "b", "3", "d", "", "d", "4", "", "5")
	for name, want := range map[string]string{"b": "1", "x:c": "2", "d": "", "": "5"} {
		if v, is := tree.Attr(e, name); !is || v != want {
			t.Errorf("Attr(.., %q): %q, %v", name, v, is)
		}
	}
	for _, name := range []string{"c", "x", "x:b", "B", "y", "a", "1", " b", "x:"} {
		if v, is := tree.Attr(e, name); is || v != "" {
			t.Errorf("Attr(.., %q): %q, %v", name, v, is)
		}
	}
	if v, is := tree.Attr(api.Element{}, ""); is || v != "" {
		t.Error(v, is)
	}
}

// P9.2
func TestAllAndSize(t *testing.T) {
	for _, c := range []struct {
		e    api.Element
		all  string
		size int
	}{
		{api.Element{}, "", 1},
		{el("a", "x"), "x", 1},
		{el("a", "1", el("b", "2", el("c", "3"), el("c", "4")), el("b", ""), el("b", "5", el("c", " "))), "12345 ", 7},
		{el("a", "\xe2", el("b", "\x82"), el("b", "\xac")), "\u20ac", 3},
		{with(el("a", ""), "b", "c"), "", 1},
		{el("a", "", slices.Repeat([]api.Element{el("b", "xy")}, 5000)...), strings.Repeat("xy", 5000), 5001},
	} {
		if s, n := tree.All(c.e), tree.Size(c.e); s != c.all || n != c.size {
			t.Errorf("All, Size(%.200v): %.200q, %d", c.e, s, n)
		}
	}
}

// P9.2: beyond the greatest depth nothing is looked at.
func TestTooDeep(t *testing.T) {
	for n := 1; n <= 40; n++ {
		e := deep(n-1, el("b", "x"))
		kept := min(n, 32)
		all := ""
		if n <= 32 {
			all = "x"
		}
		if tree.Size(e) != kept || tree.All(e) != all || !alikeTokens(tree.Tokens(e), tokens(e, 1)) || len(tree.Tokens(e)) != 2*kept+len(all) {
			t.Error(n, tree.Size(e), tree.All(e), tree.Tokens(e))
		}
		if tree.Same(e, e) != (n <= 32) || tree.Same(e, deep(n-1, el("b", "x"))) != (n <= 32) {
			t.Error(n, tree.Same(e, e))
		}
		wide := el("a", "1", el("b", "2"), e, el("b", "3"))
		kept = min(n, 31)
		if n > 31 {
			all = ""
		}
		if tree.Size(wide) != 3+kept || tree.All(wide) != "12"+all+"3" || len(tree.Tokens(wide)) != 9+2*kept+len(all) || tree.Same(wide, wide) != (n <= 31) {
			t.Error(n, tree.Size(wide), tree.All(wide))
		}
	}
	around := el("a", "x")
	around.Attrs = attrs("b", "1")
	around.Kids = make([]api.Element, 1)
	around.Kids[0] = around // without an end
	if tree.Size(around) != 32 || tree.All(around) != strings.Repeat("x", 32) || len(tree.Tokens(around)) != 96 || tree.Same(around, around) {
		t.Error("without an end")
	}
	if kid, is := tree.Kid(around, "a"); !is || kid.Text != "x" || len(tree.Kids(around, "a")) != 1 {
		t.Error("kids without an end")
	}
}

// P9.2
func TestSame(t *testing.T) {
	l := []api.Element{
		{}, el("a", ""), el("b", ""), el("x:a", ""), el("", "a"), el("a", "x"), el("a", "y"), el("a", "x "),
		with(el("a", ""), "b", ""), with(el("a", ""), "b", "1"), with(el("a", ""), "c", "1"), with(el("a", ""), "b", "1", "c", "2"), with(el("a", ""), "c", "2", "b", "1"), with(el("a", ""), "b", "1", "b", "1"),
		el("a", "", el("a", "")), el("a", "", el("b", "")), el("a", "", el("b", ""), el("b", "")), el("a", "", el("b", ""), el("c", "")), el("a", "", el("c", ""), el("b", "")), el("a", "x", el("b", "")), el("a", "", el("b", "x")),
		el("a", "", with(el("b", ""), "b", "1")), with(el("a", "", el("b", "")), "b", "1"), el("a", "", el("b", "", el("b", ""))), el("a", "", el("b", "", el("b", "x"))), deep(32), deep(31), deep(31, el("b", "")), deep(31, el("a", "x")),
		el("a", "x\xff"), el("a", "x\xfe"), el("a", "x\ufffd"),
	}
	for i, a := range l {
		for k, b := range l {
			if tree.Same(a, b) != (i == k) || tree.Same(plain(a), b) != (i == k) {
				t.Errorf("Same(%v, %v): %v", a, b, i != k)
			}
		}
	}
	none := api.Element{Name: "a", Attrs: []api.Attr{}, Kids: []api.Element{}}
	if !tree.Same(none, el("a", "")) || !tree.Same(el("a", ""), none) {
		t.Error("nil and empty lists")
	}
}

// P9.2, P9.3: many elements, held against the rules; their tokens are built to them.
func TestTokensAreBuilt(t *testing.T) {
	r := rand.New(rand.NewSource(9))
	for range 3000 {
		e := random(r, 1+r.Intn(6))
		l := tree.Tokens(e)
		if !alikeTokens(l, tokens(e, 1)) {
			t.Fatalf("Tokens(%v): %v", e, l)
		}
		if b, f := tree.Build(l); f != api.OK || !alike(b, e) || !tree.Same(b, e) {
			t.Fatalf("Build(Tokens(%v)): %v, %d", e, b, f)
		}
		all, size := "", 0
		for _, x := range l {
			all += x.Text
			if x.Kind == api.TokenOpen {
				size++
			}
		}
		if tree.All(e) != all || tree.Size(e) != size {
			t.Fatalf("All, Size(%v): %q, %d", e, tree.All(e), tree.Size(e))
		}
		other := random(r, 2)
		if tree.Same(e, other) != alike(e, other) {
			t.Fatalf("Same(%v, %v): %v", e, other, tree.Same(e, other))
		}
	}
	for n := 1; n <= 32; n++ {
		e := deep(n-1, with(el("b", "x"), "c", "1"))
		if b, f := tree.Build(tree.Tokens(e)); f != api.OK || !tree.Same(b, e) {
			t.Error(n, f)
		}
	}
}

// P9.3: a document that was parsed, written, and parsed again.
func TestParsedIsWritten(t *testing.T) {
	for _, s := range []string{"<a/>", "<a>x<b c='&lt;'/>y<b>&amp;<c/>\xff</b>\n</a>", nest(32, " x "), " <x:a b=\"'\" c='\"'>]]&gt;</x:a> "} {
		e, f := tree.Parse(s)
		w, g := xml.Write(tree.Tokens(e))
		if f != api.OK || g != api.OK {
			t.Error(s, f, g)
		}
		parses(t, w, e)
	}
}
