package tree_test

import (
	"reflect"
	"strings"
	"testing"

	"newsstand/api"
	"newsstand/tree"
)

func open(name string, l ...string) api.Token {
	return api.Token{Kind: api.TokenOpen, Name: name, Attrs: attrs(l...)}
}

func shut(name string) api.Token {
	return api.Token{Kind: api.TokenClose, Name: name}
}

func word(s string) api.Token {
	return api.Token{Kind: api.TokenText, Text: s}
}

// attrs answers attributes: names and values by turns.
func attrs(l ...string) []api.Attr {
	var as []api.Attr
	for i := 0; i < len(l); i += 2 {
		as = append(as, api.Attr{Name: l[i], Value: l[i+1]})
	}
	return as
}

// el answers an element without attributes.
func el(name, text string, kids ...api.Element) api.Element {
	return api.Element{Name: name, Text: text, Kids: kids}
}

// with answers e with attributes.
func with(e api.Element, l ...string) api.Element {
	e.Attrs = attrs(l...)
	return e
}

// plain answers e with nil for each empty list, so that the library holds it for the same.
func plain(e api.Element) api.Element {
	var kids []api.Element
	for _, kid := range e.Kids {
		kids = append(kids, plain(kid))
	}
	return api.Element{Name: e.Name, Attrs: append([]api.Attr(nil), e.Attrs...), Text: e.Text, Kids: kids}
}

// alike holds elements against each other by the library.
func alike(a, b api.Element) bool {
	return reflect.DeepEqual(plain(a), plain(b))
}

// alikes is alike of lists.
func alikes(a, b []api.Element) bool {
	return alike(el("", "", a...), el("", "", b...))
}

// alikeTokens holds tokens against each other by the library.
func alikeTokens(a, b []api.Token) bool {
	bare := func(l []api.Token) []api.Token {
		var m []api.Token
		for _, t := range l {
			t.Attrs = append([]api.Attr(nil), t.Attrs...)
			m = append(m, t)
		}
		return m
	}
	return reflect.DeepEqual(bare(a), bare(b))
}

// deep answers n elements, each within the one ahead of it, and last within them.
func deep(n int, last ...api.Element) api.Element {
	l := last
	for range n {
		l = []api.Element{el("a", "", l...)}
	}
	return l[0]
}

// nest answers the text of n elements, each within the one ahead of it, around inner.
func nest(n int, inner string) string {
	return strings.Repeat("<a>", n) + inner + strings.Repeat("</a>", n)
}

// element is the rule of the chapter, as it stands: a tag that opens, then texts and elements, and a tag that closes; it answers how many tokens that are, 0 if the list begins with no element.
func element(l []api.Token, depth int) (api.Element, int) {
	if len(l) == 0 || l[0].Kind != 1 || depth > 32 {
		return api.Element{}, 0
	}
	e := api.Element{Name: l[0].Name, Attrs: l[0].Attrs}
	for n := 1; n < len(l); n++ {
		switch l[n].Kind {
		case 3:
			e.Text += l[n].Text
		case 2:
			if l[n].Name == e.Name {
				return e, n + 1
			}
			return api.Element{}, 0
		default:
			kid, size := element(l[n:], depth+1)
			if size == 0 {
				return api.Element{}, 0
			}
			e.Kids = append(e.Kids, kid)
			n += size - 1
		}
	}
	return api.Element{}, 0
}

// document is the rule for a document's element: what is ahead of it, and behind, are texts of blanks.
func document(l []api.Token) (api.Element, api.Errno) {
	blank := func(t api.Token) bool {
		return t.Kind == 3 && strings.Count(t.Text, " ")+strings.Count(t.Text, "\t")+strings.Count(t.Text, "\n")+strings.Count(t.Text, "\r") == len(t.Text)
	}
	for len(l) > 0 && blank(l[0]) {
		l = l[1:]
	}
	e, n := element(l, 1)
	for n < len(l) && blank(l[n]) {
		n++
	}
	if n == 0 || n < len(l) {
		return api.Element{}, api.ErrTree
	}
	return e, api.OK
}

// builds tells a test that l is no element, or not the one that it should be.
func builds(t *testing.T, l []api.Token, want api.Element) {
	t.Helper()
	if e, f := tree.Build(l); f != api.OK || !alike(e, want) {
		t.Errorf("Build(%.200v): %.200v, %d", l, e, f)
	}
}

// refuses tells a test that l is an element.
func refuses(t *testing.T, l ...api.Token) {
	t.Helper()
	if e, f := tree.Build(l); f != api.ErrTree || !reflect.DeepEqual(e, api.Element{}) {
		t.Errorf("Build(%.200v): %.200v, %d", l, e, f)
	}
}
