package tree

import (
	"slices"
	"strings"

	"newsstand/api"
)

// Tokens answers the tokens of e.
func Tokens(e api.Element) []api.Token {
	var l []api.Token
	opens := func(x api.Element) {
		l = append(l, api.Token{Kind: api.TokenOpen, Name: x.Name, Attrs: slices.Clone(x.Attrs)})
		if x.Text != "" {
			l = append(l, api.Token{Kind: api.TokenText, Text: x.Text})
		}
	}
	closes := func(x api.Element) {
		l = append(l, api.Token{Kind: api.TokenClose, Name: x.Name})
	}
	walk(e, 1, opens, closes)
	return l
}

// All answers the texts of e and of all elements within it, one behind the other.
func All(e api.Element) string {
	var b strings.Builder
	each(e, func(x api.Element) { b.WriteString(x.Text) })
	return b.String()
}

// Size answers how many elements e is, with all within it.
func Size(e api.Element) int {
	n := 0
	each(e, func(api.Element) { n++ })
	return n
}

// each hands on e and all elements within it.
func each(e api.Element, see func(x api.Element)) {
	walk(e, 1, see, func(api.Element) {})
}

// walk hands on e, which is so deep within others, ahead of the elements within it, and once more behind them; what is too deep is passed over, as elements that were not built may be of any depth.
func walk(e api.Element, depth int, opens, closes func(x api.Element)) {
	if depth > api.MaxDepth {
		return
	}
	opens(e)
	for _, kid := range e.Kids {
		walk(kid, depth+1, opens, closes)
	}
	closes(e)
}
