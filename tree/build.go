package tree

import (
	"slices"
	"strings"

	"newsstand/api"
)

// opened is an element whose tag that closes has not come yet.
type opened struct {
	name  string
	attrs []api.Attr
	text  strings.Builder
	kids  []api.Element
}

// builder puts tokens together.
type builder struct {
	open []*opened // each one within the one ahead of it; the first one is the document, which has no tags
}

// Build answers the document's element of the tokens l.
func Build(l []api.Token) (api.Element, api.Errno) {
	b := builder{open: []*opened{{}}}
	for _, t := range l {
		if !b.add(t) {
			return api.Element{}, api.ErrTree
		}
	}
	document := b.open[0]
	if len(b.open) > 1 || len(document.kids) != 1 || !isBlank(document.text.String()) {
		return api.Element{}, api.ErrTree
	}
	return document.kids[0], api.OK
}

// add puts t behind what there is, and tells whether it may stand there.
func (b *builder) add(t api.Token) bool {
	switch t.Kind {
	case api.TokenOpen:
		b.open = append(b.open, &opened{name: t.Name, attrs: slices.Clone(t.Attrs)})
		return len(b.open)-1 <= api.MaxDepth
	case api.TokenClose:
		return b.close(t.Name)
	case api.TokenText:
		b.open[len(b.open)-1].text.WriteString(t.Text)
		return true
	}
	return false
}

// close puts the last element that is open into the one that it is within, and tells whether there is one of that name.
func (b *builder) close(name string) bool {
	n := len(b.open) - 1
	last := b.open[n]
	if n == 0 || last.name != name {
		return false
	}
	b.open = b.open[:n:n] // with an end of its own, so that what opens next is not laid into the place of what was closed
	around := b.open[n-1]
	around.kids = append(around.kids, api.Element{Name: name, Attrs: last.attrs, Text: last.text.String(), Kids: last.kids})
	return true
}

// isBlank tells whether s has nothing but blanks of a document: these are fewer than those of texts.
func isBlank(s string) bool {
	return strings.Trim(s, "\t\n\r ") == ""
}
