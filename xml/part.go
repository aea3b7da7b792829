package xml

import (
	"strings"

	"newsstand/api"
	"newsstand/entity"
)

// part reads the next part of a document, and tells whether there is one.
func (r *reader) part() bool {
	switch {
	case r.skip("<!--"):
		_, ends := r.upTo("-->")
		return ends
	case r.skip("<?"):
		_, ends := r.upTo("?>")
		return ends
	case r.skip("<!DOCTYPE"):
		inner, ends := r.upTo(">")
		return ends && !strings.Contains(inner, "[")
	case r.skip("<![CDATA["):
		inner, ends := r.upTo("]]>")
		r.text.WriteString(inner)
		return ends
	case r.skip("</"):
		return r.closing()
	case r.skip("<"):
		return r.opening()
	}
	r.text.WriteString(entity.Read(r.take(func(c rune) bool { return c != '<' })))
	return true
}

// closing reads a tag that closes, behind its </.
func (r *reader) closing() bool {
	t := api.Token{Kind: api.TokenClose, Name: r.take(inName)}
	r.blanks()
	if !r.skip(">") || !mayBe(t) {
		return false
	}
	r.add(t)
	return true
}

// opening reads a tag that opens, behind its <.
func (r *reader) opening() bool {
	t := api.Token{Kind: api.TokenOpen, Name: r.take(inName)}
	for r.blanks() && !r.atEnd() {
		a, is := r.attr()
		if !is {
			return false
		}
		t.Attrs = append(t.Attrs, a)
	}
	closes := r.skip("/")
	if !r.skip(">") || !mayBe(t) {
		return false
	}
	r.add(t)
	if closes {
		r.add(api.Token{Kind: api.TokenClose, Name: t.Name})
	}
	return true
}

// atEnd tells whether the end of a tag that opens stands next, or nothing.
func (r *reader) atEnd() bool {
	return r.rest == "" || r.rest[0] == '>' || r.rest[0] == '/'
}

// attr reads an attribute; whether its name is one is seen once its tag has ended.
func (r *reader) attr() (api.Attr, bool) {
	name := r.take(inName)
	r.blanks()
	if !r.skip("=") {
		return api.Attr{}, false
	}
	r.blanks()
	value, is := r.value()
	return api.Attr{Name: name, Value: value}, is
}

// value reads what stands between two signs of the same kind.
func (r *reader) value() (string, bool) {
	for _, quote := range `"'` {
		if r.skip(string(quote)) {
			s := r.take(func(c rune) bool { return c != quote && c != '<' })
			return entity.Read(s), r.skip(string(quote))
		}
	}
	return "", false
}
