package xml

import (
	"strings"

	"newsstand/api"
	"newsstand/entity"
)

// Write answers a document of the tokens l.
func Write(l []api.Token) (string, api.Errno) {
	var b strings.Builder
	last := 0
	for _, t := range l {
		if !mayBe(t) || t.Kind == api.TokenText && last == api.TokenText { // two texts would be read as one
			return "", api.ErrArg
		}
		write(&b, t)
		last = t.Kind
	}
	return b.String(), api.OK
}

// write writes a token that may be.
func write(b *strings.Builder, t api.Token) {
	switch t.Kind {
	case api.TokenOpen:
		b.WriteString("<" + t.Name)
		for _, a := range t.Attrs {
			b.WriteString(" " + a.Name + `="` + entity.Write(a.Value) + `"`)
		}
		b.WriteString(">")
	case api.TokenClose:
		b.WriteString("</" + t.Name + ">")
	case api.TokenText:
		b.WriteString(entity.Write(t.Text))
	}
}

// mayBe tells whether t is of a kind, and has what that kind has, and nothing else.
func mayBe(t api.Token) bool {
	switch t.Kind {
	case api.TokenOpen:
		return Name(t.Name) && attrsMayBe(t.Attrs) && t.Text == ""
	case api.TokenClose:
		return Name(t.Name) && len(t.Attrs) == 0 && t.Text == ""
	case api.TokenText:
		return t.Name == "" && len(t.Attrs) == 0 && t.Text != ""
	}
	return false
}

// attrsMayBe tells whether l are no more than a tag may have, each of a name that no other has.
func attrsMayBe(l []api.Attr) bool {
	if len(l) > api.MaxAttrs {
		return false
	}
	had := map[string]int{}
	for _, a := range l {
		if !Name(a.Name) || had[a.Name] > 0 {
			return false
		}
		had[a.Name]++
	}
	return true
}
