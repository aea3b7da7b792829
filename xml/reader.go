package xml

import (
	"strings"

	"newsstand/api"
)

// reader goes through a document, and keeps its tokens.
type reader struct {
	rest   string          // what was not read yet
	tokens []api.Token     // those that nothing can be added to any more
	text   strings.Builder // a text that has not ended yet, as more of it may stand behind a remark
}

// take takes the runes up to the first one that is not of the kind.
func (r *reader) take(kind func(c rune) bool) string {
	taken := r.rest
	for i, c := range r.rest {
		if !kind(c) {
			taken = r.rest[:i]
			break
		}
	}
	r.rest = r.rest[len(taken):]
	return taken
}

// blanks takes the blanks that stand next, and tells whether there were any.
func (r *reader) blanks() bool {
	return r.take(isBlank) != ""
}

// skip takes mark, and tells whether it stood next.
func (r *reader) skip(mark string) bool {
	rest, is := strings.CutPrefix(r.rest, mark)
	r.rest = rest
	return is
}

// upTo takes all up to the next mark, and that, and tells whether there is one.
func (r *reader) upTo(mark string) (string, bool) {
	taken, rest, is := strings.Cut(r.rest, mark)
	r.rest = rest
	return taken, is
}

// add puts the token of a tag behind the others.
func (r *reader) add(t api.Token) {
	r.endText()
	r.tokens = append(r.tokens, t)
}

// endText makes a token of the text that stands there, if there is one.
func (r *reader) endText() {
	if r.text.Len() > 0 {
		r.tokens = append(r.tokens, api.Token{Kind: api.TokenText, Text: r.text.String()})
		r.text.Reset()
	}
}

// count answers how many tokens there are, with the text that has not ended yet.
func (r *reader) count() int {
	if r.text.Len() > 0 {
		return len(r.tokens) + 1
	}
	return len(r.tokens)
}
