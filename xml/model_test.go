package xml_test

import (
	"regexp"
	"strings"

	"newsstand/api"
	"newsstand/entity"
)

// parts are what the texts of each are put together from: whole parts of documents, pieces of them, and what is nearly one.
var parts = []string{
	"x", "&lt;", "&a", " ", "\n", "\xff", "\u00e4", ">", "/", "=", "'", "\"", "-", "]",
	"<", "</", "<a", "<a>", "</a>", "<a/>", "</a", " b='1'", " b", "=\"&amp;'\"", "b='2'", "<:a", "<a c='>'",
	"<!--", "-->", "<!-- < -->", "<?", "?>", "<?x?>", "<!DOCTYPE", "<!DOCTYPE a>", "[", "<![CDATA[", "]]>", "<![CDATA[<&amp;]]>", "<!",
}

// each hands on all texts of up to three of the parts.
func each(check func(s string)) {
	check("")
	for _, a := range parts {
		check(a)
		for _, b := range parts {
			check(a + b)
			for _, c := range parts {
				check(a + b + c)
			}
		}
	}
}

const (
	aName  = `[A-Za-z_][A-Za-z0-9_:.-]{0,63}`
	aValue = `"[^"<]*"|'[^'<]*'`
	anAttr = `[\t\n\r ]+(` + aName + `)[\t\n\r ]*=[\t\n\r ]*(` + aValue + `)`
)

// What each part looks like, at the beginning of what is left.
var (
	nothing = regexp.MustCompile(`^(?s:<!--.*?-->|<\?.*?\?>|<!DOCTYPE[^>\[]*>)`)
	raw     = regexp.MustCompile(`^(?s:<!\[CDATA\[(.*?)\]\]>)`)
	closing = regexp.MustCompile(`^</(` + aName + `)[\t\n\r ]*>`)
	opening = regexp.MustCompile(`^<(` + aName + `)((?:` + anAttr + `)*)[\t\n\r ]*(/?)>`)
	attrs   = regexp.MustCompile(anAttr)
	text    = regexp.MustCompile(`^[^<]+`)
)

// want answers what xml.Tokens should, by the expressions.
func want(s string) ([]api.Token, int, api.Errno) {
	if len(s) > 65536 {
		return nil, 0, api.ErrLong
	}
	var l []api.Token
	for at := 0; at < len(s); {
		size, more := next(s[at:])
		if size == 0 {
			return nil, at, api.ErrXml
		}
		for _, t := range more {
			if n := len(l); t.Kind == api.TokenText && n > 0 && l[n-1].Kind == api.TokenText {
				l[n-1].Text += t.Text
			} else {
				l = append(l, t)
			}
		}
		if len(l) > 8192 {
			return nil, at, api.ErrLong
		}
		at += size
	}
	return l, len(s), api.OK
}

// next answers how many bytes the next part has, 0 if there is none, and its tokens.
func next(s string) (int, []api.Token) {
	if m := nothing.FindString(s); m != "" {
		return len(m), nil
	}
	if m := raw.FindStringSubmatch(s); m != nil {
		return len(m[0]), texts(m[1])
	}
	if m := closing.FindStringSubmatch(s); m != nil {
		return len(m[0]), []api.Token{shut(m[1])}
	}
	if m := opening.FindStringSubmatch(s); m != nil {
		t := api.Token{Kind: api.TokenOpen, Name: m[1]}
		names := map[string]bool{}
		for _, a := range attrs.FindAllStringSubmatch(m[2], -1) {
			t.Attrs = append(t.Attrs, api.Attr{Name: a[1], Value: entity.Read(a[2][1 : len(a[2])-1])})
			names[a[1]] = true
		}
		if len(names) < len(t.Attrs) || len(names) > 32 {
			return 0, nil
		}
		if strings.HasSuffix(m[0], "/>") {
			return len(m[0]), []api.Token{t, shut(m[1])}
		}
		return len(m[0]), []api.Token{t}
	}
	m := text.FindString(s)
	return len(m), texts(entity.Read(m))
}

// texts answers the token of a text, if it has any bytes.
func texts(s string) []api.Token {
	if s == "" {
		return nil
	}
	return []api.Token{word(s)}
}

func word(s string) api.Token {
	return api.Token{Kind: api.TokenText, Text: s}
}

func shut(name string) api.Token {
	return api.Token{Kind: api.TokenClose, Name: name}
}

// open answers the token of a tag with attributes: names and values by turns.
func open(name string, l ...string) api.Token {
	t := api.Token{Kind: api.TokenOpen, Name: name}
	for i := 0; i < len(l); i += 2 {
		t.Attrs = append(t.Attrs, api.Attr{Name: l[i], Value: l[i+1]})
	}
	return t
}
