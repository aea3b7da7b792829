package opml_test

import (
	"math/rand"
	"strings"
	"testing"

	"newsstand/api"
	"newsstand/opml"
)

// P13.2
func TestWrite(t *testing.T) {
	for _, c := range []struct {
		l    []api.Outline
		want string
	}{
		{nil, ``},
		{[]api.Outline{}, ``},
		{list(folder("a")), `<outline text="a"></outline>`},
		{list(from("a", "b")), `<outline text="a" xmlUrl="b"></outline>`},
		{list(from("a", "a")), `<outline text="a" xmlUrl="a"></outline>`}, // also where the Title is the Url
		{list(folder("tech", from("A", "u"))), `<outline text="tech"><outline text="A" xmlUrl="u"></outline></outline>`},
		{
			list(folder("a", folder("b", from("c", "d"), folder("e")), from("f", "g")), from("h", "i"), folder("j")),
			`<outline text="a"><outline text="b"><outline text="c" xmlUrl="d"></outline><outline text="e"></outline></outline><outline text="f" xmlUrl="g"></outline></outline><outline text="h" xmlUrl="i"></outline><outline text="j"></outline>`,
		},
		{list(from(`<"A" & 'B'>`, `u?a&b="<c>'`), folder("&amp;")), `<outline text="&lt;&quot;A&quot; &amp; &apos;B&apos;&gt;" xmlUrl="u?a&amp;b=&quot;&lt;c&gt;&apos;"></outline><outline text="&amp;amp;"></outline>`},
		{list(from("\u00e4 \ufffd", "\U0001f600")), "<outline text=\"\u00e4 \ufffd\" xmlUrl=\"\U0001f600\"></outline>"},
		{deep(8), strings.Repeat(`<outline text="n">`, 8) + strings.Repeat(`</outline>`, 8)},
		{many(512), strings.Repeat(`<outline text="m"></outline>`, 512)},
	} {
		if s, e := opml.Write(c.l); e != api.OK || s != `<opml version="2.0"><body>`+c.want+`</body></opml>` {
			t.Errorf("Write(%.200v): %.500q, %d", c.l, s, e)
		}
	}
}

// undone wants l to be read as it is written, but what is too long.
func undone(t *testing.T, l []api.Outline) {
	t.Helper()
	s, e := opml.Write(l)
	if e != api.OK {
		t.Fatalf("Write(%.200v): %d", l, e)
	}
	m, e := opml.Read(s)
	if len(s) > api.MaxDoc {
		if e != api.ErrLong || len(m) != 0 {
			t.Fatalf("Read of %d bytes: %d", len(s), e)
		}
		return
	}
	if e != api.OK || !equal(l, m) || !opml.Same(l, m) {
		t.Fatalf("Read(%.200q): %.200v, %d", s, m, e)
	}
}

// P13.3
func TestWhatIsWrittenIsRead(t *testing.T) {
	for _, l := range right {
		undone(t, l)
	}
	texts := []string{"a", "a b", "\u00e4\ufffd\U0001f600", "&", "&lt;", "<", "]]>", "<![CDATA[", "<!--", "'\"", "&#32;", "&#0;x", "xmlUrl=\"u\"", "/>", "text", strings.Repeat("'", 256)}
	for _, a := range texts {
		for _, b := range texts {
			undone(t, list(folder(a, folder(b), from(a, b)), from(b, a), from(a, "u"+b)))
		}
	}
	r := rand.New(rand.NewSource(31))
	for range 2000 {
		undone(t, random(r, 1+r.Intn(8), true))
	}
}

// P13.3: a document as long as may be, and one that is longer by a byte.
func TestLongDocuments(t *testing.T) {
	l := many(100)
	for i := range l {
		l[i].Url = strings.Repeat("u", 400)
	}
	s, _ := opml.Write(l)
	missing := api.MaxDoc - len(s)
	for i := range l {
		n := min(missing, 250)
		l[i].Title += strings.Repeat("x", n)
		missing -= n
	}
	if s, _ := opml.Write(l); len(s) != api.MaxDoc {
		t.Error(len(s))
	}
	undone(t, l)
	l[99].Title += "x"
	if s, _ := opml.Write(l); len(s) != api.MaxDoc+1 {
		t.Error(len(s))
	}
	undone(t, l)
	l = many(512)
	for i := range l {
		l[i] = from(strings.Repeat("'", 256), strings.Repeat("\"", 512))
	}
	undone(t, l)
}

// P13.1, P13.3: what is read of any document may be written, and is read again.
func TestWhatIsReadMayBeWritten(t *testing.T) {
	parts := []string{"", " ", "x", "\u00e4", "\u3000", "\xff", "&#1;", "&#127;x", "&amp;", "&lt;&amp;lt;", strings.Repeat("\u20ac", 85), strings.Repeat("y", 254), strings.Repeat("z ", 255), strings.Repeat("\xfe", 171)}
	var texts []string
	for _, a := range parts {
		for _, b := range parts {
			texts = append(texts, a+b)
		}
	}
	for i, a := range texts {
		b, c := texts[(i*31+7)%len(texts)], texts[(i*59+3)%len(texts)]
		one := "<outline text='" + a + "' title='" + b + "' xmlUrl='" + c + "'>"
		two := "<outline xmlUrl='" + b + "' title='" + a + "'>"
		three := "<outline text='" + c + "'>"
		const end = "</outline>"
		l, e := opml.Read(body(one + two + end + end + three + one + end + three + two + end + end + end + two + three + end + end))
		if e != api.OK || opml.Check(l) != api.OK {
			t.Fatalf("Read of %q: %v, %d", one+two+three, l, e)
		}
		undone(t, l)
	}
}
