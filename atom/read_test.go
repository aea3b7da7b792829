package atom_test

import (
	"slices"
	"strconv"
	"strings"
	"testing"
	"unicode/utf8"

	"newsstand/api"
	"newsstand/atom"
	"newsstand/rss"
	"newsstand/tree"
	"newsstand/utf"
)

// equal holds feeds against each other by the library.
func equal(a, b api.Doc) bool {
	return a.Title == b.Title && a.Link == b.Link && slices.Equal(a.Entries, b.Entries)
}

// P11.2
func TestRead(t *testing.T) {
	a := api.Entry{Guid: "A", Title: "A"}
	b := api.Entry{Guid: "b", Link: "b", Date: 5, Dated: true}
	entryA := "<entry><title>A</title></entry>"
	entryB := "<entry><link href='b'/><updated>1970-01-01T00:00:05Z</updated></entry>"
	for s, want := range map[string]api.Doc{
		"<feed/>":        {},
		"<feed>x</feed>": {},
		"<feed xmlns='http://www.w3.org/2005/Atom'><title> N\ne </title><link href=' http://n/ '/></feed>":                      {Title: "N e", Link: "http://n/"},
		"<feed>" + entryA + "<title>N</title>" + entryB + "<link href='n'/></feed>":                                             {Title: "N", Link: "n", Entries: []api.Entry{a, b}},
		"<feed>" + entryB + entryA + entryB + "</feed>":                                                                         {Entries: []api.Entry{b, a, b}}, // also of one Guid
		"<x:feed><y:title>N</y:title><z:link href='n'/><z:entry><q:id>A</q:id><title>A</title></z:entry></x:feed>":              {Title: "N", Link: "n", Entries: []api.Entry{a}},
		"<feed><title/><title>N</title><link href=''/><link href='n'/></feed>":                                                  {},
		"<feed><id>i</id><subtitle>S</subtitle><link rel='self' href='s'/><updated>1970-01-01T00:00:05Z</updated></feed>":       {},
		"<feed><entry/>" + entryA + "<entry><summary>x</summary></entry></feed>":                                                {Entries: []api.Entry{a}},
		"<feed><x>" + entryA + "</x><Entry>x</Entry><item><title>I</title></item>" + entryB + "</feed>":                         {Entries: []api.Entry{b}},
		"<feed><entry>x" + entryA + "</entry></feed>":                                                                           {},
		"<feed><channel><title>C</title><item><title>I</title></item></channel><title>N</title></feed>":                         {Title: "N"},
		"<feed><feed><title>N</title>" + entryA + "</feed></feed>":                                                              {},
		"<feed><title>" + strings.Repeat("t", 300) + "</title>" + href(strings.Repeat("l", 600)) + "</feed>":                    {Title: strings.Repeat("t", 256), Link: strings.Repeat("l", 512)},
		"<feed><title>" + strings.Repeat("t", 255) + " t</title>" + href(strings.Repeat("\u00e4", 257)) + "</feed>":             {Title: strings.Repeat("t", 255), Link: strings.Repeat("\u00e4", 256)},
		"<!-- a --><?xml version='1.0'?><feed><!-- b --><title><![CDATA[<N>]]> &amp; M</title><entry><id>A</id></entry></feed>": {Title: "<N> & M", Entries: []api.Entry{{Guid: "A"}}},
	} {
		if d, is := atom.Read(parsed(t, s)); !is || !equal(d, want) {
			t.Errorf("Read(%.200q): %v, %v", s, d, is)
		}
	}
}

// P11.2
func TestReadOfNoFeed(t *testing.T) {
	for _, s := range []string{
		"<rss/>", "<rss><channel><title>N</title></channel></rss>", "<feeds/>", "<fee/>", "<Feed/>", "<FEED/>", "<entry><title>A</title></entry>", "<feed:x/>", "<feed:/>", "<x:feed:y/>", "<x><feed/></x>", "<opml/>", "<afeed><title>N</title></afeed>",
	} {
		if d, is := atom.Read(parsed(t, s)); is || !equal(d, api.Doc{}) {
			t.Errorf("Read(%q): %v, %v", s, d, is)
		}
	}
	if d, is := atom.Read(api.Element{}); is || !equal(d, api.Doc{}) {
		t.Error(d, is)
	}
	if d, is := atom.Read(api.Element{Name: ":feed", Text: "x"}); !is || !equal(d, api.Doc{}) {
		t.Error(d, is)
	}
}

// P11.2: the first entries, as many as may be; what is no entry does not count.
func TestReadOfManyEntries(t *testing.T) {
	for _, n := range []int{0, 1, 255, 256, 257, 600} {
		var b strings.Builder
		var want []api.Entry
		for i := range n {
			id := strconv.Itoa(i)
			b.WriteString("<entry/><entry><id>" + id + "</id></entry>")
			if i < 256 {
				want = append(want, api.Entry{Guid: id})
			}
		}
		s := "<feed><title>N</title>" + b.String() + "</feed>"
		if d, is := atom.Read(parsed(t, s)); !is || !equal(d, api.Doc{Title: "N", Entries: want}) {
			t.Errorf("%d: %d entries, %v", n, len(d.Entries), is)
		}
	}
}

// P11.2, R3: what is handed in is not changed, and each answer is a new one.
func TestReadKeepsNothing(t *testing.T) {
	e := parsed(t, "<feed><title> N </title><link href=' n '/><entry><title> A </title></entry><entry><title>B</title></entry></feed>")
	before := tree.Tokens(e)
	d, _ := atom.Read(e)
	d.Entries[0].Guid = "wrong"
	_ = append(d.Entries[:1], api.Entry{Guid: "wrong"})
	want := api.Doc{Title: "N", Link: "n", Entries: []api.Entry{{Guid: "A", Title: "A"}, {Guid: "B", Title: "B"}}}
	if again, is := atom.Read(e); !is || !equal(again, want) {
		t.Error(again, is)
	}
	if b, f := tree.Build(before); f != api.OK || !tree.Same(b, e) {
		t.Error(e)
	}
}

// P11.1, P11.2: texts of all sorts, in all places, are clean, and no longer than may be.
func TestEntriesAreClean(t *testing.T) {
	parts := []string{"", " ", "x", "\u00e4", "\u3000", "\xff", "&#1;", "&#127;x", "&amp;", strings.Repeat("\u20ac", 85), strings.Repeat("y", 254), strings.Repeat("z ", 255), strings.Repeat("\xfe", 171), strings.Repeat("\U0001f600", 128)}
	var texts []string
	for _, a := range parts {
		for _, b := range parts {
			texts = append(texts, a+b)
		}
	}
	clean := func(s string, most int) bool {
		return utf.Clean(s) == s && utf8.ValidString(s) && len(s) <= most
	}
	for i, a := range texts {
		b, c := texts[(i*31+7)%len(texts)], texts[(i*59+3)%len(texts)]
		head := tag("title", a) + href(b)
		d, is := atom.Read(parsed(t, tag("feed", head+tag("entry", head)+tag("entry", tag("id", c)+head)+tag("entry", tag("id", a)))))
		if !is || !clean(d.Title, 256) || !clean(d.Link, 512) {
			t.Fatalf("%q: %v", head, d)
		}
		for _, x := range d.Entries {
			if x.Guid == "" || !clean(x.Guid, 512) || !clean(x.Title, 256) || !clean(x.Link, 512) || x.Date != 0 || x.Dated {
				t.Fatalf("%q: %v", head, x)
			}
		}
		field := rss.Field(parsed(t, tag("e", tag("href", b))), "href", 512) // a link is cut as a field is
		if s := atom.Link(parsed(t, tag("e", href(b)))); s != field {
			t.Fatalf("Link of %q: %q", b, s)
		}
	}
}

// P11.3
func TestAtomIsNoRss(t *testing.T) {
	inners := []string{"", "<channel/>", "<channel><title>N</title><item><title>A</title></item></channel>", "<title>N</title><entry><title>A</title></entry>", "<rss><channel/></rss>", "<feed/>", "<channel/><entry/>"}
	for _, name := range []string{"rss", "feed", "x:rss", "x:feed", "rss:feed", "feed:rss", "rss:", "feed:", "channel", "Feed", "RSS", "rssfeed"} {
		for _, inner := range inners {
			e := parsed(t, tag(name, inner))
			_, isAtom := atom.Read(e)
			_, isRss := rss.Read(e)
			if isAtom && isRss || isAtom != (tree.Short(name) == "feed") {
				t.Errorf("%s with %q: %v, %v", name, inner, isAtom, isRss)
			}
		}
	}
}
