package feed_test

import (
	"slices"
	"strconv"
	"strings"
	"testing"

	"newsstand/api"
	"newsstand/feed"
	"newsstand/tree"
)

// equal holds feeds against each other by the library.
func equal(a, b api.Doc) bool {
	return a.Title == b.Title && a.Link == b.Link && slices.Equal(a.Entries, b.Entries)
}

// parsed is the element of a text.
func parsed(t *testing.T, s string) api.Element {
	t.Helper()
	e, f := tree.Parse(s)
	if f != api.OK {
		t.Fatalf("%.200q: %d", s, f)
	}
	return e
}

// tag answers the text of an element.
func tag(name, inner string) string {
	return "<" + name + ">" + inner + "</" + name + ">"
}

// items answers the texts of entries of RSS, from the number from on up to the number to.
func items(from, to int) string {
	var b strings.Builder
	for i := from; i < to; i++ {
		b.WriteString("<item><guid>" + strconv.Itoa(i) + "</guid></item>")
	}
	return b.String()
}

// numbered answers entries that have nothing but a Guid, from the number 0 on up to the number to.
func numbered(to int) []api.Entry {
	var l []api.Entry
	for i := range to {
		l = append(l, api.Entry{Guid: strconv.Itoa(i)})
	}
	return l
}

// P12.1: feeds of both kinds.
var feeds = map[string]api.Doc{
	"<rss><channel/></rss>": {},
	"<feed/>":               {},
	"<rss version='2.0'><channel><title>N</title><link>n</link><item><title>A</title></item></channel></rss>": {Title: "N", Link: "n", Entries: []api.Entry{{Guid: "A", Title: "A"}}},
	"<feed><title>N</title><link href='n'/><entry><title>A</title></entry></feed>":                            {Title: "N", Link: "n", Entries: []api.Entry{{Guid: "A", Title: "A"}}},
	"<x:rss><y:channel><z:title> N </z:title></y:channel></x:rss>":                                            {Title: "N"},
	"<x:feed><y:title> N </y:title></x:feed>":                                                                 {Title: "N"},
	"<feed><channel><title>C</title></channel><item><title>I</title></item></feed>":                           {},
	"<rss><title>T</title><entry><id>1</id></entry><channel><entry><id>2</id></entry></channel></rss>":        {},
	" \n<?xml version='1.0'?><!DOCTYPE rss><!-- a --><rss><channel><title>N</title></channel></rss>\t":        {Title: "N"},
	"<rss><channel><item><title>A</title><pubDate>1 Jan 1970 00:01 GMT</pubDate></item></channel></rss>":      {Entries: []api.Entry{{Guid: "A", Title: "A", Date: 60, Dated: true}}},
	"<feed><entry><title>A</title><updated>1 Jan 1970 00:01 GMT</updated></entry></feed>":                     {Entries: []api.Entry{{Guid: "A", Title: "A"}}},
	"<feed><entry><title>A</title><updated>1970-01-01T00:01:00Z</updated></entry></feed>":                     {Entries: []api.Entry{{Guid: "A", Title: "A", Date: 60, Dated: true}}},

	// each Guid once
	"<rss><channel><item><guid>1</guid><title>A</title></item><item><guid>1</guid><title>B</title></item></channel></rss>":                                               {Entries: []api.Entry{{Guid: "1", Title: "A"}}},
	"<rss><channel><item><guid>1</guid></item><item><guid>2</guid></item><item><title>1</title></item><item><link>2</link></item><item>3</item></channel></rss>":         {Entries: []api.Entry{{Guid: "1"}, {Guid: "2"}}},
	"<feed><entry><id>1</id></entry><entry><id> 1 </id><title>A</title></entry><entry><title>1</title></entry><entry><id>I</id></entry><entry><id>i</id></entry></feed>": {Entries: []api.Entry{{Guid: "1"}, {Guid: "I"}, {Guid: "i"}}},
	"<rss><channel><item><guid>" + strings.Repeat("g", 512) + "x</guid></item><item><guid>" + strings.Repeat("g", 512) + "y</guid></item></channel></rss>":               {Entries: []api.Entry{{Guid: strings.Repeat("g", 512)}}}, // the same as they are cut
	"<rss><channel>" + items(0, 200) + items(0, 56) + items(200, 300) + "</channel></rss>":                                                                               {Entries: numbered(200)},                                 // the first 256, then each Guid once
	"<rss><channel>" + items(0, 300) + "</channel></rss>":                                                                                                                {Entries: numbered(256)},
}

// P12.1
func TestParseAndOf(t *testing.T) {
	for s, want := range feeds {
		if d, e := feed.Parse(s); e != api.OK || !equal(d, want) {
			t.Errorf("Parse(%.200q): %v, %d", s, d, e)
		}
		if d, e := feed.Of(parsed(t, s)); e != api.OK || !equal(d, want) {
			t.Errorf("Of(%.200q): %v, %d", s, d, e)
		}
	}
}

// P12.1: what is an element, and no feed.
func TestNoFeeds(t *testing.T) {
	for _, s := range []string{"<a/>", "<rss/>", "<rss>x</rss>", "<rss><x><channel/></x></rss>", "<RSS><channel/></RSS>", "<Feed/>", "<feeds/>", "<feed:x/>", "<channel><title>N</title></channel>", "<entry><id>1</id></entry>", "<opml><body/></opml>", "<x><rss><channel/></rss></x>", "<rss><feed/></rss>", "<rdf:RDF><channel/></rdf:RDF>"} {
		if d, e := feed.Parse(s); e != api.ErrFeed || !equal(d, api.Doc{}) {
			t.Errorf("Parse(%q): %v, %d", s, d, e)
		}
		if d, e := feed.Of(parsed(t, s)); e != api.ErrFeed || !equal(d, api.Doc{}) {
			t.Errorf("Of(%q): %v, %d", s, d, e)
		}
	}
	if d, e := feed.Of(api.Element{}); e != api.ErrFeed || !equal(d, api.Doc{}) {
		t.Error(d, e)
	}
}

// P12.1: what is no element.
func TestParseOfNoElement(t *testing.T) {
	for s, want := range map[string]api.Errno{
		"":                             api.ErrTree,
		" ":                            api.ErrTree,
		"news":                         api.ErrTree,
		"<rss>":                        api.ErrTree,
		"</rss>":                       api.ErrTree,
		"<feed/><feed/>":               api.ErrTree,
		"<feed/>x":                     api.ErrTree,
		"x<feed/>":                     api.ErrTree,
		"<feed></rss>":                 api.ErrTree,
		"<rss><channel></rss>":         api.ErrTree,
		"<feed a>":                     api.ErrXml,
		"<feed><title>N</title></feed": api.ErrXml,
		"<feed/><":                     api.ErrXml,
		"<a/><b/><!":                   api.ErrXml,
		"<feed>" + strings.Repeat("<a>", 32) + strings.Repeat("</a>", 32) + "</feed>": api.ErrTree,
		"<feed>" + strings.Repeat(" ", 1<<16-12) + "</feed>":                          api.ErrLong,
		strings.Repeat("<", 1<<16+1):                                                  api.ErrLong,
		"<feed>" + strings.Repeat("<a/>", 4096) + "</feed>":                           api.ErrLong,
	} {
		if d, e := feed.Parse(s); e != want || !equal(d, api.Doc{}) {
			t.Errorf("Parse(%.200q): %v, %d", s, d, e)
		}
	}
	for _, s := range []string{
		"<feed>" + strings.Repeat(" ", 1<<16-13) + "</feed>",
		"<feed>" + strings.Repeat("<a/>", 4095) + "</feed>",
		"<feed>" + strings.Repeat("<a>", 31) + strings.Repeat("</a>", 31) + "</feed>",
	} {
		if d, e := feed.Parse(s); e != api.OK || !equal(d, api.Doc{}) {
			t.Errorf("Parse(%.200q): %v, %d", s, d, e)
		}
	}
}

// P12.1
func TestOnce(t *testing.T) {
	a, b, c := api.Entry{Guid: "a"}, api.Entry{Guid: "b", Title: "B", Date: 1, Dated: true}, api.Entry{Guid: "c", Link: "C"}
	a2, b2, none, none2 := api.Entry{Guid: "a", Title: "A"}, api.Entry{Guid: "b"}, api.Entry{}, api.Entry{Title: "N"}
	for i, l := range []struct{ all, once []api.Entry }{
		{nil, nil},
		{[]api.Entry{}, nil},
		{[]api.Entry{a}, []api.Entry{a}},
		{[]api.Entry{c, b, a}, []api.Entry{c, b, a}},
		{[]api.Entry{a, a}, []api.Entry{a}},
		{[]api.Entry{a, a2}, []api.Entry{a}},
		{[]api.Entry{a2, a}, []api.Entry{a2}},
		{[]api.Entry{a, b, a2, c, b2, a}, []api.Entry{a, b, c}},
		{[]api.Entry{b2, a2, c, b, c, c, a}, []api.Entry{b2, a2, c}},
		{[]api.Entry{none, a, none2, none}, []api.Entry{none, a}}, // a Guid that is empty is one, too
		{[]api.Entry{none2, none}, []api.Entry{none2}},
		{[]api.Entry{{Guid: "A"}, {Guid: "a"}, {Guid: "a "}, {Guid: "\xff"}, {Guid: "\ufffd"}}, []api.Entry{{Guid: "A"}, {Guid: "a"}, {Guid: "a "}, {Guid: "\xff"}, {Guid: "\ufffd"}}},
	} {
		if got := feed.Once(l.all); !slices.Equal(got, l.once) {
			t.Errorf("%d: Once(%v): %v", i, l.all, got)
		}
	}
	long := append(numbered(3000), numbered(3000)...) // also more of them than a feed has
	if !slices.Equal(feed.Once(long), numbered(3000)) {
		t.Error("Once of many")
	}
}

// R3: what is handed in is not changed, and each answer is a new one.
func TestNothingIsKept(t *testing.T) {
	l := []api.Entry{{Guid: "a"}, {Guid: "a", Title: "A"}, {Guid: "b"}, {Guid: "c"}}
	before := slices.Clone(l)
	once := feed.Once(l[:3])
	once[0].Guid = "wrong"
	_ = append(once, api.Entry{Guid: "wrong"})
	if !slices.Equal(l, before) {
		t.Error(l)
	}
	alone := feed.Once(l[2:])
	alone[0].Guid = "wrong"
	if !slices.Equal(l, before) {
		t.Error(l)
	}
	d := api.Doc{Title: "N", Entries: l[2:]}
	if _, e := feed.Write(d); e != api.OK || feed.Check(d) != api.OK || !slices.Equal(l, before) {
		t.Error(e, l)
	}
	e := parsed(t, "<rss><channel><item><guid>a</guid></item><item><guid>b</guid></item></channel></rss>")
	x, _ := feed.Of(e)
	x.Entries[0].Guid = "wrong"
	if again, _ := feed.Of(e); !slices.Equal(again.Entries, []api.Entry{{Guid: "a"}, {Guid: "b"}}) {
		t.Error(again)
	}
}
