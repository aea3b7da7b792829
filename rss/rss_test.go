package rss_test

import (
	"slices"
	"strconv"
	"strings"
	"testing"
	"unicode/utf8"

	"newsstand/api"
	"newsstand/rss"
	"newsstand/tree"
	"newsstand/utf"
)

// parsed is the element of a text.
func parsed(t *testing.T, s string) api.Element {
	t.Helper()
	e, f := tree.Parse(s)
	if f != api.OK {
		t.Fatalf("%.200q: %d", s, f)
	}
	return e
}

// equal holds feeds against each other by the library.
func equal(a, b api.Doc) bool {
	return a.Title == b.Title && a.Link == b.Link && slices.Equal(a.Entries, b.Entries)
}

// tag answers the text of an element.
func tag(name, inner string) string {
	return "<" + name + ">" + inner + "</" + name + ">"
}

// P10.1
func TestField(t *testing.T) {
	for _, c := range []struct {
		inner, short string
		most         int
		want         string
	}{
		{"", "a", 9, ""},
		{"text", "a", 9, ""},
		{"<a/>", "a", 9, ""},
		{"<a>x</a>", "a", 9, "x"},
		{"<a>x</a>", "A", 9, ""},
		{"<a>x</a>", "b", 9, ""},
		{"<a>x</a>", "e", 9, ""}, // not the element itself
		{"<b>x</b><a>y</a>", "a", 9, "y"},
		{"<a>x</a><a>y</a>", "a", 9, "x"},
		{"<a/><a>y</a>", "a", 9, ""}, // the first one counts, whatever is in it
		{"<a> \n</a><a>y</a>", "a", 9, ""},
		{"<m:a>x</m:a><a>y</a>", "a", 9, "x"},
		{"<m:a>x</m:a>", "m:a", 9, ""},
		{"<a:m>x</a:m>", "a", 9, ""},
		{"<b><a>x</a></b>", "a", 9, ""},
		{"<a>x<b>y</b>z</a>", "a", 9, "xz"},
		{"<a> x\n\t y&#160;&#x3000;z\u2028</a>", "a", 9, "x y z"},
		{"<a>x&#127;<!-- -->y&#x80;&#0;</a>", "a", 9, "xy\ufffd"},
		{"<a><![CDATA[<b>&amp;</b>]]></a>", "a", 12, "<b>&amp;</b>"},
		{"<a>&amp;amp;</a>", "a", 9, "&amp;"},
		{"<a>abcdef</a>", "a", 7, "abcdef"},
		{"<a>abcdef</a>", "a", 6, "abcdef"},
		{"<a>abcdef</a>", "a", 5, "abcde"},
		{"<a>abcdef</a>", "a", 1, "a"},
		{"<a>abcdef</a>", "a", 0, ""},
		{"<a>abcdef</a>", "a", -1, ""},
		{"<a>abcdef</a>", "a", -1 << 63, ""},
		{"<a>abcdef</a>", "a", 1<<63 - 1, "abcdef"},
		{"<a>ab cd</a>", "a", 3, "ab"}, // clean again
		{"<a>ab cd</a>", "a", 4, "ab c"},
		{"<a>  ab   cd  </a>", "a", 5, "ab cd"}, // cut behind it was made clean
		{"<a>\u00e4\u00f6\u00fc</a>", "a", 6, "\u00e4\u00f6\u00fc"},
		{"<a>\u00e4\u00f6\u00fc</a>", "a", 5, "\u00e4\u00f6"},
		{"<a>\u00e4\u00f6\u00fc</a>", "a", 4, "\u00e4\u00f6"},
		{"<a>\u00e4\u00f6\u00fc</a>", "a", 1, ""},
		{"<a>a \u20ac</a>", "a", 4, "a"},
		{"<a>\xff\xfe</a>", "a", 6, "\ufffd\ufffd"},
		{"<a>\xff\xfe</a>", "a", 5, "\ufffd"}, // counted as it is clean
		{"<a>\xff\xfe</a>", "a", 2, ""},
		{"<b:>x</b:>", "", 9, "x"},
	} {
		if s := rss.Field(parsed(t, tag("e", c.inner)), c.short, c.most); s != c.want {
			t.Errorf("Field(%q, %q, %d): %q", c.inner, c.short, c.most, s)
		}
	}
	if s := rss.Field(api.Element{}, "", 9); s != "" {
		t.Error(s)
	}
}

// P10.1
func TestMoment(t *testing.T) {
	both := []string{"a", "b"}
	for _, c := range []struct {
		inner  string
		shorts []string
		want   int
		is     bool
	}{
		{"", both, 0, false},
		{"<a>2001-09-09T01:46:40Z</a>", both, 1000000000, true},
		{"<a>Fri, 13 Feb 2009 23:31:30 GMT</a>", both, 1234567890, true},
		{"<a>Fri, 13 Feb 2009 23:31:30 +0100</a>", both, 1234564290, true},
		{"<a> Fri,\n13&#160;Feb\t2009  23:31:30 GMT\x01 </a>", both, 1234567890, true}, // clean
		{"<a>1970-01-01T00:00:00Z</a><b>1970-01-01T00:00:01Z</b>", both, 0, true},
		{"<a>1969-12-31T23:59:59Z</a>", both, -1, true},
		{"<b>1970-01-01T00:00:02Z</b><a>1970-01-01T00:00:01Z</a>", both, 1, true}, // as they were asked for, not as they stand
		{"<b>1970-01-01T00:00:02Z</b><a>1970-01-01T00:00:01Z</a>", []string{"b", "a"}, 2, true},
		{"<b>1970-01-01T00:00:02Z</b>", both, 2, true},
		{"<a>yesterday</a><b>1970-01-01T00:00:02Z</b>", both, 2, true},
		{"<a/><b>1970-01-01T00:00:02Z</b>", both, 2, true},
		{"<a>2009-02-30T00:00:00Z</a><b>1970-01-01T00:00:02Z</b>", both, 2, true},
		{"<a>yesterday</a><a>1970-01-01T00:00:01Z</a><b>1970-01-01T00:00:02Z</b>", both, 2, true}, // the first one of a name counts
		{"<a>yesterday</a><a>1970-01-01T00:00:01Z</a>", both, 0, false},
		{"<a>yesterday</a><b>tomorrow</b>", both, 0, false},
		{"<x:a>1970-01-01T00:00:01Z</x:a>", both, 1, true},
		{"<x:a>never</x:a><a>1970-01-01T00:00:01Z</a>", both, 0, false},
		{"<a>1970-01-01T00:00:01Z</a>", []string{"x:a", "A", ""}, 0, false},
		{"<a>1970-01-01T00:00:01Z</a>", nil, 0, false},
		{"<a>1970-01-01T00:00:01Z</a>", []string{}, 0, false},
		{"<c>1970-01-01T00:00:03Z</c>", []string{"a", "b", "a", "c"}, 3, true},
		{"<a>1970-01-01<x>none</x>T00:00:01Z</a>", both, 1, true},
		{"<a><x>1970-01-01T00:00:01Z</x></a>", both, 0, false},
		{"<a>1970-01-01T00:00:01Z<!-- -->.5</a>", both, 0, false},
		{"<a>" + strings.Repeat(" ", 600) + "1970-01-01T00:00:01Z</a>", both, 1, true},
	} {
		if n, is := rss.Moment(parsed(t, tag("e", c.inner)), c.shorts); n != c.want || is != c.is {
			t.Errorf("Moment(%q, %q): %d, %v", c.inner, c.shorts, n, is)
		}
	}
	if n, is := rss.Moment(api.Element{}, both); n != 0 || is {
		t.Error(n, is)
	}
}

// P10.1
func TestEntry(t *testing.T) {
	for inner, want := range map[string]api.Entry{
		"<title>A</title>":               {Guid: "A", Title: "A"},
		"<link>l</link>":                 {Guid: "l", Link: "l"},
		"<guid>g</guid>":                 {Guid: "g"},
		"<title>A</title><link>l</link>": {Guid: "l", Title: "A", Link: "l"},
		"<title>A</title><guid>g</guid>": {Guid: "g", Title: "A"},
		"<link>l</link><guid>g</guid>":   {Guid: "g", Link: "l"},
		"<title>A</title><link>l</link><guid isPermaLink='false'>g</guid>": {Guid: "g", Title: "A", Link: "l"},
		"<guid> </guid><guid>g</guid><link>\n</link><title> A\tB </title>": {Guid: "A B", Title: "A B"},
		"<guid/><link>l</link>":                                                                           {Guid: "l", Link: "l"},
		"<m:title>A</m:title><title>B</title>":                                                            {Guid: "A", Title: "A"},
		"<link>l</link><link>k</link>":                                                                    {Guid: "l", Link: "l"},
		"<link href='k'/><title>A</title>":                                                                {Guid: "A", Title: "A"},
		"<id>i</id><title>A</title>":                                                                      {Guid: "A", Title: "A"},
		"<title>A</title><pubDate>Thu, 01 Jan 1970 00:00:05 GMT</pubDate>":                                {Guid: "A", Title: "A", Date: 5, Dated: true},
		"<title>A</title><pubDate>1970-01-01T00:00:00Z</pubDate>":                                         {Guid: "A", Title: "A", Dated: true},
		"<title>A</title><dc:date>1969-12-31T23:59:58Z</dc:date>":                                         {Guid: "A", Title: "A", Date: -2, Dated: true},
		"<title>A</title><pubdate>1970-01-01T00:00:05Z</pubdate>":                                         {Guid: "A", Title: "A"},
		"<title>A</title><published>1970-01-01T00:00:05Z</published><date/>":                              {Guid: "A", Title: "A"},
		"<guid>g</guid><date>1970-01-01T00:00:06Z</date><pubDate>x</pubDate>":                             {Guid: "g", Date: 6, Dated: true},
		"<guid>g</guid><date>1970-01-01T00:00:06Z</date><pubDate>1970-01-01T00:00:07Z</pubDate>":          {Guid: "g", Date: 7, Dated: true},
		"<guid>g</guid><pubDate>x</pubDate><pubDate>1970-01-01T00:00:07Z</pubDate>":                       {Guid: "g"},
		"<guid>g</guid><guid>h</guid><title>A<b>B</b>C</title><b><link>l</link></b>\n":                    {Guid: "g", Title: "AC"},
		"<title>" + strings.Repeat("t", 256) + "</title>":                                                 {Guid: strings.Repeat("t", 256), Title: strings.Repeat("t", 256)},
		"<title>" + strings.Repeat("t", 257) + "</title>":                                                 {Guid: strings.Repeat("t", 256), Title: strings.Repeat("t", 256)},
		"<link>" + strings.Repeat("l", 512) + "</link>":                                                   {Guid: strings.Repeat("l", 512), Link: strings.Repeat("l", 512)},
		"<link>" + strings.Repeat("l", 513) + "</link>":                                                   {Guid: strings.Repeat("l", 512), Link: strings.Repeat("l", 512)},
		"<guid>" + strings.Repeat("g", 512) + "</guid>":                                                   {Guid: strings.Repeat("g", 512)},
		"<guid>" + strings.Repeat("g", 513) + "</guid>":                                                   {Guid: strings.Repeat("g", 512)},
		"<guid>" + strings.Repeat("g", 511) + " g</guid><title>" + strings.Repeat("t ", 200) + "</title>": {Guid: strings.Repeat("g", 511), Title: strings.Repeat("t ", 127) + "t"},
		"<title>" + strings.Repeat("\u20ac", 86) + "</title>":                                             {Guid: strings.Repeat("\u20ac", 85), Title: strings.Repeat("\u20ac", 85)},
	} {
		if x, is := rss.Entry(parsed(t, tag("item", inner))); !is || x != want {
			t.Errorf("Entry(%.200q): %v, %v", inner, x, is)
		}
		if x, is := rss.Entry(parsed(t, tag("r:item", inner))); !is || x != want {
			t.Errorf("Entry(%.200q): %v, %v", inner, x, is)
		}
	}
}

// P10.1: what is no entry tells nothing, not even a date.
func TestNoEntry(t *testing.T) {
	for _, inner := range []string{
		"", "x", "<description>x</description>", "<title/>", "<title> \n&#160;\x01</title><link/><guid>&#127;</guid>", "<title/><title>A</title>", "<b><title>A</title></b>", "<title><b>A</b></title>",
		"<pubDate>1970-01-01T00:00:05Z</pubDate>", "<date>1970-01-01T00:00:05Z</date>", "<Guid>g</Guid><LINK>l</LINK><titles>A</titles>",
	} {
		if x, is := rss.Entry(parsed(t, tag("item", inner))); is || x != (api.Entry{}) {
			t.Errorf("Entry(%q): %v, %v", inner, x, is)
		}
	}
	if x, is := rss.Entry(api.Element{}); is || x != (api.Entry{}) {
		t.Error(x, is)
	}
}

// P10.2
func TestRead(t *testing.T) {
	a := api.Entry{Guid: "A", Title: "A"}
	b := api.Entry{Guid: "b", Link: "b", Date: 5, Dated: true}
	itemA := "<item><title>A</title></item>"
	itemB := "<item><link>b</link><pubDate>1970-01-01T00:00:05Z</pubDate></item>"
	for s, want := range map[string]api.Doc{
		"<rss><channel/></rss>": {},
		"<rss version='2.0'><channel><title> N\ne </title><link> http://n/ </link></channel></rss>":                                         {Title: "N e", Link: "http://n/"},
		"<rss><channel>" + itemA + "<title>N</title>" + itemB + "<link>n</link></channel></rss>":                                            {Title: "N", Link: "n", Entries: []api.Entry{a, b}},
		"<rss><channel>" + itemB + itemA + itemB + "</channel></rss>":                                                                       {Entries: []api.Entry{b, a, b}}, // also of one Guid
		"<x:rss><y:channel><z:title>N</z:title><z:item><q:guid>A</q:guid><title>A</title></z:item></y:channel></x:rss>":                     {Title: "N", Entries: []api.Entry{a}},
		"<rss><x/><channel><title>N</title></channel><channel><title>M</title>" + itemA + "</channel></rss>":                                {Title: "N"},
		"<rss><title>T</title><link>l</link>" + itemA + "<channel>" + itemB + "</channel></rss>":                                            {Entries: []api.Entry{b}},
		"<rss><channel><title/><title>N</title><link/></channel></rss>":                                                                     {},
		"<rss><channel><items>" + itemA + "</items><Item>x</Item>" + itemB + "</channel></rss>":                                             {Entries: []api.Entry{b}},
		"<rss><channel><item/>" + itemA + "<item><description>x</description></item></channel></rss>":                                       {Entries: []api.Entry{a}},
		"<rss><channel><image><title>I</title></image><title>N</title><item>x" + itemA + "</item></channel></rss>":                          {Title: "N"},
		"<rss><channel><title>" + strings.Repeat("t", 300) + "</title><link>" + strings.Repeat("l", 600) + "</link></channel></rss>":        {Title: strings.Repeat("t", 256), Link: strings.Repeat("l", 512)},
		"<rss><channel><title>" + strings.Repeat("t", 255) + " t</title><link>" + strings.Repeat("\u00e4", 257) + "</link></channel></rss>": {Title: strings.Repeat("t", 255), Link: strings.Repeat("\u00e4", 256)},
	} {
		if d, is := rss.Read(parsed(t, s)); !is || !equal(d, want) {
			t.Errorf("Read(%.200q): %v, %v", s, d, is)
		}
	}
}

// P10.2
func TestReadOfNoFeed(t *testing.T) {
	for _, s := range []string{
		"<rss/>", "<rss>x</rss>", "<feed/>", "<feed><channel/></feed>", "<channel><title>N</title></channel>", "<RSS><channel/></RSS>", "<rss2><channel/></rss2>", "<rss:x><channel/></rss:x>", "<rdf:RDF><channel/><item><title>A</title></item></rdf:RDF>",
		"<rss><Channel/></rss>", "<rss><channels/></rss>", "<rss><channel:x/></rss>", "<rss><x><channel/></x></rss>", "<x><rss><channel/></rss></x>", "<rss:><channel/></rss:>",
	} {
		if d, is := rss.Read(parsed(t, s)); is || !equal(d, api.Doc{}) {
			t.Errorf("Read(%q): %v, %v", s, d, is)
		}
	}
	if d, is := rss.Read(api.Element{}); is || !equal(d, api.Doc{}) {
		t.Error(d, is)
	}
}

// P10.2: the first entries, as many as may be; what is no entry does not count.
func TestReadOfManyEntries(t *testing.T) {
	for _, n := range []int{0, 1, 255, 256, 257, 600} {
		var b strings.Builder
		var want []api.Entry
		for i := range n {
			guid := strconv.Itoa(i)
			b.WriteString("<item/><item><guid>" + guid + "</guid></item>")
			if i < 256 {
				want = append(want, api.Entry{Guid: guid})
			}
		}
		s := "<rss><channel><title>N</title>" + b.String() + "</channel></rss>"
		if d, is := rss.Read(parsed(t, s)); !is || !equal(d, api.Doc{Title: "N", Entries: want}) {
			t.Errorf("%d: %d entries, %v", n, len(d.Entries), is)
		}
	}
}

// P10.2, R3: what is handed in is not changed, and each answer is a new one.
func TestReadKeepsNothing(t *testing.T) {
	e := parsed(t, "<rss><channel><title> N </title><item><title> A </title></item><item><title>B</title></item></channel></rss>")
	before := tree.Tokens(e)
	d, _ := rss.Read(e)
	d.Entries[0].Guid = "wrong"
	_ = append(d.Entries[:1], api.Entry{Guid: "wrong"})
	want := api.Doc{Title: "N", Entries: []api.Entry{{Guid: "A", Title: "A"}, {Guid: "B", Title: "B"}}}
	if again, is := rss.Read(e); !is || !equal(again, want) {
		t.Error(again, is)
	}
	if b, f := tree.Build(before); f != api.OK || !tree.Same(b, e) {
		t.Error(e)
	}
}

// P10.2
func TestSame(t *testing.T) {
	x := api.Entry{Guid: "g", Title: "t", Link: "l", Date: 5, Dated: true}
	others := []api.Entry{x, {}, {Guid: "h", Title: "t", Link: "l", Date: 5, Dated: true}, {Guid: "g", Title: "u", Link: "l", Date: 5, Dated: true}, {Guid: "g", Title: "t", Link: "m", Date: 5, Dated: true}, {Guid: "g", Title: "t", Link: "l", Date: 6, Dated: true}, {Guid: "g", Title: "t", Link: "l", Date: 5}}
	docs := []api.Doc{{}, {Title: "t"}, {Title: "u"}, {Link: "t"}, {Title: "t", Link: "t"}, {Title: "t", Entries: []api.Entry{x}}}
	for _, y := range others {
		docs = append(docs, api.Doc{Entries: []api.Entry{y}}, api.Doc{Entries: []api.Entry{x, y}})
	}
	docs = append(docs, api.Doc{Entries: []api.Entry{others[1], x}}, api.Doc{Entries: []api.Entry{x, x, x}})
	for i, a := range docs {
		for k, b := range docs {
			if rss.Same(a, b) != (i == k) {
				t.Errorf("Same(%v, %v): %v", a, b, i != k)
			}
		}
		b := a
		b.Entries = append([]api.Entry{}, a.Entries...)
		if !rss.Same(a, b) {
			t.Errorf("Same(%v, ..): false", a)
		}
	}
}

// P10.3: texts of all sorts, in all places.
func TestEntriesAreClean(t *testing.T) {
	parts := []string{"", " ", "x", "\u00e4", "\u3000", "\xff", "&#1;", "&#127;x", "&amp;", strings.Repeat("\u20ac", 85), strings.Repeat("y", 254), strings.Repeat("z ", 255), strings.Repeat("\xfe", 171), strings.Repeat("\U0001f600", 128)}
	var texts []string
	for _, a := range parts {
		for _, b := range parts {
			texts = append(texts, a+b)
		}
	}
	clean := func(s string, most int) bool {
		return utf.Clean(s) == s && utf8.ValidString(s) && len(s) <= most
	}
	for i, a := range texts {
		b, c := texts[(i*31+7)%len(texts)], texts[(i*59+3)%len(texts)]
		head := tag("title", a) + tag("link", b)
		e := parsed(t, tag("rss", tag("channel", head+tag("item", head)+tag("item", tag("guid", c)+head)+tag("item", tag("guid", a)))))
		d, is := rss.Read(e)
		if !is || !clean(d.Title, 256) || !clean(d.Link, 512) {
			t.Fatalf("%q: %v", head, d)
		}
		for _, x := range d.Entries {
			if x.Guid == "" || !clean(x.Guid, 512) || !clean(x.Title, 256) || !clean(x.Link, 512) || x.Date != 0 || x.Dated {
				t.Fatalf("%q: %v", head, x)
			}
		}
		want := utf.Clean(strings.ReplaceAll(strings.ReplaceAll(strings.ReplaceAll(a, "&amp;", "&"), "&#127;", ""), "&#1;", "\ufffd"))
		for _, most := range []int{1, 2, 3, 100, 256, 512} { // no rune more would have had room
			s := rss.Field(e.Kids[0], "title", most)
			left, is := strings.CutPrefix(want, s)
			if next := strings.TrimLeft(left, " "); !is || len(s) > most || next != "" && len(s)+len(left)-len(next)+len(utf.Put(utf.Runes(next)[:1])) <= most {
				t.Fatalf("Field(%q, %d): %q", a, most, s)
			}
		}
	}
}
