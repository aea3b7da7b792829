package feed_test

import (
	"math"
	"slices"
	"strconv"
	"strings"
	"testing"

	"newsstand/api"
	"newsstand/feed"
	"newsstand/rss"
)

// The first and the last moment.
const (
	first = -62135596800
	last  = 253402300799
)

// right are feeds that may be written.
var right = []api.Doc{
	{},
	{Title: "N"},
	{Link: "n"},
	{Title: "a b", Link: "c d", Entries: []api.Entry{{Guid: "g h", Title: "i j", Link: "k l"}}},
	{Title: strings.Repeat("t", 256), Link: strings.Repeat("l", 512), Entries: []api.Entry{{Guid: strings.Repeat("g", 512), Title: strings.Repeat("t", 256), Link: strings.Repeat("l", 512)}}},
	{Title: strings.Repeat("\u00e4", 128), Link: "l\ufffd", Entries: []api.Entry{{Guid: "\U0001f600"}}},
	{Entries: []api.Entry{{Guid: "a"}, {Guid: "A"}, {Guid: "b", Title: "a", Link: "a"}}},
	{Entries: []api.Entry{{Guid: "a", Dated: true}, {Guid: "b", Date: 1, Dated: true}, {Guid: "c", Date: -1, Dated: true}, {Guid: "d", Date: first, Dated: true}, {Guid: "e", Date: last, Dated: true}}},
	{Title: "<a> & \"b\" 'c' &amp; ]]>", Link: "<!-- & -->", Entries: []api.Entry{{Guid: "&#65;", Title: "</title>", Link: "?a=b&c=d"}}},
	{Title: "N", Entries: numbered(256)},
}

// wrong are texts of which none is clean and right.
var wrong = []string{" ", " a", "a ", "a  b", "a\tb", "a\nb", "\ra", "a\u00a0b", "a\u3000b", "a\u2028b", "\x00", "a\x1f", "a\x7f", "a\u0080b", "a\u009f", "\xff", "a\xc3", "\xed\xa0\x80", "\xf4\x90\x80\x80"}

// P12.2
func TestCheckOfFeedsThatMayBe(t *testing.T) {
	for _, d := range right {
		if e := feed.Check(d); e != api.OK {
			t.Errorf("Check(%.200v): %d", d, e)
		}
	}
}

// refused wants d to be neither checked nor written.
func refused(t *testing.T, d api.Doc) {
	t.Helper()
	if e := feed.Check(d); e != api.ErrFeed {
		t.Errorf("Check(%.200v): %d", d, e)
	}
	if s, e := feed.Write(d); e != api.ErrFeed || s != "" {
		t.Errorf("Write(%.200v): %.200q, %d", d, s, e)
	}
}

// with answers a feed whose second entry, of three, is x.
func with(x api.Entry) api.Doc {
	return api.Doc{Title: "N", Entries: []api.Entry{{Guid: "a"}, x, {Guid: "c"}}}
}

// P12.2
func TestFeedsThatMayNotBe(t *testing.T) {
	refused(t, api.Doc{Entries: numbered(257)})
	refused(t, api.Doc{Entries: numbered(10000)})
	refused(t, with(api.Entry{}))
	refused(t, with(api.Entry{Title: "A", Link: "l"}))
	refused(t, with(api.Entry{Guid: "a", Title: "A"}))
	refused(t, with(api.Entry{Guid: "c", Title: "A"}))
	refused(t, api.Doc{Entries: append(numbered(255), api.Entry{Guid: "0"})})
	refused(t, api.Doc{Entries: append(numbered(255), api.Entry{})})
	for _, s := range wrong {
		refused(t, api.Doc{Title: s})
		refused(t, api.Doc{Link: s})
		refused(t, with(api.Entry{Guid: s}))
		refused(t, with(api.Entry{Guid: "b", Title: s}))
		refused(t, with(api.Entry{Guid: "b", Link: s}))
	}
	for _, s := range []string{"x", "\u00e4", "\U0001f600"} {
		title := strings.Repeat(s, 256/len(s)) + "x"
		link := strings.Repeat(s, 512/len(s)) + "x"
		refused(t, api.Doc{Title: title})
		refused(t, api.Doc{Link: link})
		refused(t, with(api.Entry{Guid: link}))
		refused(t, with(api.Entry{Guid: "b", Title: title}))
		refused(t, with(api.Entry{Guid: "b", Link: link}))
	}
	for _, n := range []int{first - 1, last + 1, math.MinInt, math.MaxInt} {
		refused(t, with(api.Entry{Guid: "b", Date: n, Dated: true}))
		refused(t, with(api.Entry{Guid: "b", Date: n}))
	}
	for _, n := range []int{1, -1, first, last} {
		refused(t, with(api.Entry{Guid: "b", Date: n}))
	}
}

// P12.2
func TestWrite(t *testing.T) {
	for _, c := range []struct {
		d    api.Doc
		want string
	}{
		{api.Doc{}, "<rss><channel><title></title><link></link></channel></rss>"},
		{api.Doc{Title: "N", Link: "n"}, "<rss><channel><title>N</title><link>n</link></channel></rss>"},
		{api.Doc{Entries: []api.Entry{{Guid: "g"}}}, "<rss><channel><title></title><link></link><item><guid>g</guid><title></title><link></link></item></channel></rss>"},
		{
			api.Doc{Title: "<N>", Link: "a&b", Entries: []api.Entry{{Guid: "'g'", Title: "\"A\"", Link: "&amp;", Dated: true}, {Guid: "h \u00e4", Title: "H", Link: "l"}, {Guid: "i", Date: 1234567890, Dated: true}}},
			"<rss><channel><title>&lt;N&gt;</title><link>a&amp;b</link>" +
				"<item><guid>&apos;g&apos;</guid><title>&quot;A&quot;</title><link>&amp;amp;</link><pubDate>1970-01-01T00:00:00Z</pubDate></item>" +
				"<item><guid>h \u00e4</guid><title>H</title><link>l</link></item>" +
				"<item><guid>i</guid><title></title><link></link><pubDate>2009-02-13T23:31:30Z</pubDate></item>" +
				"</channel></rss>",
		},
		{api.Doc{Entries: []api.Entry{{Guid: "a", Date: first, Dated: true}}}, "<rss><channel><title></title><link></link><item><guid>a</guid><title></title><link></link><pubDate>0001-01-01T00:00:00Z</pubDate></item></channel></rss>"},
	} {
		if s, e := feed.Write(c.d); s != c.want || e != api.OK {
			t.Errorf("Write(%v): %q, %d", c.d, s, e)
		}
	}
}

// undone wants d to be read as it is written, but what is too long.
func undone(t *testing.T, d api.Doc) {
	t.Helper()
	s, e := feed.Write(d)
	if e != api.OK {
		t.Fatalf("Write(%.200v): %d", d, e)
	}
	x, e := feed.Parse(s)
	if len(s) > api.MaxDoc {
		if e != api.ErrLong {
			t.Fatalf("Parse of %d bytes: %d", len(s), e)
		}
		return
	}
	if e != api.OK || !equal(x, d) || !rss.Same(x, d) {
		t.Fatalf("Parse(%.200q): %.200v, %d", s, x, e)
	}
}

// P12.3: what is written is read.
func TestWhatIsWrittenIsRead(t *testing.T) {
	for _, d := range right {
		undone(t, d)
	}
	texts := []string{"", "a", "a b", "\u00e4\ufffd\U0001f600", "&", "&lt;", "<", "]]>", "<![CDATA[", "<!--", "'\"", "&#32;", "&#0;x", "1970-01-01T00:00:00Z"}
	dates := []int{first, -86401, -1, 0, 1, 951825600, last}
	for i, a := range texts {
		for k, b := range texts {
			dated := (i+k)%3 > 0
			x := api.Entry{Guid: "g" + a, Title: b, Link: texts[(i+k)%len(texts)], Dated: dated}
			y := api.Entry{Guid: b + "h", Title: a, Link: b, Date: dates[(i+k)%len(dates)], Dated: true}
			if dated {
				x.Date = dates[i%len(dates)]
			}
			undone(t, api.Doc{Title: a, Link: b, Entries: []api.Entry{x, y}})
		}
	}
}

// P12.3: a document of many entries, up to what may be read, and beyond.
func TestLongDocuments(t *testing.T) {
	entries := numbered(256)
	for i := range entries {
		entries[i].Title = "t" + strconv.Itoa(i)
		entries[i].Link = "l" + strconv.Itoa(i)
		entries[i].Date = i
		entries[i].Dated = true
	}
	undone(t, api.Doc{Entries: entries})
	s, _ := feed.Write(api.Doc{Entries: entries})
	missing := api.MaxDoc - len(s)
	for i := range entries {
		n := min(missing, 500)
		entries[i].Link += strings.Repeat("x", n)
		missing -= n
	}
	undone(t, api.Doc{Entries: entries})
	if s, _ := feed.Write(api.Doc{Entries: entries}); len(s) != api.MaxDoc {
		t.Error(len(s))
	}
	undone(t, api.Doc{Title: "N", Entries: entries}) // by a byte too long
	for i := range entries {
		entries[i].Title = strings.Repeat("'", 256)
	}
	undone(t, api.Doc{Entries: entries})
}

// P12.3: what is read of any document may be written, and is read again.
func TestWhatIsReadMayBeWritten(t *testing.T) {
	for s := range feeds {
		d, _ := feed.Parse(s)
		undone(t, d)
	}
	parts := []string{"", " ", "x", "\u00e4", "\u3000", "\xff", "&#1;", "&#127;x", "&amp;", "&lt;&amp;lt;", "1970-01-01T00:00:00Z", "1 Jan 1970 00:00 Z", strings.Repeat("\u20ac", 85), strings.Repeat("y", 254), strings.Repeat("z ", 255), strings.Repeat("\xfe", 171)}
	var texts []string
	for _, a := range parts {
		for _, b := range parts {
			texts = append(texts, a+b)
		}
	}
	for i, a := range texts {
		b, c, date := texts[(i*31+7)%len(texts)], texts[(i*59+3)%len(texts)], parts[(i*5+1)%len(parts)]
		ofRss := tag("title", a) + tag("link", b)
		ofAtom := tag("title", a) + "<link href='" + b + "'/>"
		for _, s := range []string{
			tag("rss", tag("channel", ofRss+tag("item", ofRss+tag("pubDate", date))+tag("item", tag("guid", c)+ofRss)+tag("item", tag("guid", a)+tag("date", date)))),
			tag("feed", ofAtom+tag("entry", ofAtom+tag("updated", date))+tag("entry", tag("id", c)+ofAtom)+tag("entry", tag("id", a)+tag("issued", date))),
		} {
			d, e := feed.Parse(s)
			if e != api.OK || feed.Check(d) != api.OK || !slices.Equal(feed.Once(d.Entries), d.Entries) {
				t.Fatalf("Parse(%q): %v, %d", s, d, e)
			}
			undone(t, d)
		}
	}
}
