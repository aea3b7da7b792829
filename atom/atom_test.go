package atom_test

import (
	"strings"
	"testing"

	"newsstand/api"
	"newsstand/atom"
	"newsstand/tree"
)

// parsed is the element of a text.
func parsed(t *testing.T, s string) api.Element {
	t.Helper()
	e, f := tree.Parse(s)
	if f != api.OK {
		t.Fatalf("%.200q: %d", s, f)
	}
	return e
}

// tag answers the text of an element.
func tag(name, inner string) string {
	return "<" + name + ">" + inner + "</" + name + ">"
}

// href answers the text of a link.
func href(value string) string {
	return "<link href='" + value + "'/>"
}

// P11.1
func TestLink(t *testing.T) {
	for inner, want := range map[string]string{
		"":                                     "",
		"text":                                 "",
		"<link/>":                              "",
		"<link>a</link>":                       "", // as RSS has it
		"<link href='a'/>":                     "a",
		"<link href='a'>b</link>":              "a",
		"<link href='a'/><link href='b'/>":     "a",
		"<b/><link href='a'/>":                 "a",
		"<b><link href='a'/></b>":              "",
		"<b href='a'/>":                        "",
		"<link><link href='a'/></link>":        "",
		"<links href='a'/>":                    "",
		"<Link href='a'/>":                     "",
		"<x:link href='a'/>":                   "a",
		"<link:x href='a'/>":                   "",
		"<link rel='self' href='a'/>":          "",
		"<link href='a' rel='self'/>":          "",
		"<link rel='alternate' href='a'/>":     "a",
		"<link href='a' rel='alternate'/>":     "a",
		"<link rel='Alternate' href='a'/>":     "",
		"<link rel=' alternate' href='a'/>":    "",
		"<link rel='alternates' href='a'/>":    "",
		"<link rel='' href='a'/>":              "", // it is there
		"<link rel='&#97;lternate' href='a'/>": "a",
		"<link x:rel='self' href='a'/>":        "a", // another attribute
		"<link Rel='self' href='a'/>":          "a",
		"<link x:href='a'/>":                   "",
		"<link HREF='a'/>":                     "",
		"<link type='text/html' hreflang='de' href='a' title='t'/>":                                       "a",
		"<link rel='self' href='a'/><link href='b'/>":                                                     "b",
		"<link href='a'/><link rel='alternate' href='b'/>":                                                "a",
		"<link rel='alternate' href='a'/><link href='b'/>":                                                "a",
		"<link rel='alternate'/><link href='b'/>":                                                         "b",
		"<link/><link>c</link><link rel='x' href='a'/><x:link rel='alternate' href='b'/><link href='d'/>": "b",
		"<link href=''/><link href='b'/>":                                                                 "", // the first one counts, whatever its href is
		"<link href=' &#160; '/><link href='b'/>":                                                         "",
		"<link href=' a\n\tb&#x3000;c '/>":                                                                "a b c",
		"<link href='a?b=c&amp;d=&quot;'/>":                                                               "a?b=c&d=\"",
		"<link href='a&#127;&#128;b&#0;'/>":                                                               "ab\ufffd",
		"<link href='\xff\xfe'/>":                                                                         "\ufffd\ufffd",
		href(strings.Repeat("l", 511)):                                                                    strings.Repeat("l", 511),
		href(strings.Repeat("l", 512)):                                                                    strings.Repeat("l", 512),
		href(strings.Repeat("l", 513)):                                                                    strings.Repeat("l", 512),
		href(strings.Repeat("l", 511) + " l"):                                                             strings.Repeat("l", 511), // clean again
		href(strings.Repeat(" ", 600) + "a"):                                                              "a",                      // cut behind it was made clean
		href(strings.Repeat("l  ", 171) + "\u20ac"):                                                       strings.Repeat("l ", 171) + "\u20ac",
		href("l" + strings.Repeat("\u00e4", 256)):                                                         "l" + strings.Repeat("\u00e4", 255),
		href(strings.Repeat("\U0001f600", 129)):                                                           strings.Repeat("\U0001f600", 128),
		href(strings.Repeat("\xff", 171)):                                                                 strings.Repeat("\ufffd", 170), // counted as it is clean
		"<link rel='x' " + href(strings.Repeat("x", 600))[6:] + href("b"):                                 "b",
	} {
		if s := atom.Link(parsed(t, tag("e", inner))); s != want {
			t.Errorf("Link(%.200q): %q", inner, s)
		}
	}
	if s := atom.Link(parsed(t, "<link href='a'/>")); s != "" { // not the element itself
		t.Error(s)
	}
	if s := atom.Link(api.Element{}); s != "" {
		t.Error(s)
	}
}

// P11.1: of elements that no text has, the first attribute of a name counts.
func TestLinkOfAttributesThatAreThereTwice(t *testing.T) {
	for _, c := range []struct {
		attrs []api.Attr
		want  string
	}{
		{[]api.Attr{{Name: "href", Value: "a"}, {Name: "href", Value: "b"}}, "a"},
		{[]api.Attr{{Name: "rel", Value: "alternate"}, {Name: "rel", Value: "self"}, {Name: "href", Value: "a"}}, "a"},
		{[]api.Attr{{Name: "rel", Value: "self"}, {Name: "rel", Value: "alternate"}, {Name: "href", Value: "a"}}, ""},
		{[]api.Attr{{Name: "", Value: "a"}, {Name: "rel", Value: "alternate"}}, ""},
	} {
		e := api.Element{Kids: []api.Element{{Name: "link", Attrs: c.attrs}}}
		if s := atom.Link(e); s != c.want {
			t.Errorf("Link of %v: %q", c.attrs, s)
		}
	}
}

// P11.1
func TestMoment(t *testing.T) {
	for _, c := range []struct {
		inner string
		want  int
		is    bool
	}{
		{"", 0, false},
		{"1970-01-01T00:00:01Z", 0, false},
		{"<updated/>", 0, false},
		{"<updated>1970-01-01T00:00:01Z</updated>", 1, true},
		{"<published>1970-01-01T00:00:02Z</published>", 2, true},
		{"<issued>1970-01-01T00:00:03Z</issued>", 3, true},
		{"<updated>1970-01-01T00:00:00Z</updated>", 0, true},
		{"<updated>1969-12-31T23:59:59Z</updated>", -1, true},
		{"<updated>2001-09-09t03:46:40.123+02:00</updated>", 1000000000, true},
		{"<updated>0001-01-01T00:00:00Z</updated>", -62135596800, true},
		{"<updated>9999-12-31T23:59:59Z</updated>", 253402300799, true},
		{"<updated> \n1970-01-01T00:00:01Z\x01&#160; </updated>", 1, true}, // clean
		{"<updated>" + strings.Repeat(" ", 600) + "1970-01-01T00:00:01Z</updated>", 1, true},
		{"<updated>1970-01-01T00:<b>x</b>00:01Z</updated>", 1, true},
		{"<updated><b>1970-01-01T00:00:01Z</b></updated>", 0, false},
		{"<b><updated>1970-01-01T00:00:01Z</updated></b>", 0, false},
		{"<x:updated>1970-01-01T00:00:01Z</x:updated>", 1, true},
		{"<updated:x>1970-01-01T00:00:01Z</updated:x>", 0, false},
		{"<Updated>1970-01-01T00:00:01Z</Updated>", 0, false},
		{"<modified>1970-01-01T00:00:01Z</modified><created>1970-01-01T00:00:01Z</created><date>1970-01-01T00:00:01Z</date><pubDate>1970-01-01T00:00:01Z</pubDate>", 0, false},
		{"<issued>1970-01-01T00:00:03Z</issued><published>1970-01-01T00:00:02Z</published><updated>1970-01-01T00:00:01Z</updated>", 1, true}, // not as they stand
		{"<issued>1970-01-01T00:00:03Z</issued><published>1970-01-01T00:00:02Z</published>", 2, true},
		{"<updated>x</updated><issued>1970-01-01T00:00:03Z</issued><published>1970-01-01T00:00:02Z</published>", 2, true},
		{"<updated/><published> </published><issued>1970-01-01T00:00:03Z</issued>", 3, true},
		{"<updated>1970-02-29T00:00:00Z</updated><published>1970-01-01T00:00:02Z</published>", 2, true},
		{"<updated>0001-01-01T00:00:00+00:01</updated><issued>1970-01-01T00:00:03Z</issued>", 3, true},
		{"<updated>x</updated><updated>1970-01-01T00:00:01Z</updated>", 0, false}, // the first one of a name counts
		{"<updated>x</updated><updated>1970-01-01T00:00:01Z</updated><issued>1970-01-01T00:00:03Z</issued>", 3, true},
		{"<x:issued>x</x:issued><issued>1970-01-01T00:00:03Z</issued>", 0, false},
		{"<updated>Thu, 01 Jan 1970 00:00:01 GMT</updated>", 0, false}, // dates of the mail do not count
		{"<published>Thu, 01 Jan 1970 00:00:01 GMT</published>", 0, false},
		{"<issued>1 Jan 1970 00:00 Z</issued>", 0, false},
		{"<updated>Thu, 01 Jan 1970 00:00:01 GMT</updated><published>1 Jan 70 00:00 Z</published><issued>1970-01-01T00:00:03Z</issued>", 3, true},
		{"<updated>Thu, 01 Jan 1970 00:00:01 GMT</updated><published>1970-01-01T00:00:02Z</published>", 2, true},
		{"<updated>1970-01-01</updated><published>1970-01-01 00:00:02Z</published><issued>1970</issued>", 0, false},
	} {
		if n, is := atom.Moment(parsed(t, tag("entry", c.inner))); n != c.want || is != c.is {
			t.Errorf("Moment(%.200q): %d, %v", c.inner, n, is)
		}
	}
	if n, is := atom.Moment(api.Element{}); n != 0 || is {
		t.Error(n, is)
	}
}

// P11.1
func TestEntry(t *testing.T) {
	for inner, want := range map[string]api.Entry{
		"<title>A</title>":                                                    {Guid: "A", Title: "A"},
		"<link href='l'/>":                                                    {Guid: "l", Link: "l"},
		"<id>i</id>":                                                          {Guid: "i"},
		"<title>A</title><link href='l'/>":                                    {Guid: "l", Title: "A", Link: "l"},
		"<title>A</title><id>i</id>":                                          {Guid: "i", Title: "A"},
		"<link href='l'/><id>i</id>":                                          {Guid: "i", Link: "l"},
		"<id>i</id><title>A</title><link href='l'/>":                          {Guid: "i", Title: "A", Link: "l"},
		"<title>A</title><link>l</link>":                                      {Guid: "A", Title: "A"},
		"<title>A</title><link rel='self' href='l'/>":                         {Guid: "A", Title: "A"},
		"<title>A</title><guid>g</guid>":                                      {Guid: "A", Title: "A"},
		"<id/><id>i</id><link href='l'/>":                                     {Guid: "l", Link: "l"},
		"<id> \n</id><link href=' '/><title> A\tB </title>":                   {Guid: "A B", Title: "A B"},
		"<x:id>i</x:id><id>j</id>":                                            {Guid: "i"},
		"<x:title>A</x:title><title>B</title>":                                {Guid: "A", Title: "A"},
		"<id>i<b>j</b>k</id><title>A<b>B</b>C</title>":                        {Guid: "ik", Title: "AC"},
		"<title type='html'>&lt;b&gt;A&amp;amp;</title>":                      {Guid: "<b>A&amp;", Title: "<b>A&amp;"},
		"<id>i</id><updated>1970-01-01T00:00:05Z</updated>":                   {Guid: "i", Date: 5, Dated: true},
		"<id>i</id><updated>1970-01-01T00:00:00Z</updated>":                   {Guid: "i", Dated: true},
		"<id>i</id><updated>x</updated><issued>1969-12-31T23:59:58Z</issued>": {Guid: "i", Date: -2, Dated: true},
		"<id>i</id><updated>1 Jan 1970 00:01 GMT</updated>":                   {Guid: "i"},
		"<id>i</id><pubDate>1970-01-01T00:00:05Z</pubDate>":                   {Guid: "i"},
		"<title>" + strings.Repeat("t", 256) + "</title>":                     {Guid: strings.Repeat("t", 256), Title: strings.Repeat("t", 256)},
		"<title>" + strings.Repeat("t", 257) + "</title>":                     {Guid: strings.Repeat("t", 256), Title: strings.Repeat("t", 256)},
		"<title>" + strings.Repeat("t", 255) + " t</title>":                   {Guid: strings.Repeat("t", 255), Title: strings.Repeat("t", 255)},
		"<id>" + strings.Repeat("i", 512) + "</id>":                           {Guid: strings.Repeat("i", 512)},
		"<id>" + strings.Repeat("i", 513) + "</id>":                           {Guid: strings.Repeat("i", 512)},
		"<id>" + strings.Repeat("i", 511) + "\u00e4</id>":                     {Guid: strings.Repeat("i", 511)},
		href(strings.Repeat("l", 513)):                                        {Guid: strings.Repeat("l", 512), Link: strings.Repeat("l", 512)},
	} {
		for _, name := range []string{"entry", "x:entry"} {
			if x, is := atom.Entry(parsed(t, tag(name, inner))); !is || x != want {
				t.Errorf("Entry(%.200q): %v, %v", inner, x, is)
			}
		}
	}
}

// P11.1: what is no entry tells nothing, not even a date.
func TestNoEntry(t *testing.T) {
	for _, inner := range []string{
		"", "x", "<summary>x</summary>", "<title/>", "<title> \n&#160;\x01</title><link href=''/><id>&#127;</id>", "<title/><title>A</title>", "<b><title>A</title></b>", "<id><b>i</b></id>",
		"<updated>1970-01-01T00:00:05Z</updated>", "<link>l</link>", "<link rel='self' href='l'/>", "<link href=' '/><link href='l'/>", "<guid>g</guid><Id>i</Id><TITLE>A</TITLE>",
	} {
		if x, is := atom.Entry(parsed(t, tag("entry", inner))); is || x != (api.Entry{}) {
			t.Errorf("Entry(%q): %v, %v", inner, x, is)
		}
	}
	if x, is := atom.Entry(api.Element{}); is || x != (api.Entry{}) {
		t.Error(x, is)
	}
}
