package opml_test

import (
	"strings"
	"testing"

	"newsstand/api"
	"newsstand/opml"
)

// body answers a document whose body has that within it.
func body(inner string) string {
	return "<opml><body>" + inner + "</body></opml>"
}

// P13.1: what is within a body, and its outlines.
func TestRead(t *testing.T) {
	x := func(s string, n int) string { return strings.Repeat(s, n) }
	for inner, want := range map[string][]api.Outline{
		"":         nil,
		"text":     nil,
		"<a/>":     nil,
		" \n ":     nil,
		"<!-- -->": nil,
		"<outline text='A'><outline text='B' xmlUrl='b'/></outline>": list(folder("A", from("B", "b"))),
		"<outline text='A'/>":                                    list(folder("A")),
		"<outline text='A' xmlUrl='a'/>":                         list(from("A", "a")),
		"<outline xmlUrl='a' text='A'></outline>":                list(from("A", "a")),
		"<x:outline text='A'/>":                                  list(folder("A")),
		"<x:y:outline text='A'/>":                                list(folder("A")),
		"<outline:x text='A'/>":                                  nil,
		"<Outline text='A'/>":                                    nil,
		"<outlines text='A'/>":                                   nil,
		"<a text='A'/>":                                          nil,
		"<a><outline text='A'/></a>":                             nil, // straight within alone
		"<outline text='A'><a><outline text='B'/></a></outline>": list(folder("A")),
		"x<outline text='C'/>y<b/><outline text='A'>z</outline><outline text='B'/>":                          list(folder("C"), folder("A"), folder("B")),
		"<outline text='A'/><outline text='A'/>":                                                             list(folder("A"), folder("A")),
		"<outline text='A'><x:outline text='B'><outline text='C'/></x:outline><outline text='D'/></outline>": list(folder("A", folder("B", folder("C")), folder("D"))),

		// the Title
		"<outline title='T'/>":                                       list(folder("T")),
		"<outline text='A' title='T'/>":                              list(folder("A")),
		"<outline title='T' text='A'/>":                              list(folder("A")),
		"<outline text='' title='T'/>":                               list(folder("T")),
		"<outline text=' &#9;&#160;' title='T'/>":                    list(folder("T")), // empty, as it is clean
		"<outline text='&#127;' title='T'/>":                         list(folder("T")),
		"<outline text='&#0;' title='T'/>":                           list(folder("\ufffd")),
		"<outline text='' title='' xmlUrl='a'/>":                     list(from("a", "a")),
		"<outline text=' ' title=' ' xmlUrl='a'/>":                   list(from("a", "a")),
		"<outline title='T' xmlUrl='a'/>":                            list(from("T", "a")),
		"<outline Text='A' Title='T' TEXT='X'/>":                     nil,
		"<outline x:text='A' x:title='T'/>":                          nil, // by whole names
		"<outline name='A'>B<title>C</title></outline>":              nil,
		"<outline text=' a\n\tb&#x3000;c '/>":                        list(folder("a b c")),
		"<outline text='a&lt;b&gt;&amp;amp;&quot;&apos;&nbsp;'/>":    list(folder("a<b>&amp;\"'&nbsp;")),
		"<outline text='\xff\xfe'/>":                                 list(folder("\ufffd\ufffd")),
		"<outline text='" + x("t", 256) + "'/>":                      list(folder(x("t", 256))),
		"<outline text='" + x("t", 257) + "'/>":                      list(folder(x("t", 256))),
		"<outline title='" + x("t", 257) + "'/>":                     list(folder(x("t", 256))),
		"<outline text='" + x("t", 255) + " t'/>":                    list(folder(x("t", 255))), // clean again
		"<outline title='" + x("t", 255) + " t'/>":                   list(folder(x("t", 255))),
		"<outline text='" + x(" ", 300) + "a' title='T'/>":           list(folder("a")), // cut behind it was made clean
		"<outline text='" + x("t  ", 85) + "\u00e4'/>":               list(folder(x("t ", 85) + "\u00e4")),
		"<outline text='a" + x("\u00e4", 128) + "'/>":                list(folder("a" + x("\u00e4", 127))),
		"<outline text='" + x("\xff", 86) + "'/>":                    list(folder(x("\ufffd", 85))), // counted as it is clean
		"<outline text='" + x("\U0001f600", 65) + "' title='T'/>":    list(folder(x("\U0001f600", 64))),
		"<outline text='A'/><outline title='A' xmlUrl='http://u/'/>": list(folder("A"), from("A", "http://u/")),

		// the Url
		"<outline text='A' xmlUrl=''/>":                                     list(folder("A")),
		"<outline text='A' xmlUrl=' &#10;'/>":                               list(folder("A")),
		"<outline text='A' xmlUrl=''><outline text='B'/></outline>":         list(folder("A", folder("B"))),
		"<outline text='A' xmlurl='a' xmlURL='a' url='a' htmlUrl='a'/>":     list(folder("A")),
		"<outline text='A' x:xmlUrl='a'/>":                                  list(folder("A")),
		"<outline text='A' xmlUrl=' a&#9;b  c '/>":                          list(from("A", "a b c")),
		"<outline text='A' xmlUrl='a?b&amp;c=\"'/>":                         list(from("A", "a?b&c=\"")),
		"<outline text='A' xmlUrl='a\xff'/>":                                list(from("A", "a\ufffd")),
		"<outline text='A' xmlUrl='" + x("u", 512) + "'/>":                  list(from("A", x("u", 512))),
		"<outline text='A' xmlUrl='" + x("u", 513) + "'/>":                  list(from("A", x("u", 512))),
		"<outline text='A' xmlUrl='" + x("u", 511) + " u'/>":                list(from("A", x("u", 511))),
		"<outline text='A' xmlUrl='u" + x("\u00e4", 256) + "'/>":            list(from("A", "u"+x("\u00e4", 255))),
		"<outline xmlUrl=' b '/>":                                           list(from("b", "b")),
		"<outline xmlUrl='" + x("u", 256) + "'/>":                           list(from(x("u", 256), x("u", 256))),
		"<outline xmlUrl='" + x("u", 257) + "'/>":                           list(from(x("u", 256), x("u", 257))),
		"<outline xmlUrl='" + x("u", 600) + "'/>":                           list(from(x("u", 256), x("u", 512))),
		"<outline xmlUrl='" + x("u", 255) + " v'/>":                         list(from(x("u", 255), x("u", 255)+" v")),
		"<outline xmlUrl='u" + x("\u00e4", 128) + "'/>":                     list(from("u"+x("\u00e4", 127), "u"+x("\u00e4", 128))),
		"<outline xmlUrl='" + x("\U0001f600", 150) + "'/>":                  list(from(x("\U0001f600", 64), x("\U0001f600", 128))),
		"<outline text='A' xmlUrl='a'><outline text='B'/></outline>":        list(from("A", "a")), // no kids
		"<outline xmlUrl='a'><outline text='B' xmlUrl='b'/></outline>":      list(from("a", "a")),
		"<outline type='rss' text='A' htmlUrl='h' xmlUrl='a' version='2'/>": list(from("A", "a")),

		// what is passed over
		"<outline/>":                             nil,
		"<outline text='' title='' xmlUrl=''/>":  nil,
		"<outline><outline text='A'/></outline>": nil,
		"<outline text=' '><outline text='A' xmlUrl='a'/></outline><outline text='B'/>":             list(folder("B")),
		"<outline text='A'><outline><outline text='B'/></outline><outline text='C'/></outline>":     list(folder("A", folder("C"))),
		"<outline/>" + x("<outline/>", 1000) + "<outline text='A'/>":                                list(folder("A")),
		"<outline>" + x("<outline text='a'>", 20) + x("</outline>", 20) + "</outline>":              nil,
		"<outline text='A' xmlUrl='a'>" + x("<outline text='a'>", 20) + x("</outline>", 21):         list(from("A", "a")),
		"<outline text='A' xmlUrl='a'>" + x("<outline text='a'/>", 1000) + "</outline>":             list(from("A", "a")),
		"<outline>" + x("<outline text='a'/>", 1000) + "</outline>" + x("<outline text='m'/>", 512): many(512),
	} {
		if l, e := opml.Read(body(inner)); e != api.OK || !equal(l, want) {
			t.Errorf("Read of %.200q: %v, %d", inner, l, e)
		}
	}
}

// P13.1: where the outlines of a document are.
func TestReadOfDocuments(t *testing.T) {
	a := list(folder("A"))
	for s, want := range map[string][]api.Outline{
		"<opml><body/></opml>":                                                                             nil,
		"<opml><head/><body><outline text='A'/></body></opml>":                                             a,
		"<opml><body><outline text='A'/></body><head/></opml>":                                             a,
		"<x:opml><y:body><z:outline text='A'/></y:body></x:opml>":                                          a,
		"<opml version='1.0'>x<head><title>T</title></head>y<body z='1'><outline text='A'/></body></opml>": a,
		"<opml><body><outline text='A'/></body><body><outline text='B'/></body></opml>":                    a,
		"<opml><body/><body><outline text='B'/></body></opml>":                                             nil, // the first one counts, whatever is in it
		"<opml><Body><outline text='B'/></Body><x:body><outline text='A'/></x:body></opml>":                a,
		"<opml><head><body><outline text='B'/></body></head><body><outline text='A'/></body></opml>":       a,
		"<opml><outline text='B'/><body><outline text='A'/></body></opml>":                                 a,
		" \n<?xml version='1.0'?><!DOCTYPE opml><!-- --><opml><body><outline text='A'/></body></opml>\t":   a,
	} {
		if l, e := opml.Read(s); e != api.OK || !equal(l, want) {
			t.Errorf("Read(%q): %v, %d", s, l, e)
		}
	}
}

// P13.1: what is no document of outlines.
func TestReadOfOthers(t *testing.T) {
	for s, want := range map[string]api.Errno{
		"":                                       api.ErrTree,
		" ":                                      api.ErrTree,
		"text":                                   api.ErrTree,
		"<opml>":                                 api.ErrTree,
		"<opml><body></opml>":                    api.ErrTree,
		"<opml><body/></opml><opml/>":            api.ErrTree,
		"<opml><body/></opml>x":                  api.ErrTree,
		"<opml><body/></opml":                    api.ErrXml,
		"<opml><body a></body></opml>":           api.ErrXml,
		body("<outline text='<'/>"):              api.ErrXml,
		body("<outline text='a' text='b'/>"):     api.ErrXml,
		body(strings.Repeat(" ", 1<<16)):         api.ErrLong,
		body(strings.Repeat("<outline/>", 4096)): api.ErrLong,
		body(strings.Repeat("<outline>", 31) + strings.Repeat("</outline>", 31)): api.ErrTree,
		"<opml/>":                           api.ErrOpml,
		"<opml>body</opml>":                 api.ErrOpml,
		"<opml body=''/>":                   api.ErrOpml,
		"<opml><head/></opml>":              api.ErrOpml,
		"<opml><Body/></opml>":              api.ErrOpml,
		"<opml><body:x/></opml>":            api.ErrOpml,
		"<opml><head><body/></head></opml>": api.ErrOpml,
		"<opml><outline text='A'/></opml>":  api.ErrOpml,
		"<OPML><body/></OPML>":              api.ErrOpml,
		"<opml:x><body/></opml:x>":          api.ErrOpml,
		"<opmls><body/></opmls>":            api.ErrOpml,
		"<rss><body/></rss>":                api.ErrOpml,
		"<rss><channel/></rss>":             api.ErrOpml,
		"<body><outline text='A'/></body>":  api.ErrOpml,
		"<x><opml><body/></opml></x>":       api.ErrOpml,
	} {
		if l, e := opml.Read(s); e != want || len(l) != 0 {
			t.Errorf("Read(%.200q): %v, %d", s, l, e)
		}
	}
}

// P13.1: how many outlines there may be, and how deep.
func TestReadAtTheLimits(t *testing.T) {
	nest := func(n int, inner string) string {
		return strings.Repeat("<outline text='n'>", n) + inner + strings.Repeat("</outline>", n)
	}
	const one = "<outline text='m'/>"
	many := strings.Repeat
	for _, c := range []struct {
		inner string
		want  api.Errno
		n     int
	}{
		{nest(7, ""), api.OK, 7},
		{nest(8, ""), api.OK, 8},
		{nest(9, ""), api.ErrOpml, 0},
		{nest(30, ""), api.ErrOpml, 0},
		{one + nest(9, "") + one, api.ErrOpml, 0},
		{nest(7, "<outline xmlUrl='u'/>"), api.OK, 8},
		{nest(8, "<outline xmlUrl='u'/>"), api.ErrOpml, 0},
		{nest(8, "<outline/><a/>"), api.OK, 8}, // what is passed over is no deeper one
		{nest(8, "<outline>"+one+"</outline>"), api.OK, 8},
		{nest(7, "<outline xmlUrl='u'>"+one+"</outline>"), api.OK, 8},
		{many(one, 511), api.OK, 511},
		{many(one, 512), api.OK, 512},
		{many(one, 513), api.ErrOpml, 0},
		{many(one, 3000), api.ErrOpml, 0},
		{nest(1, many(one, 511)), api.OK, 512},
		{nest(1, many(one, 512)), api.ErrOpml, 0},
		{nest(7, many(one, 505)), api.OK, 512},
		{nest(7, many(one, 506)), api.ErrOpml, 0},
		{nest(2, many(one, 200)) + many(one, 310), api.OK, 512},
		{nest(2, many(one, 200)) + many(one, 311), api.ErrOpml, 0},
		{many(one+"<outline/>", 512), api.OK, 512},
		{many("<outline text='m'><outline xmlUrl='u'/></outline>", 256), api.OK, 512},
		{many("<outline text='m'><outline xmlUrl='u'/></outline>", 256) + one, api.ErrOpml, 0},
	} {
		l, e := opml.Read(body(c.inner))
		if n, may := mayBe(l, 1); e != c.want || n != c.n || !may {
			t.Errorf("Read of %.200q: %d outlines, %d", c.inner, n, e)
		}
	}
}
