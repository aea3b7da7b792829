package xml_test

import (
	"reflect"
	"slices"
	"strconv"
	"strings"
	"testing"
	"time"

	"newsstand/api"
	"newsstand/xml"
)

// same holds lists against each other by the library, nil and empty ones alike.
func same(a, b []api.Token) bool {
	return slices.EqualFunc(a, b, func(x, y api.Token) bool {
		if len(x.Attrs)+len(y.Attrs) == 0 {
			x.Attrs, y.Attrs = nil, nil
		}
		return reflect.DeepEqual(x, y)
	})
}

func reads(t *testing.T, s string, want ...api.Token) {
	t.Helper()
	if l, n, e := xml.Tokens(s); e != api.OK || n != len(s) || !same(l, want) {
		t.Errorf("Tokens(%.200q): %.200v, %d, %d", s, l, n, e)
	}
}

func refuses(t *testing.T, s string, at int, want api.Errno) {
	t.Helper()
	if l, n, e := xml.Tokens(s); e != want || n != at || len(l) != 0 {
		t.Errorf("Tokens(%.200q): %.200v, %d, %d", s, l, n, e)
	}
}

// P8.1: parts that are nothing, and texts.
func TestTexts(t *testing.T) {
	reads(t, "")
	reads(t, " ", word(" "))
	reads(t, "x", word("x"))
	reads(t, "a > b ]]> --> ?> \" ' / =", word("a > b ]]> --> ?> \" ' / ="))
	reads(t, "a &lt;b&gt; &amp;amp; &nbsp; &#0;", word("a <b> &amp; &nbsp; \ufffd"))
	reads(t, "\xff\r\n\x00", word("\xff\r\n\x00"))
	for _, s := range []string{
		"<!---->", "<!-- -->", "<!-- <a> & -- ->->-->", "<!-----!>-->", "<!--x--->", "<!--<!---->",
		"<??>", "<?x?>", "<?xml version='1.0'?>", "<? > ? <a> ??>", "<?<??>",
		"<!DOCTYPE>", "<!DOCTYPE rss>", "<!DOCTYPErss <a ] \"'>", "<!DOCTYPE\n>",
		"<![CDATA[]]>",
	} {
		reads(t, s)
		reads(t, s+s)
		reads(t, "x"+s, word("x"))
		reads(t, s+"y", word("y"))
		reads(t, "x"+s+"y"+s+s+"z", word("xyz"))
		reads(t, s+"<a>"+s+"</a>"+s, open("a"), shut("a"))
		reads(t, "&am"+s+"p;", word("&amp;")) // each text is read for itself
	}
	reads(t, "<!-- --> -->", word(" -->"))
	reads(t, "<!DOCTYPE a>]>", word("]>"))
	reads(t, "<!DOCTYPE a>[<?a?>", word("["))
}

// P8.1
func TestRawTexts(t *testing.T) {
	reads(t, "<![CDATA[x]]>", word("x"))
	reads(t, "<![CDATA[<a b='1'>&amp;</a>]]>", word("<a b='1'>&amp;</a>"))
	reads(t, "<![CDATA[<![CDATA[]]>]]>", word("<![CDATA[]]>"))
	reads(t, "<![CDATA[]]]]>", word("]]"))
	reads(t, "<![CDATA[]]]>>", word("]>"))
	reads(t, "<![CDATA[ ]] > ]>\xff]]>", word(" ]] > ]>\xff"))
	reads(t, "a<![CDATA[&lt;]]>&lt;", word("a&lt;<"))
	reads(t, "<![CDATA[a]]><![CDATA[]]><!-- --><![CDATA[b]]>", word("ab"))
	reads(t, "x<a/>y<![CDATA[z]]></b>", word("x"), open("a"), shut("a"), word("yz"), shut("b"))
	reads(t, "x<![CDATA[]]><a><![CDATA[]]></a>y", word("x"), open("a"), shut("a"), word("y"))
	refuses(t, "<![CDATA[", 0, api.ErrXml)
	refuses(t, "x<![CDATA[ ]] >", 1, api.ErrXml)
	refuses(t, "<a><![cdata[x]]>", 3, api.ErrXml)
	refuses(t, "<![CDATA x]]>", 0, api.ErrXml)
	refuses(t, "<![ CDATA[x]]>", 0, api.ErrXml)
}

// P8.1
func TestTags(t *testing.T) {
	reads(t, "<a b=\"1\">x<!-- -->y</a>", open("a", "b", "1"), word("xy"), shut("a"))
	reads(t, "<a>", open("a"))
	reads(t, "</a>", shut("a"))
	reads(t, "</a \t\r\n>", shut("a"))
	reads(t, "<a \t\r\n>", open("a"))
	reads(t, "<a/>", open("a"), shut("a"))
	reads(t, "<a \t\r\n/>", open("a"), shut("a"))
	reads(t, "<A><b></C>", open("A"), open("b"), shut("C")) // whether they fit together is not looked at here
	reads(t, "<_z9:A-.Z></_z9:A-.Z>", open("_z9:A-.Z"), shut("_z9:A-.Z"))
	reads(t, "<a::/>", open("a::"), shut("a::"))
	reads(t, "<a b='1'/>", open("a", "b", "1"), shut("a"))
	reads(t, "<a\tb\n=\r ''\nc=\"\"\r>", open("a", "b", "", "c", ""))
	reads(t, "<a b='>' c=\"/>\" d=' = '>", open("a", "b", ">", "c", "/>", "d", " = "))
	reads(t, "<a b='\"' c=\"'\">", open("a", "b", "\"", "c", "'"))
	reads(t, "<a b='&lt;&amp;lt;&nbsp;\n\xff'/>", open("a", "b", "<&lt;&nbsp;\n\xff"), shut("a"))
	reads(t, "<a b='&apos;' B='2' b:b='3' a='4'>", open("a", "b", "'", "B", "2", "b:b", "3", "a", "4"))
	reads(t, "<a>\n<b>1</b>\n</a>", open("a"), word("\n"), open("b"), word("1"), shut("b"), word("\n"), shut("a"))
	reads(t, "<a>></a>", open("a"), word(">"), shut("a"))
}

// P8.1: what is no part, alone, and with other parts ahead and behind, of which the latter do not matter.
func TestNoPart(t *testing.T) {
	for _, s := range []string{
		"<", "< ", "<>", "<a", "<a ", "<a b", "<a b=", "<a b='", "<a b='1", "<a b='1'", "<a b='1' ", "<a/", "<a /", "<\x00>", "<\xff>", "<\u00e4>", "<1>", "<:a>", "<-a>", "<.a>", "< a>", "<a!>", "<a\u00e4>", "<a\xff>", "<a;>",
		"<a/ >", "<a//>", "<a/b>", "<a / >", "<a=''>", "<a ='1'>", "<a b>", "<a b/>", "<a b >", "<a b c='1'>", "<a b=>", "<a b=c>", "<a b='>", "<a b=\"'>", "<a b='\">", "<a b=`1`>", "<a b:'1'>", "<a b=='1'>", "<a b='1'=>", "<a b='1''>", "<a 'b'='1'>",
		"<a b='1'c='2'>", "<a b='1'\"2\">", "<a b='1' b='1'>", "<a b='1' c='1' b='2'>", "<a b='<'>", "<a b='1<'>", "<a b=\"<b/>\">", "<a b='&lt;<'>", "<a <b>>", "<a 1='1'>", "<a :b='1'>", "<a \u00e4=''>", "<a b\u00a0=''>", "<a\u00a0b=''>", "<a\x0b>", "<a\x0c/>", "<a\u2028/>",
		"</", "</>", "</a", "</ a>", "</1>", "</:a>", "</a b>", "</a b='1'>", "</a/>", "</a\u00a0>", "</a\x0b>", "<//a>", "</\xff>",
		"<!", "<!>", "<!-", "<!->", "<!-- ", "<!-->", "<!--->", "<!-- ->", "<!-- -- >", "<! -- -->", "<!a>", "<!ELEMENT a>", "<!doctype a>", "<!Doctype>", "<! DOCTYPE>", "<!DOCTYP>",
		"<?", "<?>", "<?x", "<?x>", "<?x ? >", "<!DOCTYPE", "<!DOCTYPE a", "<!DOCTYPE a [>", "<!DOCTYPE[]>", "<!DOCTYPE a [<!ENTITY b 'c'>]>", "<![", "<![CDATA", "<![CDATA[", "<![CDATA[]>", "<![CDATA[]] >",
	} {
		refuses(t, s, 0, api.ErrXml)
		for _, ahead := range []string{"x", "<a>", "<a b='1'/>y", "<!-- --><?x?>\xff", "<![CDATA[<]]>", "</z>"} {
			refuses(t, ahead+s, len(ahead), api.ErrXml)
		}
	}
	refuses(t, "< <<", 0, api.ErrXml)
	refuses(t, "x<1><a/>", 1, api.ErrXml)
	refuses(t, "x<1><2>", 1, api.ErrXml)
	refuses(t, "x<1>"+strings.Repeat("<a/>", 9000), 1, api.ErrXml)
}

// P8.1, P8.2: names of each length.
func TestLongNames(t *testing.T) {
	for n := 1; n < 2*api.MaxTag; n++ {
		s := strings.Repeat("z", n)
		if n > 64 {
			refuses(t, "<"+s+">", 0, api.ErrXml)
			refuses(t, "</"+s+">", 0, api.ErrXml)
			refuses(t, "x<a "+s+"=''>", 1, api.ErrXml)
		} else {
			reads(t, "<"+s+"/></"+s+">", open(s), shut(s), shut(s))
			reads(t, "<a "+s+"=''>", open("a", s, ""))
		}
		if xml.Name(s) != (n <= 64) || xml.Name("9"+s) {
			t.Errorf("Name of %d bytes: %v", n, n > 64)
		}
	}
}

// attributes answers n of them, as they are written and names and values by turns.
func attributes(n int) (string, []string) {
	var b strings.Builder
	var l []string
	for i := range n {
		s := strconv.Itoa(i)
		b.WriteString(" n" + s + "=\"" + s + "\"")
		l = append(l, "n"+s, s)
	}
	return b.String(), l
}

// P8.1, P8.2
func TestManyAttributes(t *testing.T) {
	for _, n := range []int{0, 1, 2, 31, 32, 33, 34, 1000} {
		s, names := attributes(n)
		l := []api.Token{word("x"), open("a", names...), shut("a")}
		w, e := xml.Write(l)
		if n > 32 {
			refuses(t, "x<a"+s+"></a>", 1, api.ErrXml)
			if w != "" || e != api.ErrArg {
				t.Errorf("Write with %d attributes: %.100q, %d", n, w, e)
			}
			continue
		}
		reads(t, "x<a"+s+"></a>", l...)
		if w != "x<a"+s+"></a>" || e != api.OK {
			t.Errorf("Write with %d attributes: %.100q, %d", n, w, e)
		}
	}
	s, _ := attributes(31)
	refuses(t, "<a"+s+" n0=''>", 0, api.ErrXml)
	refuses(t, "<a"+s+" n30=''>", 0, api.ErrXml)
}

// P8.1
func TestLongDocuments(t *testing.T) {
	most := strings.Repeat("x", 65536)
	reads(t, most, word(most))
	reads(t, most[:65532]+"<a/>", word(most[:65532]), open("a"), shut("a"))
	refuses(t, most+"x", 0, api.ErrLong)
	refuses(t, "<"+most, 0, api.ErrLong)
	refuses(t, "x"+most[:65532]+"<a/>", 0, api.ErrLong)
	refuses(t, "<!--"+most+"-->", 0, api.ErrLong)
	refuses(t, most[:65535]+"<", 65535, api.ErrXml)
}

// P8.1
func TestManyTokens(t *testing.T) {
	tags := strings.Repeat("<a>", 8192)
	n := len(tags)
	full := slices.Repeat([]api.Token{open("a")}, 8192)
	reads(t, tags, full...)
	refuses(t, tags+"<a>", n, api.ErrLong)
	refuses(t, tags+"</a>", n, api.ErrLong)
	refuses(t, tags+"<a/>", n, api.ErrLong)
	refuses(t, tags+"x", n, api.ErrLong)
	refuses(t, tags+"<![CDATA[x]]>", n, api.ErrLong)
	refuses(t, tags+"<!-- -->x", n+8, api.ErrLong)
	refuses(t, tags+"<1>", n, api.ErrXml)
	refuses(t, tags+"x<1>", n, api.ErrLong) // the first of both counts
	refuses(t, tags+"<a><1>", n, api.ErrLong)
	refuses(t, tags+"<!-- --><1>", n+8, api.ErrXml)
	reads(t, tags+"<!-- --><?x?><!DOCTYPE a><![CDATA[]]>", full...)
	refuses(t, tags[3:]+"<a/>", n-3, api.ErrLong) // a part of two tokens
	reads(t, tags[6:]+"<a/>", append(slices.Clone(full[2:]), open("a"), shut("a"))...)
	reads(t, tags[3:]+"x<!-- -->y<![CDATA[z]]>", append(slices.Clone(full[1:]), word("xyz"))...) // one text, whatever it is made of
	refuses(t, tags[3:]+"x<!-- --><a>", n-3+9, api.ErrLong)
	refuses(t, strings.Repeat("<a/>", 4097), 4*4096, api.ErrLong)
	reads(t, strings.Repeat("<a/>", 4096), slices.Repeat([]api.Token{open("a"), shut("a")}, 4096)...)
	reads(t, strings.Repeat("x<??>", 13107), word(strings.Repeat("x", 13107)))
}

// P8.1: held against the library's expressions.
func TestAllTexts(t *testing.T) {
	check := func(s string) {
		l, n, e := xml.Tokens(s)
		if m, k, f := want(s); n != k || e != f || !same(l, m) {
			t.Fatalf("Tokens(%q): %v, %d, %d, not %v, %d, %d", s, l, n, e, m, k, f)
		}
	}
	each(check)
	each(func(s string) { check("x<a b = '1'" + s + "/>") })
}

// P8.1: each byte in place of one of a document, and between two of them.
func TestEachByte(t *testing.T) {
	s := "x<a b='&lt;' c = \"'\">&amp;<!-- - --><?x?><!DOCTYPE a><![CDATA[&]]></a ><b/>"
	for i := range s {
		for x := range 256 {
			for _, behind := range []string{s[i:], s[i+1:]} {
				other := s[:i] + string([]byte{byte(x)}) + behind
				l, n, e := xml.Tokens(other)
				if m, k, f := want(other); n != k || e != f || !same(l, m) {
					t.Fatalf("Tokens(%q): %v, %d, %d, not %v, %d, %d", other, l, n, e, m, k, f)
				}
			}
		}
	}
}

// P8.2
func TestName(t *testing.T) {
	for _, s := range []string{"a", "Z", "_", "a:b", "x-1.0", "_:.-9", "A0z", "a::"} {
		if !xml.Name(s) {
			t.Errorf("Name(%q): false", s)
		}
	}
	for _, s := range []string{"", " ", "1", ":", "-", ".", ":a", "-a", "a b", "a ", " a", "a\n", "\u00e4", "a\u00e4", "\xff", "a\xff", "a/", "a>", "a=", "a&", "\u212a", "a\x00"} {
		if xml.Name(s) {
			t.Errorf("Name(%q): true", s)
		}
	}
	const begins, goesOn = "ABCDEFGHIJKLMNOPQRSTUVWXYZabcdefghijklmnopqrstuvwxyz_", "0123456789:-."
	for c := rune(0); c < 0x11000; c++ {
		first := strings.ContainsRune(begins, c)
		if xml.Name(string(c)) != first || xml.Name("a"+string(c)) != (first || strings.ContainsRune(goesOn, c)) {
			t.Errorf("Name with %x: %v", c, xml.Name(string(c)))
		}
	}
	if xml.Name(strings.Repeat("a", 1<<24)) {
		t.Error("a long name")
	}
}

// R1: what is long, and of nothing but what begins something, is gone through in a moment.
func TestSlowTexts(t *testing.T) {
	began := time.Now()
	for _, part := range []string{"&", "&#", "]", "<??>", "<!---->", "x<??>", "<![CDATA[", "<![CDATA[]]>", "<!--", "<a ", "<a a='", "<a>", "a", " ", "-", "[", "\xff"} {
		for _, ahead := range []string{"", "<a ", "<!--", "<?", "<!DOCTYPE", "<![CDATA[", "<a b='"} {
			s := ahead + strings.Repeat(part, (65536-len(ahead))/len(part))
			if l, n, e := xml.Tokens(s); e == api.OK && n != len(s) || e != api.OK && (len(l) > 0 || n > len(s)) {
				t.Errorf("Tokens(%.40q): %d, %d", s, n, e)
			}
		}
	}
	if d := time.Since(began); d > 20*time.Second {
		t.Error(d)
	}
}
