package opml_test

import (
	"math/rand"
	"reflect"
	"strings"
	"testing"

	"newsstand/api"
	"newsstand/opml"
)

// folder answers an outline without a Url.
func folder(title string, kids ...api.Outline) api.Outline {
	return api.Outline{Title: title, Kids: kids}
}

// from answers an outline that has a Url.
func from(title, url string) api.Outline {
	return api.Outline{Title: title, Url: url}
}

// list answers outlines.
func list(l ...api.Outline) []api.Outline {
	return l
}

// bare answers l with nil in place of lists that are empty.
func bare(l []api.Outline) []api.Outline {
	var m []api.Outline
	for _, o := range l {
		o.Kids = bare(o.Kids)
		m = append(m, o)
	}
	return m
}

// equal holds outlines against each other by the library.
func equal(a, b []api.Outline) bool {
	return reflect.DeepEqual(bare(a), bare(b))
}

// deep answers n outlines, each within the one ahead of it, and last within them.
func deep(n int, last ...api.Outline) []api.Outline {
	l := last
	for range n {
		l = list(folder("n", l...))
	}
	return l
}

// many answers n outlines beside each other.
func many(n int) []api.Outline {
	var l []api.Outline
	for range n {
		l = append(l, folder("m"))
	}
	return l
}

// around answers a list whose outlines have that list itself as kids.
func around(n int) []api.Outline {
	l := many(n)
	for i := range l {
		l[i].Kids = l
	}
	return l
}

// right are lists that may be.
var right = [][]api.Outline{
	nil,
	{},
	list(folder("a")),
	list(from("a", "b")),
	list(folder("tech", from("A", "u"))),
	list(folder("a", folder("b", from("c", "d"), folder("e")), from("f", "g")), from("h", "i"), folder("j")),
	list(folder("a"), folder("a"), from("a", "b"), from("a", "b")), // nothing is asked for to be there once
	list(folder("a b"), from("\u00e4\ufffd\U0001f600", "\u00e4\ufffd\U0001f600")),
	list(folder(strings.Repeat("t", 256)), from(strings.Repeat("t", 256), strings.Repeat("u", 512))),
	list(folder(strings.Repeat("\u00e4", 128)), from(strings.Repeat("\U0001f600", 64), strings.Repeat("\U0001f600", 128))),
	list(folder("<a> & \"b\" 'c' &amp; ]]>"), from("<!-- & -->", "http://u/?a=b&c=\"d\"&#65;")),
	list(api.Outline{Title: "a", Url: "b", Kids: []api.Outline{}}),
	deep(8),
	deep(7, from("a", "b"), folder("c")),
	deep(7, api.Outline{Title: "a", Kids: []api.Outline{}}),
	many(512),
	list(folder("a", many(511)...)),
	append(many(256), folder("a", many(255)...)),
	append(deep(8), many(504)...),
	deep(7, many(505)...),
}

// notClean are texts of which none is clean and right.
var notClean = []string{" ", " a", "a ", "a  b", "a\tb", "a\nb", "\ra", "a\u00a0b", "a\u3000b", "a\u2028b", "\x00", "a\x1f", "a\x7f", "a\u0080b", "a\u009f", "\xff", "a\xc3", "\xed\xa0\x80", "\xf4\x90\x80\x80"}

// wrong answers lists that may not be.
func wrong() [][]api.Outline {
	l := [][]api.Outline{
		list(api.Outline{}),
		list(from("", "u")),
		list(folder("", folder("a"))),
		list(folder("a"), api.Outline{}, folder("b")),
		list(api.Outline{Title: "a", Url: "b", Kids: list(folder("c"))}),
		list(api.Outline{Title: "a", Url: "b", Kids: list(from("c", "d"))}),
		list(folder("a", api.Outline{Title: "a", Url: "b", Kids: list(folder("c"))})),
		list(folder("a", folder("b", api.Outline{}))),
		deep(9), deep(10), deep(100), deep(8, from("a", "b")), append(many(3), deep(9)...), list(folder("a", append(many(3), deep(8)...)...)),
		many(513), many(5000), list(folder("a", many(512)...)), append(many(512), folder("a")), append(deep(8), many(505)...), deep(7, many(506)...),
		append(many(256), folder("a", many(256)...)), // also where no list alone has too many
		around(1), around(2), around(512),
	}
	for _, s := range append(notClean, strings.Repeat("x", 257), strings.Repeat("\u00e4", 128)+"x", strings.Repeat("\U0001f600", 65)) {
		l = append(l, list(folder(s)), list(from(s, "u")), list(folder("a", folder("b", from(s, "u")))))
	}
	for _, s := range append(notClean, strings.Repeat("x", 513), strings.Repeat("\u00e4", 256)+"x", strings.Repeat("\U0001f600", 129)) {
		l = append(l, list(from("a", s)), list(folder("a"), folder("a", folder("b", from("c", s)))))
	}
	return l
}

// P13.2
func TestListsThatMayBe(t *testing.T) {
	for i, l := range right {
		if e := opml.Check(l); e != api.OK {
			t.Errorf("%d: Check(%.200v): %d", i, l, e)
		}
	}
}

// P13.2
func TestListsThatMayNotBe(t *testing.T) {
	for i, l := range wrong() {
		if e := opml.Check(l); e != api.ErrOpml {
			t.Errorf("%d: Check: %d", i, e)
		}
		if s, e := opml.Write(l); e != api.ErrOpml || s != "" {
			t.Errorf("%d: Write: %.200q, %d", i, s, e)
		}
	}
}

// P13.2
func TestFeeds(t *testing.T) {
	kept := api.Outline{Title: "a", Url: "b", Kids: list(folder("c", from("d", "e")), from("f", "g"))}
	for i, c := range []struct{ l, want []api.Outline }{
		{nil, nil},
		{[]api.Outline{}, nil},
		{list(folder("a"), folder("b", folder("c"))), nil},
		{list(from("a", "b")), list(from("a", "b"))},
		{list(from("c", "d"), from("a", "b"), from("c", "d")), list(from("c", "d"), from("a", "b"), from("c", "d"))},
		{
			list(folder("a", from("b", "1"), folder("c", from("d", "2"), folder("e"), from("f", "3")), from("g", "4")), from("h", "5"), folder("i", from("j", "6"))),
			list(from("b", "1"), from("d", "2"), from("f", "3"), from("g", "4"), from("h", "5"), from("j", "6")),
		},
		{list(from("", " "), folder("", from("\xff", "\xff"))), list(from("", " "), from("\xff", "\xff"))}, // also of what may not be
		{list(kept, from("h", "i")), list(kept, from("d", "e"), from("f", "g"), from("h", "i"))},
		{deep(7, from("a", "b")), list(from("a", "b"))},
		{deep(8, from("a", "b")), nil},
		{append(deep(20, from("a", "b")), from("c", "d")), list(from("c", "d"))},
		{list(folder("x", append(deep(6, from("a", "b")), deep(7, from("c", "d"))...)...)), list(from("a", "b"))},
		{around(1), nil},
		{around(3), nil},
	} {
		if l := opml.Feeds(c.l); !equal(l, c.want) {
			t.Errorf("%d: Feeds(%.200v): %v", i, c.l, l)
		}
	}
	within := list(from("a", "b"))
	within[0].Kids = within
	if l := opml.Feeds(within); len(l) != 8 || l[7].Url != "b" {
		t.Error(len(l))
	}
	if l := opml.Feeds(append(many(1000), from("a", "b"))); !equal(l, list(from("a", "b"))) {
		t.Error(l)
	}
}

// P13.2
func TestSame(t *testing.T) {
	l := [][]api.Outline{
		nil,
		list(api.Outline{}),
		list(folder("a")), list(folder("b")), list(folder("a ")), list(folder("A")), list(from("", "a")),
		list(from("a", "b")), list(from("b", "a")), list(from("a", "c")), list(from("a", "a")),
		list(folder("a"), folder("a")), list(folder("a"), folder("b")), list(folder("b"), folder("a")), list(folder("a"), folder("b"), folder("c")),
		list(folder("a", folder("b"))), list(folder("a", folder("c"))), list(folder("b", folder("a"))), list(folder("a", folder("b"), folder("c"))), list(folder("a", folder("c"), folder("b"))), list(folder("a", folder("b", folder("c")))), list(folder("a", folder("b")), folder("c")),
		list(folder("a", from("b", "c"))), list(api.Outline{Title: "a", Url: "c", Kids: list(folder("b"))}), list(folder("a", from("b", "d"))),
		list(folder("\xff")), list(folder("\xfe")), list(folder("\ufffd")),
		deep(7), deep(8), deep(7, from("n", "u")), deep(7, folder("m")), deep(7, folder("n"), folder("n")),
		many(600), many(601),
	}
	for i, a := range l {
		for k, b := range l {
			if opml.Same(a, b) != (i == k) || opml.Same(bare(a), b) != (i == k) {
				t.Errorf("Same of %d, %d: %v", i, k, i != k)
			}
		}
	}
	if !opml.Same(list(api.Outline{Kids: []api.Outline{}}), list(api.Outline{})) || !opml.Same([]api.Outline{}, nil) {
		t.Error("nil and empty lists")
	}
}

// P13.2: beyond the greatest depth nothing is the same.
func TestSameOfWhatIsTooDeep(t *testing.T) {
	for n := 1; n <= 12; n++ {
		a, b := deep(n-1, from("a", "b")), deep(n-1, from("a", "b"))
		if opml.Same(a, b) != (n <= 8) || opml.Same(a, a) != (n <= 8) {
			t.Error(n, n > 8)
		}
		a, b = append(many(2), a...), append(many(2), b...)
		if opml.Same(a, b) != (n <= 8) {
			t.Error(n, n > 8)
		}
	}
	if opml.Same(deep(8), deep(9)) || opml.Same(deep(9), deep(8)) || opml.Same(around(1), around(1)) || opml.Same(around(5), around(5)) || opml.Same(around(1), deep(8)) {
		t.Error("without an end")
	}
}

// R3: what is handed in is not changed, and nothing of it is kept.
func TestNothingIsChanged(t *testing.T) {
	all := list(folder("a", from("b", "c"), from("d", "e")), from("f", "g"), from("h", "i"), from("behind", "it"))
	before := list(folder("a", from("b", "c"), from("d", "e")), from("f", "g"), from("h", "i"), from("behind", "it"))
	l := all[1:3]
	feeds := opml.Feeds(l)
	feeds[0].Title = "wrong"
	_ = append(feeds, from("wrong", "wrong"))
	feeds = opml.Feeds(all)
	feeds[0].Title = "wrong"
	if _, e := opml.Write(all); e != api.OK || opml.Check(l) != api.OK || !opml.Same(all, before) || !equal(all, before) {
		t.Error(e, all)
	}
	const s = "<opml><body><outline text='a'><outline text='b' xmlUrl='c'/></outline></body></opml>"
	x, _ := opml.Read(s)
	x[0].Kids[0].Title = "wrong"
	if again, _ := opml.Read(s); !equal(again, list(folder("a", from("b", "c")))) {
		t.Error(again)
	}
}

// mayBe is the rule of the chapter, as it stands; it answers how many outlines there are, too.
func mayBe(l []api.Outline, depth int) (int, bool) {
	n, all := 0, true
	for _, o := range l {
		k, may := mayBe(o.Kids, depth+1)
		n += 1 + k
		all = all && may && depth <= 8 && o.Title != "" && cleaned(o.Title) && len(o.Title) <= 256 && cleaned(o.Url) && len(o.Url) <= 512 && (o.Url == "" || len(o.Kids) == 0)
	}
	return n, all && n <= 512
}

// cleaned tells whether the library has s as it is, of the texts of random.
func cleaned(s string) bool {
	return strings.Join(strings.Fields(s), " ") == s && !strings.Contains(s, "\xff")
}

// random answers outlines of at most so many levels; at times they may not be.
func random(r *rand.Rand, levels int, good bool) []api.Outline {
	titles := []string{"a", "b c", "\u00e4", "&<>\"'", strings.Repeat("x", 256), "", " a", "\xff", strings.Repeat("x", 257)}
	urls := []string{"", "", "u", "u v", "&amp;", strings.Repeat("y", 512), strings.Repeat("y", 513), "b\n", "\xff"}
	pick := func(l []string, wrong int) string {
		if good || r.Intn(6) > 0 {
			return l[r.Intn(len(l)-wrong)]
		}
		return l[r.Intn(len(l))]
	}
	var l []api.Outline
	if levels == 0 {
		return nil
	}
	for range r.Intn(4) {
		o := from(pick(titles, 4), pick(urls, 3))
		if o.Url == "" || !good && r.Intn(20) == 0 {
			o.Kids = random(r, levels-1, good)
		}
		l = append(l, o)
	}
	return l
}

// P13.2: many lists, held against the rules.
func TestManyLists(t *testing.T) {
	r := rand.New(rand.NewSource(13))
	seen := map[api.Errno]int{}
	for range 5000 {
		l := random(r, 1+r.Intn(10), r.Intn(3) == 0)
		want := api.OK
		if _, may := mayBe(l, 1); !may {
			want = api.ErrOpml
		}
		seen[want]++
		if e := opml.Check(l); e != want {
			t.Fatalf("Check(%v): %d", l, e)
		}
		other := random(r, 2, true)
		if opml.Same(l, other) != equal(l, other) {
			t.Fatalf("Same(%v, %v): %v", l, other, opml.Same(l, other))
		}
	}
	if seen[api.OK] < 500 || seen[api.ErrOpml] < 500 {
		t.Error(seen)
	}
}
