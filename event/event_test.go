package event_test

import (
	"math"
	"strings"
	"testing"

	"newsstand/api"
	"newsstand/event"
)

// The first and the last moment.
const (
	first = -62135596800
	last  = 253402300799
)

// table is the chapter's: what A, B, N, S, T, U are, by kinds.
var table = map[int][6]string{
	1:  {"id", "id or 0", "", "label", "", ""},
	2:  {"id", "", "", "", "", ""},
	3:  {"id", "id or 0", "", "place", "title", ""},
	4:  {"id", "", "", "", "", ""},
	5:  {"id", "", "", "", "title", ""},
	6:  {"id", "id or 0", "", "", "", ""},
	7:  {"id", "id", "moment", "place", "title", "link"},
	8:  {"id", "", "flag", "", "", ""},
	9:  {"id", "", "flag", "", "", ""},
	10: {"id", "", "flag", "tag", "", ""},
	11: {"id", "", "", "label", "query", ""},
	12: {"id", "", "", "", "", ""},
	13: {"", "", "moment", "", "", ""},
}

// numbers are some, with what they may be.
var numbers = map[int]string{
	math.MinInt:   "",
	-1<<53 + 1:    "",
	first - 1:     "",
	first:         "moment",
	-1 << 20:      "moment",
	-1:            "moment",
	0:             "nothing, id or 0, moment, flag",
	1:             "id, id or 0, moment, flag",
	2:             "id, id or 0, moment",
	3:             "id, id or 0, moment",
	1<<20 - 1:     "id, id or 0, moment",
	1 << 20:       "id, id or 0, moment",
	1<<20 + 1:     "moment",
	1 << 32:       "moment",
	1<<32 + 1:     "moment",
	last:          "moment",
	last + 1:      "",
	math.MaxInt:   "",
	math.MaxInt32: "moment",
}

// texts are some, with what they may be.
var texts = map[string]string{
	"":                                  "nothing, title, link",
	"a":                                 "label, tag, title, link, place, query",
	"go":                                "label, tag, title, link, place, query",
	"7":                                 "label, tag, title, link, place, query",
	"\u00e4\u20ac\U0001f600":            "label, tag, title, link, place, query",
	"Go":                                "label, title, link, place, query",
	"\u00c4":                            "label, title, link, place, query",
	"a b":                               "label, title, link, place, query",
	"a-b":                               "label, title, link, place, query",
	"a.":                                "label, title, link, place, query",
	"http://u/?a=b&c=\"<\\'":            "label, title, link, place, query",
	"?":                                 "label, title, link, place, query",
	"\ufffd":                            "label, title, link, place, query",
	"\u200b":                            "label, title, link, place, query",
	strings.Repeat("x", 32):             "label, tag, title, link, place, query",
	strings.Repeat("x", 33):             "label, title, link, place, query", // no word, as it is too long
	strings.Repeat("x", 64):             "label, title, link, place, query",
	strings.Repeat("x", 65):             "title, link, place, query",
	strings.Repeat("\u00e4", 32):        "label, tag, title, link, place, query",
	strings.Repeat("\u00e4", 31) + "x":  "label, tag, title, link, place, query",
	strings.Repeat("\u20ac", 21):        "label, tag, title, link, place, query",
	strings.Repeat("\u20ac", 22):        "title, link, place, query", // a word, but too many bytes
	strings.Repeat("\U0001f600", 16):    "label, tag, title, link, place, query",
	strings.Repeat("\U0001f600", 17):    "title, link, place, query",
	strings.Repeat("x ", 32):            "", // a blank is last
	strings.Repeat("x ", 32) + "x":      "title, link, place, query",
	strings.Repeat("x ", 31) + "xy":     "label, title, link, place, query",
	strings.Repeat("x", 256):            "title, link, place, query",
	strings.Repeat("\u00e4", 128):       "title, link, place, query",
	strings.Repeat("x", 257):            "link, place, query",
	strings.Repeat("\u00e4", 128) + "x": "link, place, query",
	strings.Repeat("x", 512):            "link, place, query",
	strings.Repeat("\u00e4", 256):       "link, place, query",
	strings.Repeat("x", 513):            "",
	strings.Repeat("\u00e4", 256) + "x": "",
	strings.Repeat("x", 1<<17):          "",
	" ":                                 "",
	" a":                                "",
	"a ":                                "",
	"a  b":                              "",
	"a\tb":                              "",
	"a\nb":                              "",
	"a\r":                               "",
	"a\u00a0b":                          "",
	"a\u3000b":                          "",
	"\u2028":                            "",
	"\x00":                              "",
	"a\x1fb":                            "",
	"a\x7f":                             "",
	"a\u0080b":                          "",
	"\u009f":                            "",
	"\xff":                              "",
	"a\xc3":                             "",
	"\xe2\x82":                          "",
	"\xed\xa0\x80":                      "",
	"\xf4\x90\x80\x80":                  "",
}

// is tells whether what may be those may be what; the field of a kind that does not use it is nothing.
func is(those, what string) bool {
	if what == "" {
		what = "nothing"
	}
	return strings.Contains(", "+those+",", ", "+what+",")
}

// mayBe is the rule of the chapter, as it stands, for events of those numbers and texts.
func mayBe(e api.Event) bool {
	row, kind := table[e.Kind]
	return kind && is(numbers[e.A], row[0]) && is(numbers[e.B], row[1]) && is(numbers[e.N], row[2]) && is(texts[e.S], row[3]) && is(texts[e.T], row[4]) && is(texts[e.U], row[5])
}

// good are events that may be, of each kind.
var good = []api.Event{
	{Kind: 1, A: 1, S: "a"}, {Kind: 1, A: 2, B: 1, S: "a b"}, {Kind: 1, A: 3, B: 3, S: "a"}, // whether it fits, a later layer tells
	{Kind: 2, A: 1},
	{Kind: 3, A: 1, S: "a"}, {Kind: 3, A: 2, B: 1, S: "a", T: "Go"},
	{Kind: 4, A: 1},
	{Kind: 5, A: 1}, {Kind: 5, A: 1, T: "Go"},
	{Kind: 6, A: 1}, {Kind: 6, A: 1, B: 1},
	{Kind: 7, A: 1, B: 1, S: "a"}, {Kind: 7, A: 1, B: 2, N: -1, S: "a", T: "a b", U: "?"},
	{Kind: 8, A: 1}, {Kind: 8, A: 1, N: 1},
	{Kind: 9, A: 1}, {Kind: 9, A: 1, N: 1},
	{Kind: 10, A: 1, S: "go"}, {Kind: 10, A: 1, N: 1, S: "go"},
	{Kind: 11, A: 1, S: "a b", T: "Go"},
	{Kind: 12, A: 1},
	{Kind: 13}, {Kind: 13, N: -1},
}

// set answers e with another field: A, B, N by numbers, S, T, U by texts, in this order.
func set(e api.Event, field, n int, s string) api.Event {
	switch field {
	case 0:
		e.A = n
	case 1:
		e.B = n
	case 2:
		e.N = n
	case 3:
		e.S = s
	case 4:
		e.T = s
	case 5:
		e.U = s
	}
	return e
}

// others hands on e with each of the numbers, or of the texts, in a field.
func others(e api.Event, field int, see func(e api.Event)) {
	if field < 3 {
		for n := range numbers {
			see(set(e, field, n, ""))
		}
		return
	}
	for s := range texts {
		see(set(e, field, 0, s))
	}
}

// P14.1: events that may be, each with other things in one field, and in two.
func TestCheck(t *testing.T) {
	check := func(e api.Event) {
		want := api.ErrEvent
		if mayBe(e) {
			want = api.OK
		}
		if got := event.Check(e); got != want {
			t.Fatalf("Check(%.200v): %d", e, got)
		}
	}
	for _, e := range good {
		if got := event.Check(e); got != api.OK || !mayBe(e) {
			t.Errorf("Check(%v): %d", e, got)
		}
		for field := range 6 {
			others(e, field, func(one api.Event) {
				check(one)
				if field%3 == 0 && len(one.S) < 100 {
					others(one, field+1, check)
					others(one, field+2, check)
				}
			})
		}
	}
}

// P14.1: what is of no kind, whatever else it is.
func TestCheckOfNoKind(t *testing.T) {
	for _, e := range good {
		for _, kind := range []int{math.MinInt, -13, -1, 0, 14, 15, 20, 100, 1 << 32, 1<<32 + 1, math.MaxInt} {
			e.Kind = kind
			if got := event.Check(e); got != api.ErrEvent {
				t.Errorf("Check(%v): %d", e, got)
			}
		}
	}
	if got := event.Check(api.Event{}); got != api.ErrEvent {
		t.Error(got)
	}
}

// P14.1: nothing that a kind does not use.
func TestCheckOfFieldsThatAreNotUsed(t *testing.T) {
	for _, e := range good {
		row := table[e.Kind]
		for field, what := range row {
			one := set(e, field, 1, "a")
			if want := map[bool]api.Errno{true: api.ErrEvent, false: api.OK}[what == ""]; event.Check(one) != want {
				t.Errorf("Check(%v): %d", one, event.Check(one))
			}
		}
	}
}

// P14.1
func TestTexts(t *testing.T) {
	for s, those := range texts {
		for what, got := range map[string]bool{"label": event.Label(s), "tag": event.Tag(s), "title": event.Title(s), "link": event.Link(s), "query": event.Query(s)} {
			if got != is(those, what) {
				t.Errorf("%.200q is a %s: %v", s, what, got)
			}
		}
	}
}

// P14.1: each ID, and each rune in a text.
func TestEachIDAndEachRune(t *testing.T) {
	for n := -10; n < 1<<20+10; n++ {
		want := api.OK
		if n < 1 || n > 1<<20 {
			want = api.ErrEvent
		}
		if got := event.Check(api.Event{Kind: api.EvUnfeed, A: n}); got != want {
			t.Fatalf("the ID %d: %d", n, got)
		}
	}
	for c := range rune(0x3100) {
		s := "x" + string(c) + "y"
		blank := strings.ContainsRune("\t\n\r\u00a0\u2028\u2029\u3000", c)
		clean := !blank && c >= 32 && (c < 127 || c > 159)
		if event.Title(s) != clean || event.Link(s) != clean || event.Label(s) != clean || event.Query(s) != clean || !clean && event.Tag(s) {
			t.Fatalf("%q: %v, %v, %v, %v, %v", s, event.Title(s), event.Link(s), event.Label(s), event.Query(s), event.Tag(s))
		}
	}
}
