package event_test

import (
	"math"
	"strconv"
	"strings"
	"testing"

	"newsstand/api"
	"newsstand/event"
)

// named are the names of all kinds, from 1 on.
const named = "folder unfolder feed unfeed title move item read star tag search unsearch clock"

// noKinds are some numbers that are none of kinds.
var noKinds = []int{math.MinInt, -1 << 32, -100, -13, -1, 0, 14, 15, 26, 100, 1 << 32, 1<<32 + 1, math.MaxInt}

// P14.2
func TestName(t *testing.T) {
	l := strings.Split(named, " ")
	for i, name := range l {
		if s := event.Name(i + 1); s != name {
			t.Errorf("Name(%d): %q", i+1, s)
		}
	}
	if event.Name(api.EvFolder) != "folder" || event.Name(api.EvItem) != "item" || event.Name(api.EvClock) != "clock" {
		t.Error("the kinds' order")
	}
	for _, kind := range noKinds {
		if s := event.Name(kind); s != "" {
			t.Errorf("Name(%d): %q", kind, s)
		}
	}
}

// P14.2
func TestShow(t *testing.T) {
	for e, want := range map[api.Event]string{
		{Kind: api.EvFolder, A: 1, S: "tech"}:                                                 `folder 1 0 0 "tech" "" ""`,
		{Kind: api.EvUnfolder, A: 2}:                                                          `unfolder 2 0 0 "" "" ""`,
		{Kind: api.EvFeed, A: 1, S: "u"}:                                                      `feed 1 0 0 "u" "" ""`,
		{Kind: api.EvUnfeed, A: api.MaxID}:                                                    `unfeed 1048576 0 0 "" "" ""`,
		{Kind: api.EvTitle, A: 3, T: "a b"}:                                                   `title 3 0 0 "" "a b" ""`,
		{Kind: api.EvMove, A: 3, B: 4}:                                                        `move 3 4 0 "" "" ""`,
		{Kind: api.EvItem, A: 1, B: 2, N: -3, S: "a", T: "b", U: "c"}:                         `item 1 2 -3 "a" "b" "c"`,
		{Kind: api.EvItem, A: 9, B: 8, N: first, S: `"`, T: `\`, U: `\"\\""`}:                 `item 9 8 -62135596800 "\"" "\\" "\\\"\\\\\"\""`,
		{Kind: api.EvRead, A: 10, N: 1}:                                                       `read 10 0 1 "" "" ""`,
		{Kind: api.EvStar, A: 5, N: 1}:                                                        `star 5 0 1 "" "" ""`,
		{Kind: api.EvTag, A: 5, S: "\u00e4"}:                                                  "tag 5 0 0 \"\u00e4\" \"\" \"\"",
		{Kind: api.EvSearch, A: 1, S: "mine", T: `tag:"a b"`}:                                 `search 1 0 0 "mine" "tag:\"a b\"" ""`,
		{Kind: api.EvUnsearch, A: 1}:                                                          `unsearch 1 0 0 "" "" ""`,
		{Kind: api.EvClock, N: last}:                                                          `clock 0 0 253402300799 "" "" ""`,
		{Kind: api.EvClock, A: -1, B: -20, N: 0, S: "\xff\"\xfe", T: "a\nb\x00", U: "'`/<&>"}: "clock -1 -20 0 \"\xff\\\"\xfe\" \"a\nb\x00\" \"'`/<&>\"", // also what may not be, as it stands
		{Kind: api.EvRead, A: math.MinInt, B: math.MaxInt, N: -math.MaxInt}:                   `read -9223372036854775808 9223372036854775807 -9223372036854775807 "" "" ""`,
		{Kind: api.EvMove, S: "\ufffd", T: "\xe2\x82\\", U: "\\n"}:                            "move 0 0 0 \"\ufffd\" \"\xe2\x82\\\\\" \"\\\\n\"",
		{}: "?",
	} {
		if s := event.Show(e); s != want {
			t.Errorf("Show(%v): %s", e, s)
		}
	}
}

// P14.2
func TestShowOfNoKind(t *testing.T) {
	for _, kind := range noKinds {
		for _, e := range []api.Event{{Kind: kind}, {Kind: kind, A: 1, B: 2, N: 3, S: "s", T: "t", U: "u"}} {
			if s := event.Show(e); s != "?" {
				t.Errorf("Show(%v): %q", e, s)
			}
		}
	}
}

// seen answers the event that was shown as s: what stands between two " is read up to the next one that is not marked.
func seen(t *testing.T, s string) api.Event {
	t.Helper()
	var e api.Event
	l := strings.SplitN(s, " ", 5)
	for i, name := range strings.Split(named, " ") {
		if name == l[0] {
			e.Kind = i + 1
		}
	}
	for i, into := range []*int{&e.A, &e.B, &e.N} {
		n, err := strconv.Atoi(l[i+1])
		if err != nil {
			t.Fatalf("%q: %v", s, err)
		}
		*into = n
	}
	rest := " " + l[4]
	for _, into := range []*string{&e.S, &e.T, &e.U} {
		if !strings.HasPrefix(rest, ` "`) {
			t.Fatalf("%q: %q", s, rest)
		}
		rest = rest[2:]
		for rest[0] != '"' {
			rest = strings.TrimPrefix(rest, `\`)
			*into += rest[:1]
			rest = rest[1:]
		}
		rest = rest[1:]
	}
	if rest != "" {
		t.Fatalf("%q: %q", s, rest)
	}
	return e
}

// P14.3: each event is seen again from its text, so unlike ones have unlike texts.
func TestUnlikeEventsHaveUnlikeTexts(t *testing.T) {
	parts := []string{"", `"`, `\`, " ", `""`, `\\`, `\"`, `" "`, "a", "1", "\n", "\xff", "\xfe", "\ufffd", "\u00e4"}
	had := map[string]api.Event{}
	check := func(e api.Event) {
		s := event.Show(e)
		if x, is := had[s]; is && x != e {
			t.Fatalf("Show of %v and %v: %q", x, e, s)
		}
		had[s] = e
		if x := seen(t, s); x != e {
			t.Fatalf("Show(%v): %q", e, s)
		}
	}
	for _, a := range parts {
		for _, b := range parts {
			for _, c := range parts {
				check(api.Event{Kind: api.EvItem, A: 1, B: 1, S: a, T: b, U: c})
				check(api.Event{Kind: api.EvItem, A: 1, B: 1, S: a + b + c})
				check(api.Event{Kind: api.EvItem, A: 1, B: 1, T: a + b, U: c})
			}
		}
	}
	for kind := 1; kind <= 13; kind++ {
		for _, a := range []int{math.MinInt, -11, -1, 0, 1, 11, 111} {
			for _, b := range []int{-1, 0, 1, 11, math.MaxInt} {
				for _, n := range []int{-1, 0, 1, 11, 111} {
					check(api.Event{Kind: kind, A: a, B: b, N: n})
				}
			}
		}
	}
	for _, e := range good {
		check(e)
	}
}

// P14.2
func TestItem(t *testing.T) {
	about := map[int]bool{api.EvItem: true, api.EvRead: true, api.EvStar: true, api.EvTag: true}
	for kind := -3; kind <= 30; kind++ {
		for _, a := range []int{math.MinInt, -1, 0, 1, 9, api.MaxID, api.MaxID + 1, math.MaxInt} {
			e := api.Event{Kind: kind, A: a, B: 3, N: 1, S: "go"}
			want := 0
			if about[kind] {
				want = a
			}
			if n, is := event.Item(e); n != want || is != about[kind] {
				t.Errorf("Item(%v): %d, %v", e, n, is)
			}
		}
	}
}
