package old_test

import (
	"strings"
	"testing"

	"newsstand/api"
	"newsstand/code"
	"newsstand/event"
	"newsstand/old"
	"newsstand/utf"
	"newsstand/words"
)

// The first and the last moment.
const (
	firstMoment = -62135596800
	lastMoment  = 253402300799
)

// Some texts, of so many bytes.
var (
	bytes32   = strings.Repeat("x", 32)
	bytes511  = strings.Repeat("x", 511)
	bytes512  = strings.Repeat("x", 512)
	bytes1024 = strings.Repeat("x", 1024)
)

// P16.2: what is told, what it is in the second format, and in the third one.
func TestLift(t *testing.T) {
	for _, x := range []struct {
		o      api.Old
		second []api.Old
		third  []api.Event
	}{
		{api.Old{Version: 1, Kind: api.FirstFeed, A: 3, S: "u"}, []api.Old{{Version: 2, Kind: api.EvFeed, A: 3, S: "u"}}, []api.Event{{Kind: api.EvFeed, A: 3, S: "u"}}},
		{api.Old{Version: 1, Kind: api.FirstFeed, A: 3, S: " http://a/\n b\x01 "}, []api.Old{{Version: 2, Kind: api.EvFeed, A: 3, S: "http://a/ b"}}, []api.Event{{Kind: api.EvFeed, A: 3, S: "http://a/ b"}}},
		{api.Old{Version: 1, Kind: api.FirstFeed, A: 3, S: " \t"}, []api.Old{{Version: 2, Kind: api.EvFeed, A: 3}}, nil}, // a place is not empty
		{api.Old{Version: 1, Kind: api.FirstFeed, A: 0, S: "u"}, []api.Old{{Version: 2, Kind: api.EvFeed, A: 0, S: "u"}}, nil},
		{api.Old{Version: 1, Kind: api.FirstFeed, A: 1, S: bytes1024}, []api.Old{{Version: 2, Kind: api.EvFeed, A: 1, S: bytes512}}, []api.Event{{Kind: api.EvFeed, A: 1, S: bytes512}}},
		{api.Old{Version: 1, Kind: api.FirstFeed, A: 1, S: bytes511 + " x"}, []api.Old{{Version: 2, Kind: api.EvFeed, A: 1, S: bytes511}}, []api.Event{{Kind: api.EvFeed, A: 1, S: bytes511}}},     // a blank is last, when it is cut
		{api.Old{Version: 1, Kind: api.FirstFeed, A: 1, S: bytes511 + "\u00e4"}, []api.Old{{Version: 2, Kind: api.EvFeed, A: 1, S: bytes511}}, []api.Event{{Kind: api.EvFeed, A: 1, S: bytes511}}}, // no half of a rune
		{api.Old{Version: 1, Kind: api.FirstFeed, A: 1, S: "   " + bytes512}, []api.Old{{Version: 2, Kind: api.EvFeed, A: 1, S: bytes512}}, []api.Event{{Kind: api.EvFeed, A: 1, S: bytes512}}},    // clean ahead of the cut
		{api.Old{Version: 1, Kind: api.FirstFeed, A: 1, S: strings.Repeat("\xff", 1024)}, []api.Old{{Version: 2, Kind: api.EvFeed, A: 1, S: strings.Repeat("\ufffd", 170)}}, []api.Event{{Kind: api.EvFeed, A: 1, S: strings.Repeat("\ufffd", 170)}}},

		{api.Old{Version: 1, Kind: api.FirstUnfeed, A: 3}, []api.Old{{Version: 2, Kind: api.EvUnfeed, A: 3}}, []api.Event{{Kind: api.EvUnfeed, A: 3}}},
		{api.Old{Version: 1, Kind: api.FirstUnfeed, A: -3}, []api.Old{{Version: 2, Kind: api.EvUnfeed, A: -3}}, nil},
		{api.Old{Version: 1, Kind: api.FirstUnfeed, A: api.MaxInt}, []api.Old{{Version: 2, Kind: api.EvUnfeed, A: api.MaxInt}}, nil},

		{api.Old{Version: 1, Kind: api.FirstItem, A: 9, B: 3, S: "g", T: "t"}, []api.Old{{Version: 2, Kind: api.EvItem, A: 9, B: 3, S: "g", T: "t"}}, []api.Event{{Kind: api.EvItem, A: 9, B: 3, S: "g", T: "t"}}},
		{api.Old{Version: 1, Kind: api.FirstItem, A: 9, B: 3, S: "g g", T: " a  b "}, []api.Old{{Version: 2, Kind: api.EvItem, A: 9, B: 3, S: "g g", T: "a b"}}, []api.Event{{Kind: api.EvItem, A: 9, B: 3, S: "g g", T: "a b"}}},
		{api.Old{Version: 1, Kind: api.FirstItem, A: 9, B: 3, S: bytes1024, T: bytes1024}, []api.Old{{Version: 2, Kind: api.EvItem, A: 9, B: 3, S: bytes512, T: bytes512[:256]}}, []api.Event{{Kind: api.EvItem, A: 9, B: 3, S: bytes512, T: bytes512[:256]}}},
		{api.Old{Version: 1, Kind: api.FirstItem, A: 9, B: 3, S: "g", T: bytes512[:255] + " y"}, []api.Old{{Version: 2, Kind: api.EvItem, A: 9, B: 3, S: "g", T: bytes512[:255]}}, []api.Event{{Kind: api.EvItem, A: 9, B: 3, S: "g", T: bytes512[:255]}}},
		{api.Old{Version: 1, Kind: api.FirstItem, A: 9, B: 3, T: "t"}, []api.Old{{Version: 2, Kind: api.EvItem, A: 9, B: 3, T: "t"}}, nil},
		{api.Old{Version: 1, Kind: api.FirstItem, A: 9, S: "g"}, []api.Old{{Version: 2, Kind: api.EvItem, A: 9, S: "g"}}, nil},

		{api.Old{Version: 1, Kind: api.FirstFlag, A: 5, N: 0}, []api.Old{{Version: 2, Kind: api.EvRead, A: 5}, {Version: 2, Kind: api.EvStar, A: 5}}, []api.Event{{Kind: api.EvRead, A: 5}, {Kind: api.EvStar, A: 5}}},
		{api.Old{Version: 1, Kind: api.FirstFlag, A: 5, N: 1}, []api.Old{{Version: 2, Kind: api.EvRead, A: 5, N: 1}, {Version: 2, Kind: api.EvStar, A: 5}}, []api.Event{{Kind: api.EvRead, A: 5, N: 1}, {Kind: api.EvStar, A: 5}}},
		{api.Old{Version: 1, Kind: api.FirstFlag, A: 5, N: 2}, []api.Old{{Version: 2, Kind: api.EvRead, A: 5}, {Version: 2, Kind: api.EvStar, A: 5, N: 1}}, []api.Event{{Kind: api.EvRead, A: 5}, {Kind: api.EvStar, A: 5, N: 1}}},
		{api.Old{Version: 1, Kind: api.FirstFlag, A: 5, N: 3}, []api.Old{{Version: 2, Kind: api.EvRead, A: 5, N: 1}, {Version: 2, Kind: api.EvStar, A: 5, N: 1}}, []api.Event{{Kind: api.EvRead, A: 5, N: 1}, {Kind: api.EvStar, A: 5, N: 1}}},
		{api.Old{Version: 1, Kind: api.FirstFlag, A: 5, N: 4}, nil, nil},
		{api.Old{Version: 1, Kind: api.FirstFlag, A: 5, N: -1}, nil, nil},
		{api.Old{Version: 1, Kind: api.FirstFlag, A: 5, N: api.MaxInt}, nil, nil},
		{api.Old{Version: 1, Kind: api.FirstFlag, A: 0, N: 3}, []api.Old{{Version: 2, Kind: api.EvRead, N: 1}, {Version: 2, Kind: api.EvStar, N: 1}}, nil},

		{api.Old{Version: 1, Kind: api.FirstTag, A: 5, N: 1, S: "go"}, []api.Old{{Version: 2, Kind: api.EvTag, A: 5, N: 1, S: "go"}}, []api.Event{{Kind: api.EvTag, A: 5, N: 1, S: "go"}}},
		{api.Old{Version: 1, Kind: api.FirstTag, A: 5, S: "-Tea Time"}, []api.Old{{Version: 2, Kind: api.EvTag, A: 5, S: "tea"}}, []api.Event{{Kind: api.EvTag, A: 5, S: "tea"}}},
		{api.Old{Version: 1, Kind: api.FirstTag, A: 5, N: 2, S: "go"}, []api.Old{{Version: 2, Kind: api.EvTag, A: 5, N: 2, S: "go"}}, nil},
		{api.Old{Version: 1, Kind: api.FirstTag, A: 5, N: -7, S: "go"}, []api.Old{{Version: 2, Kind: api.EvTag, A: 5, N: -7, S: "go"}}, nil},
		{api.Old{Version: 1, Kind: api.FirstTag, A: 5, N: 1, S: " .-\xff"}, nil, nil},
		{api.Old{Version: 1, Kind: api.FirstTag, A: 5, N: 1}, nil, nil},
		{api.Old{Version: 1, Kind: api.FirstTag, A: 5, N: 1, S: bytes1024}, []api.Old{{Version: 2, Kind: api.EvTag, A: 5, N: 1, S: bytes32}}, []api.Event{{Kind: api.EvTag, A: 5, N: 1, S: bytes32}}},
		{api.Old{Version: 1, Kind: api.FirstTag, A: 5, N: 1, S: strings.Repeat("\u20ac", 40)}, []api.Old{{Version: 2, Kind: api.EvTag, A: 5, N: 1, S: strings.Repeat("\u20ac", 32)}}, nil}, // too long a label

		{api.Old{Version: 2, Kind: api.EvFolder, A: 1, S: "tech"}, []api.Old{{Version: 2, Kind: api.EvFolder, A: 1, S: "tech"}}, []api.Event{{Kind: api.EvFolder, A: 1, S: "tech"}}},
		{api.Old{Version: 2, Kind: api.EvFolder, A: 1, S: " tech"}, []api.Old{{Version: 2, Kind: api.EvFolder, A: 1, S: " tech"}}, nil}, // the second format is not cleaned
		{api.Old{Version: 2, Kind: api.EvFolder, A: 1, S: bytes512[:65]}, []api.Old{{Version: 2, Kind: api.EvFolder, A: 1, S: bytes512[:65]}}, nil},
		{api.Old{Version: 2, Kind: api.EvUnfolder, A: 1}, []api.Old{{Version: 2, Kind: api.EvUnfolder, A: 1}}, []api.Event{{Kind: api.EvUnfolder, A: 1}}},
		{api.Old{Version: 2, Kind: api.EvFeed, A: 1, B: 2, S: "u", T: "t"}, []api.Old{{Version: 2, Kind: api.EvFeed, A: 1, B: 2, S: "u", T: "t"}}, []api.Event{{Kind: api.EvFeed, A: 1, B: 2, S: "u", T: "t"}}},
		{api.Old{Version: 2, Kind: api.EvUnfeed, A: 1}, []api.Old{{Version: 2, Kind: api.EvUnfeed, A: 1}}, []api.Event{{Kind: api.EvUnfeed, A: 1}}},
		{api.Old{Version: 2, Kind: api.EvUnfeed}, []api.Old{{Version: 2, Kind: api.EvUnfeed}}, nil},
		{api.Old{Version: 2, Kind: api.EvTitle, A: 1, T: "t"}, []api.Old{{Version: 2, Kind: api.EvTitle, A: 1, T: "t"}}, []api.Event{{Kind: api.EvTitle, A: 1, T: "t"}}},
		{api.Old{Version: 2, Kind: api.EvMove, A: 1, B: 2}, []api.Old{{Version: 2, Kind: api.EvMove, A: 1, B: 2}}, []api.Event{{Kind: api.EvMove, A: 1, B: 2}}},
		{api.Old{Version: 2, Kind: api.EvItem, A: 1, B: 2, N: -7, S: "g", T: "t"}, []api.Old{{Version: 2, Kind: api.EvItem, A: 1, B: 2, N: -7, S: "g", T: "t"}}, []api.Event{{Kind: api.EvItem, A: 1, B: 2, N: -7, S: "g", T: "t"}}},
		{api.Old{Version: 2, Kind: api.EvItem, A: 1, B: 2, N: lastMoment + 1, S: "g", T: "t"}, []api.Old{{Version: 2, Kind: api.EvItem, A: 1, B: 2, N: lastMoment + 1, S: "g", T: "t"}}, nil},
		{api.Old{Version: 2, Kind: api.EvRead, A: 1, N: 1}, []api.Old{{Version: 2, Kind: api.EvRead, A: 1, N: 1}}, []api.Event{{Kind: api.EvRead, A: 1, N: 1}}},
		{api.Old{Version: 2, Kind: api.EvRead, A: 1, N: 3}, []api.Old{{Version: 2, Kind: api.EvRead, A: 1, N: 3}}, nil},
		{api.Old{Version: 2, Kind: api.EvStar, A: 1}, []api.Old{{Version: 2, Kind: api.EvStar, A: 1}}, []api.Event{{Kind: api.EvStar, A: 1}}},
		{api.Old{Version: 2, Kind: api.EvTag, A: 1, N: 1, S: "go"}, []api.Old{{Version: 2, Kind: api.EvTag, A: 1, N: 1, S: "go"}}, []api.Event{{Kind: api.EvTag, A: 1, N: 1, S: "go"}}},
		{api.Old{Version: 2, Kind: api.EvTag, A: 1, N: 1, S: "Go"}, []api.Old{{Version: 2, Kind: api.EvTag, A: 1, N: 1, S: "Go"}}, nil},
		{api.Old{Version: 2, Kind: api.EvSearch, A: 1, S: "mine", T: "unread"}, []api.Old{{Version: 2, Kind: api.EvSearch, A: 1, S: "mine", T: "unread"}}, []api.Event{{Kind: api.EvSearch, A: 1, S: "mine", T: "unread"}}},
		{api.Old{Version: 2, Kind: api.EvUnsearch, A: 1}, []api.Old{{Version: 2, Kind: api.EvUnsearch, A: 1}}, []api.Event{{Kind: api.EvUnsearch, A: 1}}},
		{api.Old{Version: 2, Kind: api.EvClock, N: firstMoment}, []api.Old{{Version: 2, Kind: api.EvClock, N: firstMoment}}, []api.Event{{Kind: api.EvClock, N: firstMoment}}},
		{api.Old{Version: 2, Kind: api.EvClock, N: firstMoment - 1}, []api.Old{{Version: 2, Kind: api.EvClock, N: firstMoment - 1}}, nil},
	} {
		same(t, event.Name(x.o.Kind)+" to the second", old.Second(x.o), x.second)
		same(t, event.Name(x.o.Kind)+" to the third", old.Third(x.o), x.third)
		b, e := old.Put(x.o)
		if e != api.OK {
			t.Fatalf("Put(%.200v): %d", x.o, e)
		}
		l, e := old.Events(b)
		if e != api.OK {
			t.Errorf("Events(%.200x): %d", b, e)
		}
		same(t, event.Name(x.o.Kind)+" of bytes", l, x.third)
	}
}

// shortOf is the short text, as the chapter tells of it.
func shortOf(s string, most int) string {
	return utf.Clean(utf.Cut(utf.Clean(s), most))
}

// secondOf are the rules of the chapter, as they stand.
func secondOf(o api.Old) []api.Old {
	if o.Version == 2 {
		return []api.Old{o}
	}
	switch o.Kind {
	case api.FirstFeed:
		return []api.Old{{Version: 2, Kind: api.EvFeed, A: o.A, S: shortOf(o.S, 512)}}
	case api.FirstUnfeed:
		return []api.Old{{Version: 2, Kind: api.EvUnfeed, A: o.A}}
	case api.FirstItem:
		return []api.Old{{Version: 2, Kind: api.EvItem, A: o.A, B: o.B, S: shortOf(o.S, 512), T: shortOf(o.T, 256)}}
	case api.FirstFlag:
		if 0 <= o.N && o.N <= 3 {
			return []api.Old{{Version: 2, Kind: api.EvRead, A: o.A, N: o.N % 2}, {Version: 2, Kind: api.EvStar, A: o.A, N: o.N / 2}}
		}
	case api.FirstTag:
		if l := words.Words(o.S); len(l) > 0 {
			return []api.Old{{Version: 2, Kind: api.EvTag, A: o.A, N: o.N, S: l[0]}}
		}
	}
	return nil
}

// P16.2, P16.3: by the rules; what is lifted may be.
func TestLiftOfEachKind(t *testing.T) {
	for _, o := range good() {
		second := old.Second(o)
		same(t, "to the second", second, secondOf(o))
		var third []api.Event
		for _, s := range second {
			if e := old.Check(s); e != api.OK || s.Version != api.FormatSecond {
				t.Errorf("%.200v was lifted to %.200v: %d", o, s, e)
			}
			e := api.Event{Kind: s.Kind, A: s.A, B: s.B, N: s.N, S: s.S, T: s.T}
			if event.Check(e) == api.OK {
				third = append(third, e)
			}
		}
		same(t, "to the third", old.Third(o), third)
		l, e := old.Events(bytesOf(o))
		if e != api.OK {
			t.Errorf("Events(%.200x): %d", bytesOf(o), e)
		}
		same(t, "of bytes", l, third)
	}
}

// P16.2: bytes of the third format.
func TestEventsOfTheThird(t *testing.T) {
	for _, e := range []api.Event{
		{Kind: api.EvFolder, A: 2, B: 1, S: "tech"}, {Kind: api.EvUnfolder, A: 1}, {Kind: api.EvFeed, A: 1, B: 2, S: "u", T: "t"}, {Kind: api.EvUnfeed, A: 1}, {Kind: api.EvTitle, A: 1, T: "t"}, {Kind: api.EvMove, A: 1, B: 2},
		{Kind: api.EvItem, A: 1, B: 2, N: 3, S: "g", T: "t", U: "l"}, {Kind: api.EvRead, A: 1, N: 1}, {Kind: api.EvStar, A: 1, N: 1}, {Kind: api.EvTag, A: 1, N: 1, S: "go"},
		{Kind: api.EvSearch, A: 1, S: "mine", T: "unread"}, {Kind: api.EvUnsearch, A: 1}, {Kind: api.EvClock, N: -5},
	} {
		b, f := code.Put(e)
		if f != api.OK {
			t.Fatalf("Put(%v): %d", e, f)
		}
		l, f := old.Events(b)
		if f != api.OK {
			t.Errorf("Events(%x): %d", b, f)
		}
		same(t, "of the third", l, []api.Event{e})
		if l, f := old.Events(append(b, 0)); f != api.ErrCode || len(l) != 0 {
			t.Errorf("with a byte more: %v, %d", l, f)
		}
	}
}
