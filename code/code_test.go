package code_test

import (
	"bytes"
	"math"
	"strings"
	"testing"

	"newsstand/api"
	"newsstand/code"
	"newsstand/event"
)

// The first and the last moment.
const (
	first = -62135596800
	last  = 253402300799
)

// used are the fields that each kind uses, as the table of layer 14 has them.
var used = map[int]string{
	api.EvFolder: "ABS", api.EvUnfolder: "A", api.EvFeed: "ABST", api.EvUnfeed: "A", api.EvTitle: "AT", api.EvMove: "AB", api.EvItem: "ABNSTU",
	api.EvRead: "AN", api.EvStar: "AN", api.EvTag: "ANS", api.EvSearch: "AST", api.EvUnsearch: "A", api.EvClock: "N",
}

// noKinds are some numbers that are none of kinds.
var noKinds = []int{math.MinInt, -256, -13, -1, 0, 14, 15, 100, 255, 256, 257, 1<<32 + 1, math.MaxInt}

// good are events that may be, of each kind.
func good() []api.Event {
	return []api.Event{
		{Kind: api.EvFolder, A: 1, S: "tech"}, {Kind: api.EvFolder, A: api.MaxID, B: api.MaxID, S: strings.Repeat("x", 64)},
		{Kind: api.EvUnfolder, A: 63}, {Kind: api.EvUnfolder, A: 64},
		{Kind: api.EvFeed, A: 1, S: "u"}, {Kind: api.EvFeed, A: 8191, B: 8192, S: strings.Repeat("\u00e4", 256), T: strings.Repeat("x", 256)},
		{Kind: api.EvUnfeed, A: 1}, {Kind: api.EvUnfeed, A: api.MaxID},
		{Kind: api.EvTitle, A: 1}, {Kind: api.EvTitle, A: 2, T: "A b"},
		{Kind: api.EvMove, A: 1}, {Kind: api.EvMove, A: 1, B: 2},
		{Kind: api.EvItem, A: 1, B: 2, S: "g"}, {Kind: api.EvItem, A: 1, B: 2, N: first, S: "g", T: "t", U: "l"}, {Kind: api.EvItem, A: 3, B: 4, N: -1, S: "g", U: "l"},
		{Kind: api.EvItem, A: api.MaxID, B: api.MaxID, N: last, S: strings.Repeat("x", 512), T: strings.Repeat("y", 256), U: strings.Repeat("z", 512)},
		{Kind: api.EvRead, A: 1}, {Kind: api.EvRead, A: 1, N: 1},
		{Kind: api.EvStar, A: 5}, {Kind: api.EvStar, A: 5, N: 1},
		{Kind: api.EvTag, A: 5, S: "go"}, {Kind: api.EvTag, A: 5, N: 1, S: strings.Repeat("\u20ac", 21)},
		{Kind: api.EvSearch, A: 1, S: "mine", T: "unread"}, {Kind: api.EvSearch, A: 1, S: "a", T: strings.Repeat("x", 512)},
		{Kind: api.EvUnsearch, A: 1},
		{Kind: api.EvClock}, {Kind: api.EvClock, N: -1}, {Kind: api.EvClock, N: -64}, {Kind: api.EvClock, N: -65}, {Kind: api.EvClock, N: 64}, {Kind: api.EvClock, N: first}, {Kind: api.EvClock, N: last},
	}
}

// numberBytes are the bytes of n, as layer 1 tells of them.
func numberBytes(n int) []byte {
	fold := 2 * n
	if n < 0 {
		fold = -2*n - 1
	}
	b := []byte{}
	for ; fold > 127; fold /= 128 {
		b = append(b, byte(fold%128+128))
	}
	return append(b, byte(fold))
}

// bytesOf are the bytes of e, field by field.
func bytesOf(e api.Event) []byte {
	b := []byte{3, byte(e.Kind)}
	for _, field := range used[e.Kind] {
		switch field {
		case 'A':
			b = append(b, numberBytes(e.A)...)
		case 'B':
			b = append(b, numberBytes(e.B)...)
		case 'N':
			b = append(b, numberBytes(e.N)...)
		case 'S':
			b = append(append(b, numberBytes(len(e.S))...), e.S...)
		case 'T':
			b = append(append(b, numberBytes(len(e.T))...), e.T...)
		case 'U':
			b = append(append(b, numberBytes(len(e.U))...), e.U...)
		}
	}
	return b
}

// loose reads a number without a look at its form.
func loose(b []byte) (int, []byte) {
	fold, by := 0, 1
	for i, c := range b {
		fold += int(c%128) * by
		by *= 128
		if c < 128 || i == 7 {
			b = b[i+1:]
			break
		}
	}
	if fold%2 == 1 {
		return -(fold + 1) / 2, b
	}
	return fold / 2, b
}

// looseText reads a text, as much as there is.
func looseText(b []byte) (string, []byte) {
	n, b := loose(b)
	n = min(max(n, 0), len(b))
	return string(b[:n]), b[n:]
}

// mayBe answers the only event that could have the bytes b, and whether it may be and has them.
func mayBe(b []byte) (api.Event, bool) {
	if len(b) < 2 {
		return api.Event{}, false
	}
	e := api.Event{Kind: int(b[1])}
	rest := b[2:]
	for _, field := range used[e.Kind] {
		switch field {
		case 'A':
			e.A, rest = loose(rest)
		case 'B':
			e.B, rest = loose(rest)
		case 'N':
			e.N, rest = loose(rest)
		case 'S':
			e.S, rest = looseText(rest)
		case 'T':
			e.T, rest = looseText(rest)
		case 'U':
			e.U, rest = looseText(rest)
		}
	}
	if event.Check(e) != api.OK || !bytes.Equal(bytesOf(e), b) {
		return api.Event{}, false
	}
	return e, true
}

// checkGet holds Get(b) against what it should be.
func checkGet(t *testing.T, b []byte) {
	t.Helper()
	want, is := mayBe(b)
	e, f := code.Get(b)
	if e != want || is != (f == api.OK) || !is && f != api.ErrCode {
		t.Fatalf("Get(%x): %v, %d", b, e, f)
	}
	if is {
		if again, f := code.Put(e); f != api.OK || !bytes.Equal(again, b) {
			t.Fatalf("%x put again: %x, %d", b, again, f)
		}
	}
}

// P15.1
func TestPut(t *testing.T) {
	for want, e := range map[string]api.Event{
		"\x03\x09\x0a\x02":                               {Kind: api.EvStar, A: 5, N: 1},
		"\x03\x01\x02\x00\x08tech":                       {Kind: api.EvFolder, A: 1, S: "tech"},
		"\x03\x01\x04\x02\x02x":                          {Kind: api.EvFolder, A: 2, B: 1, S: "x"},
		"\x03\x02\x7e":                                   {Kind: api.EvUnfolder, A: 63},
		"\x03\x03\x02\x04\x02u\x06A b":                   {Kind: api.EvFeed, A: 1, B: 2, S: "u", T: "A b"},
		"\x03\x04\x80\x80\x80\x01":                       {Kind: api.EvUnfeed, A: api.MaxID},
		"\x03\x05\x02\x00":                               {Kind: api.EvTitle, A: 1},
		"\x03\x06\x02\x04":                               {Kind: api.EvMove, A: 1, B: 2},
		"\x03\x07\x02\x04\x05\x02g\x02t\x02l":            {Kind: api.EvItem, A: 1, B: 2, N: -3, S: "g", T: "t", U: "l"},
		"\x03\x08\x02\x00":                               {Kind: api.EvRead, A: 1},
		"\x03\x0a\x02\x02\x04\xc3\xa4":                   {Kind: api.EvTag, A: 1, N: 1, S: "\u00e4"},
		"\x03\x0b\x02\x02a\x04go":                        {Kind: api.EvSearch, A: 1, S: "a", T: "go"},
		"\x03\x0c\x02":                                   {Kind: api.EvUnsearch, A: 1},
		"\x03\x0d\x01":                                   {Kind: api.EvClock, N: -1},
		"\x03\x05\x02\x80\x01" + strings.Repeat("x", 64): {Kind: api.EvTitle, A: 1, T: strings.Repeat("x", 64)},
	} {
		if b, f := code.Put(e); f != api.OK || string(b) != want {
			t.Errorf("Put(%v): %x, %d", e, b, f)
		}
		if got, f := code.Get([]byte(want)); f != api.OK || got != e {
			t.Errorf("Get(%x): %v, %d", want, got, f)
		}
	}
}

// P15.1, P15.2, P15.3: events of each kind, at the limits, too.
func TestPutAndGet(t *testing.T) {
	for _, e := range good() {
		want := bytesOf(e)
		b, f := code.Put(e)
		if f != api.OK || !bytes.Equal(b, want) {
			t.Errorf("Put(%v): %x, %d", e, b, f)
		}
		if n := code.Size(e); n != len(want) {
			t.Errorf("Size(%v): %d", e, n)
		}
		checkGet(t, want)
		if got, f := code.Get(b); f != api.OK || got != e {
			t.Errorf("Get(%x): %v, %d", b, got, f)
		}
	}
}

// P15.1, P15.2: what event.Check refuses.
func TestPutOfWhatMayNotBe(t *testing.T) {
	bad := []api.Event{
		{}, {Kind: api.EvStar}, {Kind: api.EvStar, A: -1}, {Kind: api.EvStar, A: 1, N: 2}, {Kind: api.EvStar, A: 1, N: -1}, {Kind: api.EvStar, A: 1, B: 1}, {Kind: api.EvStar, A: 1, U: "x"},
		{Kind: api.EvUnfeed, A: api.MaxID + 1}, {Kind: api.EvClock, N: last + 1}, {Kind: api.EvClock, N: first - 1}, {Kind: api.EvClock, N: math.MaxInt}, {Kind: api.EvClock, N: math.MinInt}, {Kind: api.EvClock, A: 1},
		{Kind: api.EvFolder, A: 1}, {Kind: api.EvFolder, A: 1, S: "a\xff"}, {Kind: api.EvTag, A: 1, S: "A"}, {Kind: api.EvTitle, A: 1, T: strings.Repeat("x", 257)}, {Kind: api.EvTitle, A: 1, T: strings.Repeat("x", 1<<16+1)},
	}
	for _, e := range good() {
		for _, kind := range noKinds {
			e.Kind = kind
			bad = append(bad, e)
		}
	}
	for _, e := range bad {
		if b, f := code.Put(e); f != api.ErrEvent || len(b) != 0 {
			t.Errorf("Put(%.200v): %x, %d", e, b, f)
		}
		if n := code.Size(e); n != 0 {
			t.Errorf("Size(%.200v): %d", e, n)
		}
	}
}

// P15.1: bytes that are no event's.
func TestGetOfNoEvent(t *testing.T) {
	for name, s := range map[string]string{
		"nothing":                         "",
		"a format alone":                  "\x03",
		"no fields":                       "\x03\x09",
		"a field too few":                 "\x03\x09\x0a",
		"a byte too many":                 "\x03\x09\x0a\x02\x00",
		"the first format":                "\x01\x02\x0a",
		"the second format":               "\x02\x09\x0a\x02",
		"the fourth format":               "\x04\x09\x0a\x02",
		"no format":                       "\x00\x09\x0a\x02",
		"a format of a number's two":      "\x83\x00\x09\x0a\x02",
		"the kind 0":                      "\x03\x00",
		"the kind 14":                     "\x03\x0e\x02",
		"the kind 255":                    "\x03\xff",
		"no number 0 of an ID":            "\x03\x04\x00",
		"a number below 0 of an ID":       "\x03\x04\x01",
		"too great a number of an ID":     "\x03\x04\x82\x80\x80\x01",
		"another form of a number":        "\x03\x04\x86\x00",
		"a number that does not end":      "\x03\x04\x86",
		"too many groups":                 "\x03\x0d\x80\x80\x80\x80\x80\x80\x80\x80\x01",
		"a moment beyond the last one":    "\x03\x0d" + string(numberBytes(last+1)),
		"neither 0 nor 1":                 "\x03\x08\x02\x04",
		"a text that ends too soon":       "\x03\x01\x02\x00\x0atech",
		"a text of fewer bytes":           "\x03\x01\x02\x00\x06tech",
		"a text of a length below 0":      "\x03\x01\x02\x00\x01",
		"a text of another form's length": "\x03\x01\x02\x00\x88\x00tech",
		"a text that is not right":        "\x03\x05\x02\x02\xff",
		"a text that is not clean":        "\x03\x05\x02\x04 t",
		"a tag that is no word":           "\x03\x0a\x02\x02\x02A",
		"an empty label":                  "\x03\x01\x02\x00\x00",
		"too long a title":                "\x03\x05\x02\x82\x04" + strings.Repeat("x", 257),
		"very many bytes":                 "\x03\x04\x02" + strings.Repeat("\x00", 1<<20),
	} {
		if e, f := code.Get([]byte(s)); f != api.ErrCode || e != (api.Event{}) {
			t.Errorf("%s: %v, %d", name, e, f)
		}
	}
	if e, f := code.Get(nil); f != api.ErrCode || e != (api.Event{}) {
		t.Errorf("nil: %v, %d", e, f)
	}
}

// P15.1, P15.3: bytes of events that are cut, go on, or have another byte in one place.
func TestGetOfOtherBytes(t *testing.T) {
	for _, e := range good() {
		b := bytesOf(e)
		for i := range b {
			checkGet(t, b[:i])
			for c := range 256 {
				if i < 16 || c < 2 || c > 254 || i > len(b)-3 {
					other := bytes.Clone(b)
					other[i] = byte(c)
					checkGet(t, other)
				}
			}
		}
		for c := range 256 {
			checkGet(t, append(bytes.Clone(b), byte(c)))
		}
	}
}

// P15.1, P15.3: all short bytes of the third format.
func TestGetOfShortBytes(t *testing.T) {
	for kind := range 16 {
		for x := range 256 {
			checkGet(t, []byte{3, byte(kind), byte(x)})
			for y := range 256 {
				checkGet(t, []byte{3, byte(kind), byte(x), byte(y)})
			}
		}
	}
	for format := range 256 {
		for kind := range 256 {
			checkGet(t, []byte{byte(format), byte(kind), 2})
			checkGet(t, []byte{byte(format), byte(kind), 2, 2})
		}
	}
}

// P15.2
func TestUses(t *testing.T) {
	bits := map[rune]int{'A': 1, 'B': 2, 'N': 4, 'S': 1, 'T': 2, 'U': 4}
	for kind := -3; kind < 300; kind++ {
		numbers, texts := 0, 0
		for _, field := range used[kind] {
			if field < 'S' {
				numbers += bits[field]
			} else {
				texts += bits[field]
			}
		}
		if n, s := code.Uses(kind); n != numbers || s != texts {
			t.Errorf("Uses(%d): %d, %d", kind, n, s)
		}
	}
	for _, kind := range noKinds {
		if n, s := code.Uses(kind); n != 0 || s != 0 {
			t.Errorf("Uses(%d): %d, %d", kind, n, s)
		}
	}
}

// R3: nothing that is handed in is changed or kept, and what was answered hangs on no later call.
func TestNothingIsKept(t *testing.T) {
	e := api.Event{Kind: api.EvTag, A: 5, N: 1, S: "go"}
	b, _ := code.Put(e)
	whole := append(bytes.Clone(b), "behind"...)
	got, _ := code.Get(whole[:len(b)])
	if !bytes.Equal(whole, append(bytes.Clone(b), "behind"...)) {
		t.Errorf("changed: %x", whole)
	}
	for i := range whole {
		whole[i] = 'z'
	}
	if got != e {
		t.Errorf("kept: %v", got)
	}
	for i := range b {
		b[i] = 0
	}
	if again, f := code.Put(e); f != api.OK || !bytes.Equal(again, bytesOf(e)) {
		t.Errorf("put again: %x, %d", again, f)
	}
}
