package old_test

import (
	"bytes"
	"math"
	"strings"
	"testing"

	"newsstand/api"
	"newsstand/code"
	"newsstand/old"
)

// used are the fields that the kinds of each version use, as the chapter has them.
var used = map[int]map[int]string{
	1: {api.FirstFeed: "AS", api.FirstUnfeed: "A", api.FirstItem: "ABST", api.FirstFlag: "AN", api.FirstTag: "ANS"},
	2: {
		api.EvFolder: "AS", api.EvUnfolder: "A", api.EvFeed: "ABST", api.EvUnfeed: "A", api.EvTitle: "AT", api.EvMove: "AB", api.EvItem: "ABNST",
		api.EvRead: "AN", api.EvStar: "AN", api.EvTag: "ANS", api.EvSearch: "AST", api.EvUnsearch: "A", api.EvClock: "N",
	},
}

// numbers and texts are some that fields of older formats may have.
var (
	numbers = []int{0, 1, -1, 3, 63, 64, -64, -65, api.MaxID, api.MaxID + 1, api.MaxInt, -api.MaxInt}
	texts   = []string{"", "a", "Tea Time", "\xff\x00 \n", strings.Repeat("\xff", 1024), strings.Repeat("x", 1024), strings.Repeat("\u00e4", 512)}
)

// otherVersions and otherKinds are some numbers that are none of them.
var (
	otherVersions = []int{math.MinInt, -1, 0, 3, 4, 255, 256, 257, 258, 1<<32 + 1, math.MaxInt}
	otherKinds    = []int{math.MinInt, -1, 0, 14, 15, 255, 256, 257, 1<<32 + 1, math.MaxInt}
)

// set answers o with another field: of that name, with the number n, or the text s.
func set(o api.Old, field rune, n int, s string) api.Old {
	switch field {
	case 'A':
		o.A = n
	case 'B':
		o.B = n
	case 'N':
		o.N = n
	case 'S':
		o.S = s
	case 'T':
		o.T = s
	}
	return o
}

// good are what older formats may tell: of each kind, with the i-th number and text and those behind them.
func good() []api.Old {
	var l []api.Old
	for version, kinds := range used {
		for kind, fields := range kinds {
			for i := range len(numbers) * len(texts) {
				o := api.Old{Version: version, Kind: kind}
				for k, field := range fields {
					o = set(o, field, numbers[(i+k)%len(numbers)], texts[(i+2*k)%len(texts)])
				}
				l = append(l, o)
			}
		}
	}
	return l
}

// numberBytes are the bytes of n, as layer 1 tells of them.
func numberBytes(n int) []byte {
	fold := 2 * n
	if n < 0 {
		fold = -2*n - 1
	}
	b := []byte{}
	for ; fold > 127; fold /= 128 {
		b = append(b, byte(fold%128+128))
	}
	return append(b, byte(fold))
}

// textBytes are the bytes of s.
func textBytes(s string) []byte {
	return append(numberBytes(len(s)), s...)
}

// bytesOf are the bytes of o, field by field.
func bytesOf(o api.Old) []byte {
	b := []byte{byte(o.Version), byte(o.Kind)}
	for _, field := range used[o.Version][o.Kind] {
		switch field {
		case 'A':
			b = append(b, numberBytes(o.A)...)
		case 'B':
			b = append(b, numberBytes(o.B)...)
		case 'N':
			b = append(b, numberBytes(o.N)...)
		case 'S':
			b = append(b, textBytes(o.S)...)
		case 'T':
			b = append(b, textBytes(o.T)...)
		}
	}
	return b
}

// loose reads a number without a look at its form.
func loose(b []byte) (int, []byte) {
	fold, by := 0, 1
	for i, c := range b {
		fold += int(c%128) * by
		by *= 128
		if c < 128 || i == 7 {
			b = b[i+1:]
			break
		}
	}
	if fold%2 == 1 {
		return -(fold + 1) / 2, b
	}
	return fold / 2, b
}

// looseText reads a text, as much as there is.
func looseText(b []byte) (string, []byte) {
	n, b := loose(b)
	n = min(max(n, 0), len(b))
	return string(b[:n]), b[n:]
}

// mayBe answers all that could be told by the bytes b, and whether it may be told and has them.
func mayBe(b []byte) (api.Old, bool) {
	if len(b) < 2 {
		return api.Old{}, false
	}
	o := api.Old{Version: int(b[0]), Kind: int(b[1])}
	rest := b[2:]
	for _, field := range used[o.Version][o.Kind] {
		n, s := 0, ""
		if field < 'S' {
			n, rest = loose(rest)
		} else {
			s, rest = looseText(rest)
		}
		o = set(o, field, n, s)
	}
	is := used[o.Version][o.Kind] != "" && len(o.S) <= 1024 && len(o.T) <= 1024 && max(o.A, o.B, o.N) <= 1<<53-1 && min(o.A, o.B, o.N) >= -1<<53+1
	if !is || !bytes.Equal(bytesOf(o), b) {
		return api.Old{}, false
	}
	return o, true
}

// checkGet holds Get(b) against what it should be, and Events(b), too.
func checkGet(t *testing.T, b []byte) {
	t.Helper()
	want, is := mayBe(b)
	o, e := old.Get(b)
	if o != want || is != (e == api.OK) || !is && e != api.ErrOld {
		t.Fatalf("Get(%x): %v, %d", b, o, e)
	}
	if is {
		if again, e := old.Put(o); e != api.OK || !bytes.Equal(again, b) {
			t.Fatalf("%x put again: %x, %d", b, again, e)
		}
	}
	l, e := old.Events(b)
	third, f := code.Get(b)
	switch {
	case f == api.OK:
		same(t, "Events of a third format", l, []api.Event{third})
		is = true
	case is:
		same(t, "Events of an older one", l, old.Third(want))
	}
	if is != (e == api.OK) || !is && (e != api.ErrCode || len(l) != 0) {
		t.Fatalf("Events(%x): %v, %d", b, l, e)
	}
}

// same holds two lists against each other.
func same[T comparable](t *testing.T, name string, got, want []T) {
	t.Helper()
	is := len(got) == len(want)
	for i := range min(len(got), len(want)) {
		is = is && got[i] == want[i]
	}
	if !is {
		t.Errorf("%s: %.300v and not %.300v", name, got, want)
	}
}

// P16.1
func TestPut(t *testing.T) {
	for want, o := range map[string]api.Old{
		"\x01\x01\x06\x02u":             {Version: 1, Kind: api.FirstFeed, A: 3, S: "u"},
		"\x01\x02\x06":                  {Version: 1, Kind: api.FirstUnfeed, A: 3},
		"\x01\x03\x12\x06\x02g\x04t ":   {Version: 1, Kind: api.FirstItem, A: 9, B: 3, S: "g", T: "t "},
		"\x01\x04\x0a\x06":              {Version: 1, Kind: api.FirstFlag, A: 5, N: 3},
		"\x01\x05\x0a\x02\x04Go":        {Version: 1, Kind: api.FirstTag, A: 5, N: 1, S: "Go"},
		"\x02\x01\x02\x08tech":          {Version: 2, Kind: api.EvFolder, A: 1, S: "tech"},
		"\x02\x02\x01":                  {Version: 2, Kind: api.EvUnfolder, A: -1},
		"\x02\x03\x02\x04\x02u\x02\xff": {Version: 2, Kind: api.EvFeed, A: 1, B: 2, S: "u", T: "\xff"},
		"\x02\x04\x00":                  {Version: 2, Kind: api.EvUnfeed},
		"\x02\x05\x02\x00":              {Version: 2, Kind: api.EvTitle, A: 1},
		"\x02\x06\x02\x04":              {Version: 2, Kind: api.EvMove, A: 1, B: 2},
		"\x02\x07\x02\x04\x05\x02g\x00": {Version: 2, Kind: api.EvItem, A: 1, B: 2, N: -3, S: "g"},
		"\x02\x08\x02\x04":              {Version: 2, Kind: api.EvRead, A: 1, N: 2},
		"\x02\x09\x02\x02":              {Version: 2, Kind: api.EvStar, A: 1, N: 1},
		"\x02\x0a\x02\x02\x04Go":        {Version: 2, Kind: api.EvTag, A: 1, N: 1, S: "Go"},
		"\x02\x0b\x02\x02a\x04go":       {Version: 2, Kind: api.EvSearch, A: 1, S: "a", T: "go"},
		"\x02\x0c\x80\x01":              {Version: 2, Kind: api.EvUnsearch, A: 64},
		"\x02\x0d\x01":                  {Version: 2, Kind: api.EvClock, N: -1},
	} {
		if b, e := old.Put(o); e != api.OK || string(b) != want {
			t.Errorf("Put(%v): %x, %d", o, b, e)
		}
		if got, e := old.Get([]byte(want)); e != api.OK || got != o {
			t.Errorf("Get(%x): %v, %d", want, got, e)
		}
	}
}

// P16.1, P16.3: each kind, with numbers and texts at the limits.
func TestPutAndGet(t *testing.T) {
	for _, o := range good() {
		if e := old.Check(o); e != api.OK {
			t.Errorf("Check(%.200v): %d", o, e)
		}
		b, e := old.Put(o)
		if e != api.OK || !bytes.Equal(b, bytesOf(o)) {
			t.Errorf("Put(%.200v): %x, %d", o, b, e)
		}
		if got, e := old.Get(b); e != api.OK || got != o {
			t.Errorf("Get(%.200x): %v, %d", b, got, e)
		}
	}
}

// checkRefused holds what may not be told against each function.
func checkRefused(t *testing.T, o api.Old) {
	t.Helper()
	if e := old.Check(o); e != api.ErrOld {
		t.Errorf("Check(%.200v): %d", o, e)
	}
	if b, e := old.Put(o); e != api.ErrOld || len(b) != 0 {
		t.Errorf("Put(%.200v): %x, %d", o, b, e)
	}
	if len(old.Second(o)) != 0 || len(old.Third(o)) != 0 {
		t.Errorf("%.200v is lifted: %v, %v", o, old.Second(o), old.Third(o))
	}
}

// P16.1, P16.2: what older formats may not tell.
func TestWhatMayNotBe(t *testing.T) {
	checkRefused(t, api.Old{})
	for _, o := range good() {
		fields := used[o.Version][o.Kind]
		for _, field := range "ABNST" {
			if strings.ContainsRune(fields, field) {
				for _, n := range []int{1 << 53, -1 << 53, math.MaxInt, math.MinInt} {
					if field < 'S' {
						checkRefused(t, set(o, field, n, ""))
					}
				}
				if field >= 'S' {
					checkRefused(t, set(o, field, 0, strings.Repeat("x", 1025)))
					checkRefused(t, set(o, field, 0, strings.Repeat("x", 1<<16+1)))
				}
				continue
			}
			checkRefused(t, set(o, field, 1, "x"))
			checkRefused(t, set(o, field, -1, "\x00"))
			checkRefused(t, set(o, field, math.MinInt, strings.Repeat("x", 1025)))
		}
		for _, version := range otherVersions {
			other := o
			other.Version = version
			checkRefused(t, other)
		}
		for _, kind := range otherKinds {
			other := o
			other.Kind = kind
			checkRefused(t, other)
		}
	}
	for kind := 6; kind < 14; kind++ {
		for _, fields := range used[2] { // whichever fields it has
			o := api.Old{Version: 1, Kind: kind}
			for _, field := range fields {
				o = set(o, field, 1, "a")
			}
			checkRefused(t, o)
		}
	}
}

// P16.1, P16.2: bytes of no older format.
func TestGetOfNone(t *testing.T) {
	for name, s := range map[string]string{
		"nothing":                         "",
		"a version alone":                 "\x01",
		"no fields":                       "\x01\x04",
		"a field too few":                 "\x01\x04\x0a",
		"a byte too many":                 "\x01\x04\x0a\x06\x00",
		"no version":                      "\x00\x04\x0a\x06",
		"the fourth version":              "\x04\x04\x0a\x06",
		"no kind of the first one":        "\x01\x06\x0a",
		"the kind 0":                      "\x01\x00",
		"no kind of the second one":       "\x02\x0e\x02",
		"the kind 0 of the second":        "\x02\x00",
		"another form of a number":        "\x02\x04\x86\x00",
		"a number that does not end":      "\x02\x04\x86",
		"too many groups":                 "\x02\x0d\x80\x80\x80\x80\x80\x80\x80\x80\x01",
		"too great a number":              "\x02\x0d\xff\xff\xff\xff\xff\xff\xff\x7f",
		"a text that ends too soon":       "\x02\x01\x02\x0atech",
		"a text of fewer bytes":           "\x02\x01\x02\x06tech",
		"a text of a length below 0":      "\x02\x01\x02\x01",
		"a text of another form's length": "\x02\x01\x02\x88\x00tech",
		"too long a text":                 "\x02\x01\x02\x82\x10" + strings.Repeat("x", 1025),
		"a folder within another one":     "\x02\x01\x02\x00\x08tech",
		"an item that is read somewhere":  "\x02\x07\x02\x04\x05\x02g\x02t\x02l",
		"very many bytes":                 "\x02\x04\x02" + strings.Repeat("\x00", 1<<20),
	} {
		if o, e := old.Get([]byte(s)); e != api.ErrOld || o != (api.Old{}) {
			t.Errorf("Get of %s: %v, %d", name, o, e)
		}
		if l, e := old.Events([]byte(s)); e != api.ErrCode || len(l) != 0 {
			t.Errorf("Events of %s: %v, %d", name, l, e)
		}
	}
	if o, e := old.Get([]byte("\x03\x09\x0a\x02")); e != api.ErrOld || o != (api.Old{}) {
		t.Errorf("Get of the third format: %v, %d", o, e)
	}
	if o, e := old.Get(nil); e != api.ErrOld || o != (api.Old{}) {
		t.Errorf("Get of nil: %v, %d", o, e)
	}
	if l, e := old.Events(nil); e != api.ErrCode || len(l) != 0 {
		t.Errorf("Events of nil: %v, %d", l, e)
	}
}

// P16.1, P16.2, P16.3: bytes that are cut, go on, or have another byte in one place.
func TestGetOfOtherBytes(t *testing.T) {
	for _, o := range good() {
		b := bytesOf(o)
		if len(b) > 40 {
			checkGet(t, b)
			checkGet(t, b[:len(b)-1])
			checkGet(t, append(bytes.Clone(b), 0))
			continue
		}
		for i := range b {
			checkGet(t, b[:i])
			for _, c := range []byte{0, 1, 2, 3, 4, 5, 6, 13, 14, 63, 64, 127, 128, 129, 255} {
				other := bytes.Clone(b)
				other[i] = c
				checkGet(t, other)
				checkGet(t, append(bytes.Clone(b), c))
			}
		}
	}
}

// P16.1, P16.2, P16.3: all short bytes of each format.
func TestGetOfShortBytes(t *testing.T) {
	for format := range 5 {
		for kind := range 16 {
			for x := range 256 {
				checkGet(t, []byte{byte(format), byte(kind), byte(x)})
				for _, y := range []byte{0, 1, 2, 6, 7, 64, 127, 128, 255} {
					checkGet(t, []byte{byte(format), byte(kind), byte(x), y})
					checkGet(t, []byte{byte(format), byte(kind), byte(x), y, 0})
				}
			}
		}
	}
	for format := range 256 {
		for kind := range 256 {
			checkGet(t, []byte{byte(format), byte(kind), 2})
			checkGet(t, []byte{byte(format), byte(kind), 2, 2})
		}
	}
}

// R3: nothing that is handed in is changed or kept, and what was answered hangs on no later call.
func TestNothingIsKept(t *testing.T) {
	o := api.Old{Version: 1, Kind: api.FirstTag, A: 5, N: 1, S: "go"}
	b, _ := old.Put(o)
	whole := append(bytes.Clone(b), "behind"...)
	got, _ := old.Get(whole[:len(b)])
	l, _ := old.Events(whole[:len(b)])
	if !bytes.Equal(whole, append(bytes.Clone(b), "behind"...)) {
		t.Errorf("changed: %x", whole)
	}
	for i := range whole {
		whole[i] = 'z'
	}
	want := []api.Event{{Kind: api.EvTag, A: 5, N: 1, S: "go"}}
	if got != o {
		t.Errorf("kept: %v", got)
	}
	same(t, "kept", l, want)
	for i := range b {
		b[i] = 0
	}
	l[0] = api.Event{}
	if again, e := old.Put(o); e != api.OK || !bytes.Equal(again, bytesOf(o)) {
		t.Errorf("put again: %x, %d", again, e)
	}
	same(t, "lifted again", old.Third(o), want)
}
