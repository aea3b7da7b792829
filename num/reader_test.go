package num_test

import (
	"math"
	"strings"
	"testing"

	"newsstand/api"
	"newsstand/num"
)

// reads are what may be read next, each with whether it answers a zero value.
var reads = []struct {
	name string
	zero func(r *num.Reader) bool
}{
	{"Num", func(r *num.Reader) bool { return r.Num() == 0 }},
	{"Text", func(r *num.Reader) bool { return r.Text() == "" }},
	{"Byte", func(r *num.Reader) bool { return r.Byte() == 0 }},
	{"Word", func(r *num.Reader) bool { return r.Word() == 0 }},
}

func holds(r *num.Reader, left int, bad bool) bool {
	return r.Left() == left && r.Bad() == bad
}

// P1.2
func TestReaderReads(t *testing.T) {
	r := num.From([]byte("\x00\x7f\x80\x01\xfe\xff\xff\xff\xff\xff\xff\x1f" + "\x00\x06a\x00\xff" + "\x00\x7f\x80\xff" + "\x78\x56\x34\x12\xff\xff\xff\xff"))
	for i, want := range []int{0, -64, 64, api.MaxInt} {
		if n := r.Num(); n != want {
			t.Errorf("Num %d: %d", i, n)
		}
	}
	if !holds(r, 17, false) {
		t.Errorf("behind numbers: %d left", r.Left())
	}
	for i, want := range []string{"", "a\x00\xff"} {
		if s := r.Text(); s != want {
			t.Errorf("Text %d: %q", i, s)
		}
	}
	if !holds(r, 12, false) {
		t.Errorf("behind texts: %d left", r.Left())
	}
	for i, want := range []int{0, 0x7f, 0x80, 0xff} {
		if n := r.Byte(); n != want {
			t.Errorf("Byte %d: %d", i, n)
		}
	}
	if !holds(r, 8, false) {
		t.Errorf("behind bytes: %d left", r.Left())
	}
	for i, want := range []uint32{0x12345678, math.MaxUint32} {
		if n := r.Word(); n != want {
			t.Errorf("Word %d: %x", i, n)
		}
	}
	if !holds(r, 0, false) {
		t.Errorf("at the end: %d left", r.Left())
	}
}

// P1.2: what is wrong makes a reader bad, and bad it stays, whatever is asked and whatever bytes were left.
func TestReaderTurnsBad(t *testing.T) {
	for _, c := range []struct {
		read  int
		bytes string
	}{
		{0, ""}, {1, ""}, {2, ""}, {3, ""},
		{0, "\x80"}, {0, "\xff\xff\xff"}, {0, "\x80\x00\x01\x02"}, {0, "\xff\xff\xff\xff\xff\xff\xff\x1f\x00"}, {0, "\x80\x80\x80\x80\x80\x80\x80\x20\x00"},
		{1, "\x80"}, {1, "\x80\x00abc"}, {1, "\x02"}, {1, "\x06ab"}, {1, "\x80\x01" + strings.Repeat("x", 63)}, // too few
		{1, "\x01abcde"}, {1, "\x7f" + strings.Repeat("x", 100)}, {1, "\xfd\xff\xff\xff\xff\xff\xff\x1fabc"}, // a length below 0
		{1, "\xfe\xff\xff\xff\xff\xff\xff\x1fabc"},
		{1, "\x82\x80\x08" + strings.Repeat("x", api.MaxBytes+1)}, {1, "\x82\x80\x08" + strings.Repeat("x", api.MaxBytes+9)}, // too many
		{3, "\x01"}, {3, "\x01\x02"}, {3, "\x01\x02\x03"},
	} {
		r := num.From([]byte(c.bytes))
		what := reads[c.read]
		if !what.zero(r) || !holds(r, 0, true) {
			t.Errorf("%s of %.20x: left %d, bad %v", what.name, c.bytes, r.Left(), r.Bad())
		}
		for range 3 {
			for _, next := range reads {
				if !next.zero(r) || !holds(r, 0, true) {
					t.Errorf("%s of %.20x, then %s: left %d, bad %v", what.name, c.bytes, next.name, r.Left(), r.Bad())
				}
			}
		}
	}
}

// P1.2: asking how much is left, or whether it is bad, changes nothing.
func TestReaderIsAsked(t *testing.T) {
	r := num.From([]byte("\x05\x06"))
	for range 3 {
		if !holds(r, 2, false) {
			t.Error(r.Left(), r.Bad())
		}
	}
	if n := r.Byte(); n != 5 || !holds(r, 1, false) {
		t.Error(n, r.Left(), r.Bad())
	}
	if n := r.Num(); n != 3 || !holds(r, 0, false) {
		t.Error(n, r.Left(), r.Bad())
	}
	for range 3 {
		if !holds(r, 0, false) {
			t.Error(r.Left(), r.Bad())
		}
	}
	if n := r.Byte(); n != 0 || !holds(r, 0, true) {
		t.Error(n, r.Left(), r.Bad())
	}
}

// P1.2: a text may have MaxBytes bytes.
func TestReaderLongText(t *testing.T) {
	s := strings.Repeat("0123456789abcdef", api.MaxBytes/16)
	b, e := num.Text(s)
	if e != api.OK {
		t.Fatal(e)
	}
	r := num.From(append(b, 7))
	if r.Text() != s || !holds(r, 1, false) {
		t.Error(r.Left(), r.Bad())
	}
	if n := r.Byte(); n != 7 || !holds(r, 0, false) {
		t.Error(n)
	}
}

// P1.2
func TestNilReader(t *testing.T) {
	var r *num.Reader
	for range 2 {
		for _, what := range reads {
			if !what.zero(r) || !holds(r, 0, true) {
				t.Errorf("%s of a nil Reader", what.name)
			}
		}
	}
}

// P1.2: a reader of no bytes is not bad till something is read.
func TestEmptyReader(t *testing.T) {
	for _, b := range [][]byte{nil, {}} {
		if r := num.From(b); r == nil || !holds(r, 0, false) {
			t.Error("From no bytes")
		}
	}
}

// P1.2, R3: a reader neither keeps nor changes what it was made of, nor the room behind it.
func TestReaderHasACopy(t *testing.T) {
	room := []byte("\x04ab\x01\x02\x03\x04\x09\x09")
	b := room[:7]
	r := num.From(b)
	for i := range room {
		room[i] = 0x80
	}
	if s, n := r.Text(), r.Word(); s != "ab" || n != 0x04030201 || !holds(r, 0, false) {
		t.Error(s, n, r.Left())
	}
	if r.Byte() != 0 || !r.Bad() {
		t.Error("the room behind the bytes was read")
	}
	for i, x := range room {
		if x != 0x80 {
			t.Error("changed:", i)
		}
	}
}

// P1.2, R4: two readers of the same bytes know nothing of each other.
func TestReadersApart(t *testing.T) {
	b := []byte("\x02\x04")
	r, q := num.From(b), num.From(b)
	if r.Num() != 1 || r.Num() != 2 || r.Num() != 0 || !r.Bad() {
		t.Error("first")
	}
	if q.Num() != 1 || q.Num() != 2 || !holds(q, 0, false) {
		t.Error("second")
	}
}

// P1.3
func TestPutTogetherIsRead(t *testing.T) {
	texts := []string{"", "a", "\x80\x80", strings.Repeat("\xff", 64), strings.Repeat("z", 9000)}
	words := []uint32{0, 1, 0x80, 0xcbf43926, math.MaxUint32}
	var all []byte
	for _, n := range numbers() {
		p, _ := num.Put(n)
		s, _ := num.Text(texts[uint(n)%5])
		all = append(append(append(append(all, p...), s...), num.Word(words[uint(n)%5])...), byte(n))
	}
	r := num.From(all)
	for _, n := range numbers() {
		if m := r.Num(); m != n {
			t.Fatalf("Num: %d, not %d", m, n)
		}
		if s := r.Text(); s != texts[uint(n)%5] {
			t.Fatalf("Text: %q", s)
		}
		if w := r.Word(); w != words[uint(n)%5] {
			t.Fatalf("Word: %x", w)
		}
		if x := r.Byte(); x != n&0xff {
			t.Fatalf("Byte: %d", x)
		}
	}
	if !holds(r, 0, false) {
		t.Error(r.Left(), r.Bad())
	}
}
