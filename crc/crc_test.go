package crc_test

import (
	"bytes"
	"hash/crc32"
	"math/rand"
	"slices"
	"strings"
	"testing"

	"newsstand/api"
	"newsstand/crc"
)

// texts are bytes of several lengths, the same each time.
func texts() [][]byte {
	source := rand.New(rand.NewSource(2))
	l := [][]byte{nil, {}, {0}, {0xff}, []byte("123456789"), make([]byte, 64), []byte(strings.Repeat("\xff", 64)), {0xff, 0xff, 0xff, 0xff}}
	for _, n := range []int{1, 2, 3, 4, 5, 7, 8, 9, 31, 100, 1000, api.MaxFrame, api.MaxBytes + 1} {
		b := make([]byte, n)
		source.Read(b)
		l = append(l, b)
	}
	return l
}

// P2.1
func TestSum(t *testing.T) {
	for s, want := range map[string]uint32{
		"":                 0,
		"\x00":             0xd202ef8d,
		"\x80":             0x3fba6cad,
		"\xff":             0xff000000,
		"a":                0xe8b7be43,
		"123456789":        0xcbf43926,
		"\x00\x00\x00\x00": 0x2144df1c,
		"\xff\xff\xff\xff": 0xffffffff,
	} {
		if n := crc.Sum([]byte(s)); n != want {
			t.Errorf("Sum(%x): %x", s, n)
		}
	}
	for x := range 256 {
		if b := []byte{byte(x)}; crc.Sum(b) != crc32.ChecksumIEEE(b) {
			t.Errorf("Sum(%x): %x", b, crc.Sum(b))
		}
	}
	for _, b := range texts() {
		if n := crc.Sum(b); n != crc32.ChecksumIEEE(b) {
			t.Errorf("Sum of %d bytes: %x", len(b), n)
		}
	}
}

// P2.1
func TestMore(t *testing.T) {
	for _, b := range texts() {
		if n := crc.More(0, b); n != crc.Sum(b) { // 0 is the sum of no bytes
			t.Errorf("More(0, %d bytes): %x", len(b), n)
		}
		for _, cut := range []int{0, 1, len(b) / 3, len(b) / 2, len(b) - 1, len(b)} {
			if cut < 0 || cut > len(b) {
				continue
			}
			if n := crc.More(crc.Sum(b[:cut]), b[cut:]); n != crc.Sum(b) {
				t.Errorf("%d bytes in two at %d: %x", len(b), cut, n)
			}
		}
		for _, sum := range []uint32{1, 0x80000000, 0xedb88320, 0xffffffff} { // each is the sum of some text
			if n := crc.More(sum, b); n != crc32.Update(sum, crc32.IEEETable, b) {
				t.Errorf("More(%x, %d bytes): %x", sum, len(b), n)
			}
			if n := crc.More(sum, nil); n != sum {
				t.Errorf("More(%x, nil): %x", sum, n)
			}
		}
	}
	sum := uint32(0)
	for _, c := range []byte("123456789") {
		sum = crc.More(sum, []byte{c})
	}
	if sum != 0xcbf43926 {
		t.Errorf("byte by byte: %x", sum)
	}
}

// P2.1
func TestSeal(t *testing.T) {
	for s, want := range map[string]string{
		"":          "\x00\x00\x00\x00",
		"a":         "a\x43\xbe\xb7\xe8",
		"123456789": "123456789\x26\x39\xf4\xcb",
	} {
		if b := crc.Seal([]byte(s)); string(b) != want {
			t.Errorf("Seal(%q): %x", s, b)
		}
		if b, e := crc.Open([]byte(want)); e != api.OK || string(b) != s {
			t.Errorf("Open(%x): %x, %d", want, b, e)
		}
	}
}

// P2.1, R3: neither what is sealed or opened nor the room behind it is changed, or kept.
func TestNothingIsChanged(t *testing.T) {
	room := []byte("123456789\x26\x39\xf4\xcb and more")
	whole := bytes.Clone(room)
	sealed := crc.Seal(room[:9])
	crc.Sum(room[:9])
	crc.More(5, room[:9])
	crc.Open(room[:9])
	opened, e := crc.Open(room[:13])
	if !bytes.Equal(room, whole) {
		t.Errorf("%q", room)
	}
	if e != api.OK || string(opened) != "123456789" {
		t.Fatal(opened, e)
	}
	sealed[0], sealed[12] = 'x', 'x'
	if !bytes.Equal(room, whole) {
		t.Errorf("%q", room)
	}
	if b := crc.Seal(room[:9]); !bytes.Equal(b, room[:13]) {
		t.Errorf("sealed again: %q", b)
	}
}

// P2.2
func TestSealedIsOpened(t *testing.T) {
	for _, b := range texts() {
		sealed := crc.Seal(b)
		if len(sealed) != len(b)+4 || !bytes.Equal(sealed[:len(b)], b) {
			t.Errorf("Seal of %d bytes: %d bytes", len(b), len(sealed))
		}
		if x, e := crc.Open(sealed); e != api.OK || !bytes.Equal(x, b) {
			t.Errorf("%d bytes: %d bytes, %d", len(b), len(x), e)
		}
		twice := crc.Seal(sealed)
		if x, e := crc.Open(twice); e != api.OK || !bytes.Equal(x, sealed) {
			t.Errorf("%d bytes, twice: %d bytes, %d", len(b), len(x), e)
		}
	}
}

func refuses(t *testing.T, why string, b []byte) {
	t.Helper()
	if x, e := crc.Open(b); e != api.ErrSum || len(x) != 0 {
		t.Errorf("%s: Open(%.40x): %.40x, %d", why, b, x, e)
	}
}

// P2.1: fewer bytes than a sum has, a sum elsewhere or otherwise.
func TestNotSealed(t *testing.T) {
	for n := range 4 {
		refuses(t, "too few", make([]byte, n))
		refuses(t, "too few", bytes.Repeat([]byte{0xff}, n))
	}
	refuses(t, "nil", nil)
	refuses(t, "not turned in the end", []byte("123456789\xd9\xc6\x0b\x34"))
	refuses(t, "the highest byte first", []byte("123456789\xcb\xf4\x39\x26"))
	refuses(t, "the sum first", []byte("\x26\x39\xf4\xcb123456789"))
	refuses(t, "no sum", []byte("123456789"))
	refuses(t, "a byte behind it", []byte("123456789\x26\x39\xf4\xcb\x00"))
	refuses(t, "a byte less", []byte("123456789\x26\x39\xf4"))
	refuses(t, "all ones of no bytes", []byte{0xff, 0xff, 0xff, 0xff})
}

// turn turns the bits of b from the bit k on where pattern has one.
func turn(b []byte, k int, pattern uint32) {
	for i := range 32 {
		if pattern>>i&1 == 1 {
			b[(k+i)/8] ^= 1 << ((k + i) % 8)
		}
	}
}

// P2.3
func TestTurned(t *testing.T) {
	source := rand.New(rand.NewSource(3))
	patterns := []uint32{1, 3, 0xff, 0xffff, 0xffffffff, 0x80000001, 0x55555555, 0xedb88321, 0x04c11db7, 0x82608edb}
	for i := range 31 {
		patterns = append(patterns, 1|2<<i) // two bits
	}
	for range 60 {
		patterns = append(patterns, source.Uint32()|1)
	}
	for _, s := range []string{"", "a", "123456789", "a text that is sealed", "\x00\x00\x00\x00\x00\x00\x00\x00"} {
		sealed := crc.Seal([]byte(s))
		for k := range 8 * len(sealed) {
			for _, p := range patterns {
				if left := 8*len(sealed) - k; left < 32 {
					p &= 1<<left - 1
				}
				b := slices.Clone(sealed)
				turn(b, k, p)
				refuses(t, "turned", b)
			}
		}
	}
}

// P2.3: in the first, a middle and the last bytes of many.
func TestTurnedInMany(t *testing.T) {
	b := crc.Seal(bytes.Repeat([]byte("newsstand"), 1000))
	for _, k := range []int{0, 1, 31, 4000, 8*len(b) - 64, 8*len(b) - 40, 8*len(b) - 33, 8*len(b) - 32} {
		for _, p := range []uint32{1, 0x80000001, 0xffffffff, 0x12345679} {
			turn(b, k, p)
			refuses(t, "turned", b)
			turn(b, k, p)
		}
	}
	if _, e := crc.Open(b); e != api.OK {
		t.Error(e)
	}
}
