package disk_test

import (
	"bytes"
	"math"
	"slices"
	"strings"
	"testing"

	"newsstand/api"
	"newsstand/disk"
)

// made answers a disk of that quota.
func made(t *testing.T, quota int) *disk.Disk {
	t.Helper()
	d, e := disk.New(quota)
	if e != api.OK || d == nil {
		t.Fatalf("New(%d): %v, %d", quota, d, e)
	}
	return d
}

// is holds an answer against the one that is wanted.
func is(t *testing.T, what string, e, want api.Errno) {
	t.Helper()
	if e != want {
		t.Errorf("%s: %d, not %d", what, e, want)
	}
}

// holds looks at all files of a disk: a name, a colon and the bytes of each, a blank between.
func holds(t *testing.T, what string, d *disk.Disk, want string) {
	t.Helper()
	var l []string
	used := 0
	for _, name := range d.Names() {
		b, e := d.Read(name)
		if e != api.OK {
			t.Errorf("%s: Read(%q): %d", what, name, e)
		}
		l = append(l, name+":"+string(b))
		used += len(b)
	}
	if s := strings.Join(l, " "); s != want {
		t.Errorf("%s: %q, not %q", what, s, want)
	}
	if d.Used() != used {
		t.Errorf("%s: Used: %d, not %d", what, d.Used(), used)
	}
}

var goodNames = []string{"a", "z", "0", "9", ".", "-", "..", "list.next", "snap.0001", "-x", "abcdefghijklmnopqrstuvw", strings.Repeat("x", api.MaxName)}

var badNames = []string{
	"", strings.Repeat("x", api.MaxName+1), strings.Repeat("x", 1000), "A", "Z", "aB", "a b", " a", "a ", "a/b", "a_b", "a\x00", "\x00", "a\n", "a:", "a,",
	"\x60", "{", "@", "[", "/", "a+b", "ä", "aé", "ａ", "a\u0661", "\xff", "a\x80", "a\ufffd", strings.Repeat("x", 23) + "é",
}

// P3.1
func TestNew(t *testing.T) {
	for _, q := range []int{-1, math.MinInt, api.MaxQuota + 1, math.MaxInt} {
		if d, e := disk.New(q); d != nil || e != api.ErrArg {
			t.Errorf("New(%d): %v, %d", q, d, e)
		}
	}
	for _, q := range []int{0, 1, 1000, api.MaxQuota - 1, api.MaxQuota} {
		d := made(t, q)
		holds(t, "new", d, "")
		if d.Off() || d.Deeds() != 0 {
			t.Errorf("New(%d): Off %v, Deeds %d", q, d.Off(), d.Deeds())
		}
	}
}

// P3.1
func TestAppend(t *testing.T) {
	d := made(t, 100)
	is(t, "a", d.Append("a", []byte("one")), api.OK)
	is(t, "b", d.Append("b", []byte{0, 0xff, '\n'}), api.OK)
	is(t, "a", d.Append("a", []byte("two")), api.OK)
	is(t, "empty", d.Append("empty", nil), api.OK)
	is(t, "a", d.Append("a", []byte{}), api.OK)
	holds(t, "appended", d, "a:onetwo b:\x00\xff\n empty:")
}

// P3.1
func TestNames(t *testing.T) {
	for _, name := range goodNames {
		d := made(t, 10)
		is(t, name, d.Append(name, []byte("x")), api.OK)
		is(t, name, d.Sync(name), api.OK)
		is(t, name, d.Rename(name, "other"), api.OK)
		is(t, name, d.Rename("other", name), api.OK)
		holds(t, name, d, name+":x")
		is(t, name, d.Delete(name), api.OK)
		holds(t, name, d, "")
	}
	for _, name := range badNames {
		d := made(t, 10)
		is(t, name, d.Append(name, nil), api.ErrName)
		is(t, name, d.Append("x", []byte("x")), api.OK)
		is(t, name, d.Rename("x", name), api.ErrName)
		is(t, name, d.Rename("none", name), api.ErrName)
		is(t, name, d.Rename(name, "y"), api.ErrNone)
		is(t, name, d.Append(name, make([]byte, 11)), api.ErrName)
		is(t, name, d.Sync(name), api.ErrNone)
		is(t, name, d.Delete(name), api.ErrNone)
		if b, e := d.Read(name); b != nil || e != api.ErrNone {
			t.Errorf("Read(%q): %x, %d", name, b, e)
		}
		holds(t, name, d, "x:x")
		if d.Deeds() != 1 {
			t.Errorf("%q: %d deeds", name, d.Deeds())
		}
	}
}

// P3.1
func TestQuota(t *testing.T) {
	d := made(t, 10)
	is(t, "one too many", d.Append("a", make([]byte, 11)), api.ErrFull)
	holds(t, "refused", d, "")
	is(t, "some", d.Append("a", []byte("123456")), api.OK)
	is(t, "one too many", d.Append("a", []byte("12345")), api.ErrFull)
	is(t, "in another", d.Append("b", []byte("12345")), api.ErrFull)
	holds(t, "refused", d, "a:123456")
	is(t, "all", d.Append("b", []byte("1234")), api.OK)
	is(t, "one more", d.Append("b", []byte("5")), api.ErrFull)
	is(t, "one more in another", d.Append("c", []byte("5")), api.ErrFull)
	is(t, "nothing more", d.Append("c", nil), api.OK)
	holds(t, "full", d, "a:123456 b:1234 c:")
	is(t, "in place of another", d.Rename("b", "a"), api.OK)
	is(t, "one too many", d.Append("c", []byte("1234567")), api.ErrFull)
	is(t, "there is room again", d.Append("c", []byte("123456")), api.OK)
	is(t, "delete", d.Delete("c"), api.OK)
	is(t, "one too many", d.Append("a", []byte("1234567")), api.ErrFull)
	is(t, "there is room again", d.Append("a", []byte("567890")), api.OK)
	d.Crash([]int{3})
	is(t, "one too many", d.Append("a", []byte("12345678")), api.ErrFull)
	is(t, "there is room behind a crash", d.Append("a", []byte("abcdefg")), api.OK)
	holds(t, "full again", d, "a:123abcdefg")

	none := made(t, 0)
	is(t, "no quota", none.Append("a", nil), api.OK)
	is(t, "no quota", none.Append("a", []byte("x")), api.ErrFull)

	most := made(t, api.MaxQuota)
	is(t, "the greatest quota", most.Append("a", make([]byte, api.MaxQuota+1)), api.ErrFull)
	is(t, "the greatest quota", most.Append("a", make([]byte, api.MaxQuota)), api.OK)
	is(t, "the greatest quota", most.Append("a", []byte("x")), api.ErrFull)
}

// P3.1
func TestMaxFiles(t *testing.T) {
	d := made(t, 1000)
	for i := range api.MaxFiles {
		is(t, "so many", d.Append("f"+string(rune('a'+i/8))+string(rune('a'+i%8)), []byte("x")), api.OK)
	}
	if len(d.Names()) != 64 {
		t.Fatal(len(d.Names()))
	}
	is(t, "one more", d.Append("more", nil), api.ErrFull)
	is(t, "one more", d.Append("more", []byte("x")), api.ErrFull)
	is(t, "no name", d.Append("More", nil), api.ErrName)
	is(t, "one that is there", d.Append("faa", []byte("y")), api.OK)
	is(t, "another name", d.Rename("faa", "fzz"), api.OK)
	is(t, "one more", d.Append("faa", nil), api.ErrFull)
	is(t, "in place of another", d.Rename("fab", "fac"), api.OK)
	is(t, "a new one", d.Append("faa", nil), api.OK)
	is(t, "one more", d.Append("fab", nil), api.ErrFull)
	is(t, "delete", d.Delete("fad"), api.OK)
	is(t, "a new one", d.Append("fab", nil), api.OK)
	is(t, "one more", d.Append("fad", nil), api.ErrFull)
	if len(d.Names()) != api.MaxFiles {
		t.Error(len(d.Names()))
	}
}

// P3.1
func TestSync(t *testing.T) {
	d := made(t, 100)
	d.Append("a", []byte("123"))
	d.Append("b", []byte("456"))
	is(t, "none", d.Sync("c"), api.ErrNone)
	is(t, "a", d.Sync("a"), api.OK)
	is(t, "a again", d.Sync("a"), api.OK)
	d.Append("a", []byte("789"))
	c := d.Clone()
	c.Crash(nil)
	holds(t, "the first bytes are safe", c, "a:123 b:")
	is(t, "a, all of it", d.Sync("a"), api.OK)
	d.Crash(nil)
	holds(t, "all bytes are safe", d, "a:123789 b:")
}

// P3.1
func TestRename(t *testing.T) {
	d := made(t, 100)
	d.Append("a", []byte("12"))
	d.Sync("a")
	d.Append("a", []byte("34"))
	d.Append("b", []byte("56"))
	d.Sync("b")
	is(t, "none", d.Rename("c", "a"), api.ErrNone)
	is(t, "none, to itself", d.Rename("c", "c"), api.ErrNone)
	holds(t, "refused", d, "a:1234 b:56")
	is(t, "to itself", d.Rename("a", "a"), api.OK)
	holds(t, "to itself", d, "a:1234 b:56")
	is(t, "in place of another", d.Rename("a", "b"), api.OK)
	holds(t, "in place of another", d, "b:1234")
	is(t, "it is gone", d.Rename("a", "b"), api.ErrNone)
	is(t, "to a new name", d.Rename("b", "c"), api.OK)
	holds(t, "to a new name", d, "c:1234")
	if d.Deeds() != 8 {
		t.Error(d.Deeds())
	}
	d.Crash(nil)
	holds(t, "just its own safe bytes are safe", d, "c:12")
}

// P3.1
func TestDelete(t *testing.T) {
	d := made(t, 100)
	is(t, "none", d.Delete("a"), api.ErrNone)
	d.Append("a", []byte("123"))
	d.Sync("a")
	d.Append("b", []byte("4"))
	is(t, "a", d.Delete("a"), api.OK)
	holds(t, "deleted", d, "b:4")
	is(t, "none any more", d.Delete("a"), api.ErrNone)
	is(t, "none any more", d.Sync("a"), api.ErrNone)
	if b, e := d.Read("a"); b != nil || e != api.ErrNone {
		t.Error(b, e)
	}
	is(t, "anew", d.Append("a", []byte("xyz")), api.OK)
	d.Crash([]int{1, 0})
	holds(t, "nothing of the old one is left", d, "a:x b:")
}

// P3.1, R3: a disk neither keeps nor changes what is handed in, nor the room behind it, nor shares what it answers.
func TestNothingIsShared(t *testing.T) {
	d := made(t, 100)
	room := []byte("12345 and more")
	d.Append("a", room[:5])
	d.Append("a", room[:2])
	d.Append("b", room[:1])
	if string(room) != "12345 and more" {
		t.Errorf("changed: %q", room)
	}
	copy(room, "xxxxxxxxxxxxxx")
	b, _ := d.Read("a")
	b[0] = 'x'
	_ = append(b, 'x')
	names := d.Names()
	names[0] = "x"
	holds(t, "kept", d, "a:1234512 b:1")
	keep := []int{3, 9}
	d.Crash(keep)
	if !slices.Equal(keep, []int{3, 9}) {
		t.Error(keep)
	}
	b, _ = d.Read("a")
	d.Append("a", []byte("z"))
	d.Append("a", []byte("zz"))
	if !bytes.Equal(b, []byte("123")) || !bytes.Equal(b[:cap(b)][:3], []byte("123")) {
		t.Errorf("%q", b)
	}
}

// P3.2
func TestNamesAreInOrder(t *testing.T) {
	d := made(t, 100)
	want := []string{"-", "--", "-a", ".", ".a", "0", "10", "9", "a", "a-", "a.", "a0", "aa", "b", "z"}
	for i := range want {
		d.Append(want[i*7%len(want)], []byte("x"))
	}
	for range 20 {
		if l := d.Names(); !slices.Equal(l, want) {
			t.Fatal(l)
		}
	}
	if d.Used() != len(want) {
		t.Error(d.Used())
	}
}

// P3.2
func TestDeeds(t *testing.T) {
	d := made(t, 10)
	for i, deed := range []func() api.Errno{
		func() api.Errno { return d.Append("a", []byte("12")) },
		func() api.Errno { return d.Append("a", nil) },
		func() api.Errno { return d.Sync("a") },
		func() api.Errno { return d.Sync("a") },
		func() api.Errno { return d.Rename("a", "a") },
		func() api.Errno { return d.Rename("a", "b") },
		func() api.Errno { return d.Delete("b") },
	} {
		is(t, "deed", deed(), api.OK)
		if d.Deeds() != i+1 {
			t.Errorf("behind deed %d: %d", i+1, d.Deeds())
		}
	}
	d.Append("A", nil)
	d.Append("a", make([]byte, 11))
	d.Sync("a")
	d.Rename("a", "b")
	d.Rename("a", "B")
	d.Delete("a")
	d.Read("a")
	d.Names()
	d.Stop(3)
	d.Stop(-1)
	d.Crash([]int{1})
	d.Clone().Append("c", nil)
	if d.Deeds() != 7 {
		t.Errorf("what is refused, or none, counts: %d", d.Deeds())
	}
}

// P3.2
func TestClone(t *testing.T) {
	d := made(t, 10)
	d.Append("a", []byte("12"))
	d.Sync("a")
	d.Append("a", []byte("34"))
	d.Append("b", nil)
	d.Stop(3)
	c := d.Clone()
	if c == d || c.Deeds() != 4 || c.Off() {
		t.Fatal(c.Deeds(), c.Off())
	}
	holds(t, "clone", c, "a:1234 b:")
	is(t, "the same quota", c.Append("a", []byte("1234567")), api.ErrFull)
	is(t, "one", c.Append("a", []byte("5")), api.OK)
	is(t, "two", c.Rename("b", "c"), api.OK)
	holds(t, "the other is as it was", d, "a:1234 b:")
	is(t, "one", d.Append("a", []byte("6")), api.OK)
	is(t, "two", d.Append("a", []byte("7")), api.OK)
	is(t, "three", d.Delete("b"), api.OK)
	is(t, "off", d.Sync("a"), api.ErrOff)
	if c.Off() || !d.Off() || !d.Clone().Off() || c.Deeds() != 6 || d.Deeds() != 7 {
		t.Error("a clone's power is its own")
	}
	holds(t, "a clone's files are its own", c, "a:12345 c:")
	is(t, "three", c.Delete("c"), api.OK)
	is(t, "off", c.Append("a", []byte("6")), api.ErrOff)
	c.Crash([]int{99})
	holds(t, "cut", c, "a:123456")
	if !d.Off() {
		t.Error("the crash of a clone")
	}
	d.Crash([]int{1})
	holds(t, "cut", d, "a:123")
	holds(t, "the clone is as it was", c, "a:123456")
}

// P3.2: of a nil Disk, and of one that no call made.
func TestNilDisk(t *testing.T) {
	for _, d := range []*disk.Disk{nil, new(disk.Disk)} {
		for range 2 {
			for _, name := range []string{"a", "A", ""} {
				is(t, "Append", d.Append(name, []byte("x")), api.ErrClosed)
				is(t, "Append", d.Append(name, nil), api.ErrClosed)
				is(t, "Sync", d.Sync(name), api.ErrClosed)
				is(t, "Rename", d.Rename("a", name), api.ErrClosed)
				is(t, "Delete", d.Delete(name), api.ErrClosed)
				if b, e := d.Read(name); b != nil || e != api.ErrClosed {
					t.Error("Read", b, e)
				}
			}
			is(t, "Stop", d.Stop(1), api.ErrClosed)
			is(t, "Stop", d.Stop(-1), api.ErrClosed)
			d.Crash(nil)
			d.Crash([]int{1})
			if len(d.Names()) != 0 || d.Used() != 0 || !d.Off() || d.Deeds() != 0 || d.Clone() != nil {
				t.Error(d.Names(), d.Used(), d.Off(), d.Deeds(), d.Clone())
			}
		}
	}
}
