package disk_test

import (
	"math"
	"math/rand"
	"slices"
	"strings"
	"testing"

	"newsstand/api"
	"newsstand/disk"
)

// three answers a disk with the files a (1 of 3 bytes safe), b (all safe), c (none safe), made by 6 deeds.
func three(t *testing.T) *disk.Disk {
	t.Helper()
	d := made(t, 100)
	d.Append("a", []byte("1"))
	d.Sync("a")
	d.Append("a", []byte("23"))
	d.Append("b", []byte("456"))
	d.Sync("b")
	d.Append("c", []byte("789"))
	if d.Deeds() != 6 {
		t.Fatal(d.Deeds())
	}
	return d
}

// isOff asks all of a disk that is off.
func isOff(t *testing.T, d *disk.Disk) {
	t.Helper()
	if !d.Off() {
		t.Fatal("not off")
	}
	deeds, names, used := d.Deeds(), d.Names(), d.Used()
	for _, name := range []string{"a", "b", "c", "none", "Bad", "", strings.Repeat("x", 25)} {
		is(t, "Append", d.Append(name, []byte("x")), api.ErrOff)
		is(t, "Append", d.Append(name, nil), api.ErrOff)
		is(t, "Append", d.Append(name, make([]byte, 1000)), api.ErrOff)
		is(t, "Sync", d.Sync(name), api.ErrOff)
		is(t, "Rename", d.Rename(name, "d"), api.ErrOff)
		is(t, "Rename", d.Rename("a", name), api.ErrOff)
		is(t, "Delete", d.Delete(name), api.ErrOff)
		if b, e := d.Read(name); b != nil || e != api.ErrOff {
			t.Error("Read", b, e)
		}
	}
	if !d.Off() || d.Deeds() != deeds || d.Used() != used || !slices.Equal(d.Names(), names) {
		t.Error("what is refused changed something")
	}
}

// P3.2: at which deed the power goes.
func TestStop(t *testing.T) {
	for n := range 5 {
		d := three(t)
		is(t, "Stop", d.Stop(n), api.OK)
		for i := range n {
			if d.Off() {
				t.Fatalf("Stop(%d): off behind %d", n, i)
			}
			is(t, "Append", d.Append("a", []byte("x")), api.OK)
		}
		if d.Off() {
			t.Fatalf("Stop(%d): off too soon", n)
		}
		is(t, "the power goes", d.Append("a", []byte("y")), api.ErrOff)
		if d.Deeds() != 6+n {
			t.Errorf("Stop(%d): %d deeds", n, d.Deeds())
		}
		isOff(t, d)
		d.Crash([]int{99, 99})
		holds(t, "on again", d, "a:123"+strings.Repeat("x", n)+"y b:456 c:789")
	}
}

// P3.2: what each deed leaves, if the power goes at it.
func TestTheDeedAtWhichThePowerGoes(t *testing.T) {
	for _, c := range []struct {
		name string
		deed func(d *disk.Disk) api.Errno
		most string // all bytes are kept
		none string // none is
	}{
		{"Append", func(d *disk.Disk) api.Errno { return d.Append("b", []byte("xy")) }, "a:123 b:456xy c:789", "a:1 b:456 c:"},
		{"Append to a new one", func(d *disk.Disk) api.Errno { return d.Append("new", []byte("xy")) }, "a:123 b:456 c:789 new:xy", "a:1 b:456 c: new:"},
		{"Append nothing", func(d *disk.Disk) api.Errno { return d.Append("new", nil) }, "a:123 b:456 c:789 new:", "a:1 b:456 c: new:"},
		{"Sync", func(d *disk.Disk) api.Errno { return d.Sync("c") }, "a:123 b:456 c:789", "a:1 b:456 c:"},
		{"Rename", func(d *disk.Disk) api.Errno { return d.Rename("b", "c") }, "a:123 b:456 c:789", "a:1 b:456 c:"},
		{"Rename to a new name", func(d *disk.Disk) api.Errno { return d.Rename("b", "d") }, "a:123 b:456 c:789", "a:1 b:456 c:"},
		{"Delete", func(d *disk.Disk) api.Errno { return d.Delete("b") }, "a:123 b:456 c:789", "a:1 b:456 c:"},
	} {
		for want, keep := range map[string][]int{c.most: {9, 9, 9, 9}, c.none: nil} {
			d := three(t)
			d.Stop(0)
			is(t, c.name, c.deed(d), api.ErrOff)
			isOff(t, d)
			if d.Deeds() != 6 {
				t.Errorf("%s: %d deeds", c.name, d.Deeds())
			}
			d.Crash(keep)
			holds(t, c.name, d, want)
			if d.Off() {
				t.Errorf("%s: off behind a crash", c.name)
			}
		}
	}
}

// P3.2: what is refused is no deed, and neither counts nor lets the power go.
func TestStopAndWhatIsRefused(t *testing.T) {
	for n := range 3 {
		d := three(t)
		d.Stop(n)
		for range n + 1 {
			for range 3 {
				is(t, "no name", d.Append("A", nil), api.ErrName)
				is(t, "full", d.Append("a", make([]byte, 100)), api.ErrFull)
				is(t, "no file", d.Sync("d"), api.ErrNone)
				is(t, "no name", d.Rename("a", "A"), api.ErrName)
				is(t, "no file", d.Rename("d", "a"), api.ErrNone)
				is(t, "no file", d.Delete("d"), api.ErrNone)
				if b, e := d.Read("d"); b != nil || e != api.ErrNone {
					t.Error(b, e)
				}
				if b, e := d.Read("a"); e != api.OK || string(b) != "123" {
					t.Error(b, e)
				}
			}
			if d.Off() {
				t.Fatal("off")
			}
			d.Sync("b")
		}
		if !d.Off() {
			t.Error("on")
		}
	}
}

// P3.2
func TestStopIsRefusedOrSaidAgain(t *testing.T) {
	d := three(t)
	for _, n := range []int{-1, -2, math.MinInt} {
		is(t, "below 0", d.Stop(n), api.ErrArg)
	}
	is(t, "no Stop", d.Sync("a"), api.OK)
	is(t, "Stop", d.Stop(1), api.OK)
	is(t, "below 0", d.Stop(-1), api.ErrArg)
	is(t, "one", d.Sync("a"), api.OK)
	is(t, "said again", d.Stop(2), api.OK)
	is(t, "one", d.Sync("a"), api.OK)
	is(t, "two", d.Sync("a"), api.OK)
	is(t, "off", d.Sync("a"), api.ErrOff)
	is(t, "below 0", d.Stop(-1), api.ErrArg)
	is(t, "said when it is off", d.Stop(3), api.OK)
	isOff(t, d)
	d.Crash(nil)
	for range 9 {
		is(t, "Stop is forgotten", d.Sync("a"), api.OK)
	}
	is(t, "Stop", d.Stop(math.MaxInt), api.OK)
	is(t, "on", d.Sync("a"), api.OK)
	is(t, "Stop", d.Stop(0), api.OK)
	d.Crash(nil)
	for range 9 {
		is(t, "Stop is forgotten", d.Sync("a"), api.OK)
	}
}

// P3.2: which file keeps how many of its bytes.
func TestCrash(t *testing.T) {
	for _, c := range []struct {
		keep []int
		want string
	}{
		{nil, "a:1 b:456 c:"},
		{[]int{}, "a:1 b:456 c:"},
		{[]int{0}, "a:1 b:456 c:"},
		{[]int{1}, "a:12 b:456 c:"},
		{[]int{2}, "a:123 b:456 c:"},
		{[]int{3}, "a:123 b:456 c:"},
		{[]int{math.MaxInt, math.MaxInt}, "a:123 b:456 c:789"},
		{[]int{-1, -5}, "a:1 b:456 c:"},
		{[]int{math.MinInt, 2}, "a:1 b:456 c:78"},
		{[]int{0, 1}, "a:1 b:456 c:7"},
		{[]int{1, 2, 3}, "a:12 b:456 c:78"},
		{[]int{0, 0, 3}, "a:1 b:456 c:"},
		{[]int{2, 3}, "a:123 b:456 c:789"},
		{[]int{2, 4, 9, 9}, "a:123 b:456 c:789"},
	} {
		d := three(t)
		d.Crash(c.keep)
		holds(t, "crash", d, c.want)
		if d.Off() || d.Deeds() != 6 {
			t.Errorf("%v: Off %v, Deeds %d", c.keep, d.Off(), d.Deeds())
		}
		d.Crash(nil)
		holds(t, "all that was left is safe", d, c.want)
		is(t, "on", d.Append("b", []byte("xyz")), api.OK)
		d.Crash([]int{1, 2})
		holds(t, "just b has bytes that are not safe", d, strings.Replace(c.want, "456", "456x", 1))
	}
}

// P3.2: the order of names counts, not that in which files were made; files without bytes that are not safe count for nothing.
func TestCrashGoesByNames(t *testing.T) {
	d := made(t, 100)
	for _, name := range []string{"z", "m", "b", "0", "-", "safe", "empty"} {
		d.Append(name, []byte("1234"))
	}
	d.Sync("safe")
	d.Sync("b")
	d.Delete("empty")
	d.Append("empty", nil)
	d.Rename("z", "a")
	d.Crash([]int{0, 1, 2, 3, 4})
	holds(t, "crash", d, "-: 0:1 a:12 b:1234 empty: m:123 safe:1234")
}

// model is what a file is to be: all of its bytes, those that a Sync said are safe, and whether it is there.
type model struct {
	all, safe string
	there     bool
}

// P3.3, P3.1, P3.2: whatever is done, and crashes, each file has a beginning of what was appended to it, with all that was synced.
func TestWhatWasSyncedIsRead(t *testing.T) {
	names := []string{"a", "b", "c", "list", "list.next"}
	source := rand.New(rand.NewSource(3))
	for range 300 {
		d := made(t, 1<<16)
		want := map[string]model{}
		letter := 0
		for range 120 {
			from, to := names[source.Intn(5)], names[source.Intn(5)]
			m := want[from]
			if source.Intn(12) == 0 {
				d.Stop(source.Intn(3))
			}
			off := d.Off()
			switch source.Intn(8) {
			case 0, 1, 2:
				letter++
				b := strings.Repeat(string(rune('a'+letter%26)), source.Intn(9))
				e := d.Append(from, []byte(b))
				if !off && (e == api.OK || d.Off()) {
					want[from] = model{m.all + b, m.safe, true}
				}
			case 3, 4:
				if e := d.Sync(from); e == api.OK {
					want[from] = model{m.all, m.all, true}
				}
			case 5:
				if e := d.Rename(from, to); e == api.OK {
					delete(want, from)
					want[to] = m
				}
			case 6:
				if e := d.Delete(from); e == api.OK {
					delete(want, from)
				}
			case 7:
				d.Crash([]int{source.Intn(9) - 2, source.Intn(20), source.Intn(5)}[:source.Intn(4)])
				for _, name := range names {
					b, e := d.Read(name)
					m := want[name]
					if (e == api.OK) != m.there || e != api.OK && e != api.ErrNone {
						t.Fatalf("%s: %d, there: %v", name, e, m.there)
					}
					if !strings.HasPrefix(m.all, string(b)) || !strings.HasPrefix(string(b), m.safe) {
						t.Fatalf("%s: %q of %q, of which %q was synced", name, b, m.all, m.safe)
					}
					if m.there {
						want[name] = model{string(b), string(b), true}
					}
				}
				if len(d.Names()) != len(want) {
					t.Fatal(d.Names())
				}
			}
			if d.Off() {
				continue
			}
			for name, m := range want {
				if b, e := d.Read(name); e != api.OK || string(b) != m.all {
					t.Fatalf("%s: %q, %d, not %q", name, b, e, m.all)
				}
			}
		}
	}
}
