package date_test

import (
	"math"
	"testing"
	"time"

	"newsstand/api"
	"newsstand/date"
)

// The first and the last moment.
const (
	first = -62135596800
	last  = 253402300799
)

// edges are dates, their moments and how they are shown.
var edges = []struct {
	d    api.Date
	n    int
	show string
}{
	{api.Date{Year: 1, Month: 1, Day: 1}, first, "0001-01-01T00:00:00Z"},
	{api.Date{Year: 1, Month: 12, Day: 31, Hour: 23, Minute: 59, Second: 59}, -62104060801, "0001-12-31T23:59:59Z"},
	{api.Date{Year: 4, Month: 2, Day: 29}, -62035891200, "0004-02-29T00:00:00Z"},
	{api.Date{Year: 100, Month: 3, Day: 1}, -59006361600, "0100-03-01T00:00:00Z"},
	{api.Date{Year: 1582, Month: 10, Day: 10}, -12219724800, "1582-10-10T00:00:00Z"},
	{api.Date{Year: 1969, Month: 12, Day: 31, Hour: 23, Minute: 59, Second: 59}, -1, "1969-12-31T23:59:59Z"},
	{api.Date{Year: 1970, Month: 1, Day: 1}, 0, "1970-01-01T00:00:00Z"},
	{api.Date{Year: 1970, Month: 1, Day: 1, Second: 59}, 59, "1970-01-01T00:00:59Z"},
	{api.Date{Year: 1970, Month: 1, Day: 1, Minute: 59}, 3540, "1970-01-01T00:59:00Z"},
	{api.Date{Year: 1970, Month: 1, Day: 1, Hour: 23}, 82800, "1970-01-01T23:00:00Z"},
	{api.Date{Year: 1970, Month: 1, Day: 2, Second: 1}, 86401, "1970-01-02T00:00:01Z"},
	{api.Date{Year: 2000, Month: 2, Day: 29, Hour: 12}, 951825600, "2000-02-29T12:00:00Z"},
	{api.Date{Year: 2009, Month: 2, Day: 13, Hour: 23, Minute: 31, Second: 30}, 1234567890, "2009-02-13T23:31:30Z"},
	{api.Date{Year: 2100, Month: 3, Day: 1}, 4107542400, "2100-03-01T00:00:00Z"},
	{api.Date{Year: 9999, Month: 12, Day: 31, Hour: 23, Minute: 59, Second: 59}, last, "9999-12-31T23:59:59Z"},
}

// wrong are dates that may not be.
var wrong = []api.Date{
	{},
	{Year: 0, Month: 1, Day: 1},
	{Year: -1, Month: 1, Day: 1},
	{Year: 10000, Month: 1, Day: 1},
	{Year: math.MaxInt, Month: 1, Day: 1},
	{Year: math.MinInt, Month: 1, Day: 1},
	{Year: 2000, Month: 0, Day: 1},
	{Year: 2000, Month: -1, Day: 1},
	{Year: 2000, Month: 13, Day: 1},
	{Year: 2000, Month: math.MaxInt, Day: 1},
	{Year: 2000, Month: math.MinInt, Day: 1},
	{Year: 2000, Month: 1, Day: 0},
	{Year: 2000, Month: 1, Day: -1},
	{Year: 2000, Month: 1, Day: 32},
	{Year: 2000, Month: 1, Day: math.MaxInt},
	{Year: 2000, Month: 1, Day: math.MinInt},
	{Year: 2000, Month: 4, Day: 31},
	{Year: 2000, Month: 2, Day: 30},
	{Year: 2023, Month: 2, Day: 29},
	{Year: 1900, Month: 2, Day: 29},
	{Year: 100, Month: 2, Day: 29},
	{Year: 2000, Month: 13, Day: 0},
	{Year: 0, Month: 1, Day: 0},
	{Year: 2000, Month: 1, Day: 1, Hour: 24},
	{Year: 2000, Month: 1, Day: 1, Hour: -1},
	{Year: 2000, Month: 1, Day: 1, Hour: math.MaxInt},
	{Year: 2000, Month: 1, Day: 1, Hour: math.MinInt},
	{Year: 2000, Month: 1, Day: 1, Minute: 60},
	{Year: 2000, Month: 1, Day: 1, Minute: -1},
	{Year: 2000, Month: 1, Day: 1, Minute: math.MaxInt},
	{Year: 2000, Month: 1, Day: 1, Second: 60},
	{Year: 2000, Month: 1, Day: 1, Second: -1},
	{Year: 2000, Month: 1, Day: 1, Second: math.MinInt},
}

// P4.1
func TestCheck(t *testing.T) {
	for _, c := range edges {
		if e := date.Check(c.d); e != api.OK {
			t.Errorf("Check(%v): %d", c.d, e)
		}
	}
	for _, d := range wrong {
		if e := date.Check(d); e != api.ErrDate {
			t.Errorf("Check(%v): %d", d, e)
		}
		if n, e := date.Moment(d); n != 0 || e != api.ErrDate {
			t.Errorf("Moment(%v): %d, %d", d, n, e)
		}
	}
}

// P4.1
func TestDays(t *testing.T) {
	for year := 1; year <= 9999; year++ {
		for month := 1; month <= 12; month++ {
			want := time.Date(year, time.Month(month)+1, 0, 0, 0, 0, 0, time.UTC).Day()
			if n := date.Days(year, month); n != want {
				t.Fatalf("Days(%d, %d): %d, not %d", year, month, n, want)
			}
		}
	}
	for _, year := range []int{math.MinInt, -4, -1, 0, 10000, 10004, math.MaxInt} {
		for _, month := range []int{-1, 0, 1, 2, 4, 12, 13} {
			if n := date.Days(year, month); n != 0 {
				t.Errorf("Days(%d, %d): %d", year, month, n)
			}
		}
	}
	for _, month := range []int{math.MinInt, -1, 0, 13, 14, 16, math.MaxInt} {
		if n := date.Days(2000, month); n != 0 {
			t.Errorf("Days(2000, %d): %d", month, n)
		}
	}
}

// P4.1, P4.2: at the edges.
func TestMomentsAtTheEdges(t *testing.T) {
	for _, c := range edges {
		if n, e := date.Moment(c.d); n != c.n || e != api.OK {
			t.Errorf("Moment(%v): %d, %d", c.d, n, e)
		}
		if d, e := date.Of(c.n); d != c.d || e != api.OK {
			t.Errorf("Of(%d): %v, %d", c.n, d, e)
		}
		if s := date.Show(c.n); s != c.show {
			t.Errorf("Show(%d): %q", c.n, s)
		}
	}
}

// P4.1, P4.2: ahead of the first moment, and behind the last one.
func TestMomentsThatAreNone(t *testing.T) {
	for _, n := range []int{first - 1, first - 86400, math.MinInt, last + 1, last + 86400, math.MaxInt} {
		if d, e := date.Of(n); d != (api.Date{}) || e != api.ErrDate {
			t.Errorf("Of(%d): %v, %d", n, d, e)
		}
		if s := date.Show(n); s != "" {
			t.Errorf("Show(%d): %q", n, s)
		}
	}
}

// undo holds a moment against the library's, and its date and its text against itself.
func undo(t *testing.T, n int) {
	at := time.Unix(int64(n), 0).UTC()
	want := api.Date{Year: at.Year(), Month: int(at.Month()), Day: at.Day(), Hour: at.Hour(), Minute: at.Minute(), Second: at.Second()}
	d, e := date.Of(n)
	if d != want || e != api.OK {
		t.Fatalf("Of(%d): %v, %d, not %v", n, d, e, want)
	}
	if e := date.Check(d); e != api.OK {
		t.Fatalf("Check(%v): %d", d, e)
	}
	if m, e := date.Moment(d); m != n || e != api.OK {
		t.Fatalf("Moment(%v): %d, %d, not %d", d, m, e, n)
	}
	s := date.Show(n)
	if s != at.Format("2006-01-02T15:04:05Z") {
		t.Fatalf("Show(%d): %q", n, s)
	}
	if m, e := date.Web(s); m != n || e != api.OK {
		t.Fatalf("Web(%q): %d, %d, not %d", s, m, e, n)
	}
	if m, e := date.Any(s); m != n || e != api.OK {
		t.Fatalf("Any(%q): %d, %d, not %d", s, m, e, n)
	}
}

// P4.3, P4.1, P4.2: at both edges of each month, and in between.
func TestOfAndMomentUndoEachOther(t *testing.T) {
	for year := 1; year <= 9999; year++ {
		for month := time.January; month <= time.December; month++ {
			n := int(time.Date(year, month, 1, 0, 0, 0, 0, time.UTC).Unix())
			undo(t, n)
			if n > first {
				undo(t, n-1)
			}
		}
	}
	for n := first; n <= last; n += 86400*17 + 3601 {
		undo(t, n)
	}
	for n := -3700; n <= 90000; n++ {
		undo(t, n)
	}
	undo(t, last)
}
