package date_test

import (
	"regexp"
	"strconv"
	"strings"
	"testing"
	"time"

	"newsstand/api"
	"newsstand/date"
)

// webForm and mailForm are what dates of the web and of the mail look like.
var (
	webForm  = regexp.MustCompile(`\A([0-9]{4})-([0-9]{2})-([0-9]{2})[Tt]([0-9]{2}):([0-9]{2}):([0-9]{2})(?:\.[0-9]{1,9})?(?:[Zz]|([+-])([0-9]{2}):([0-9]{2}))\z`)
	mailForm = regexp.MustCompile(`\A(?:(?:Mon|Tue|Wed|Thu|Fri|Sat|Sun), )?([0-9]{1,2}) (Jan|Feb|Mar|Apr|May|Jun|Jul|Aug|Sep|Oct|Nov|Dec) ([0-9]{4}|[0-9]{2}) ([0-9]{2}):([0-9]{2})(?::([0-9]{2}))? (?:(GMT|UT|UTC|Z|EST|EDT|CST|CDT|MST|MDT|PST|PDT)|([+-])([0-9]{2})([0-9]{2}))\z`)
)

// hours are by how many hours each zone's time is ahead.
var hours = map[string]int{"GMT": 0, "UT": 0, "UTC": 0, "Z": 0, "EST": -5, "EDT": -4, "CST": -6, "CDT": -5, "MST": -7, "MDT": -6, "PST": -8, "PDT": -7}

// number answers the number of digits, 0 of none.
func number(s string) int {
	n, _ := strconv.Atoi(s)
	return n
}

// at answers the moment of a date of year, month, day, hour, minute and second, of a place whose time is ahead by so many minutes, and whether there is one.
func at(l [6]int, ahead int) (int, bool) {
	x := time.Date(l[0], time.Month(l[1]), l[2], l[3], l[4], l[5], 0, time.UTC)
	if l != [6]int{x.Year(), int(x.Month()), x.Day(), x.Hour(), x.Minute(), x.Second()} || l[0] < 1 {
		return 0, false
	}
	n := int(x.Unix()) - 60*ahead
	return n, first <= n && n <= last
}

// ahead answers the minutes of a sign, hours and minutes, and whether these may be.
func ahead(sign, h, m string) (int, bool) {
	n := 60*number(h) + number(m)
	if sign == "-" {
		n = -n
	}
	return n, number(h) < 24 && number(m) < 60
}

// wantWeb and wantMail answer what is wanted of Web and Mail.
func wantWeb(s string) (int, bool) {
	l := webForm.FindStringSubmatch(s)
	if l == nil {
		return 0, false
	}
	off, ok := ahead(l[7], l[8], l[9])
	if !ok {
		return 0, false
	}
	return at([6]int{number(l[1]), number(l[2]), number(l[3]), number(l[4]), number(l[5]), number(l[6])}, off)
}

func wantMail(s string) (int, bool) {
	l := mailForm.FindStringSubmatch(s)
	if l == nil {
		return 0, false
	}
	off, ok := ahead(l[8], l[9], l[10])
	if !ok {
		return 0, false
	}
	year := number(l[3])
	if len(l[3]) == 2 {
		year = (year+50)%100 + 1950
	}
	month := strings.Index("JanFebMarAprMayJunJulAugSepOctNovDec", l[2])/3 + 1
	return at([6]int{year, month, number(l[1]), number(l[4]), number(l[5]), number(l[6])}, off+60*hours[l[7]])
}

// reads holds what a call answers against what is wanted.
func reads(t *testing.T, name string, call func(string) (int, api.Errno), s string, want int, ok bool) {
	t.Helper()
	n, e := call(s)
	if ok && (n != want || e != api.OK) {
		t.Errorf("%s(%q): %d, %d, not %d", name, s, n, e, want)
	}
	if !ok && (n != 0 || e != api.ErrDate) {
		t.Errorf("%s(%q): %d, %d, not ErrDate", name, s, n, e)
	}
}

// all asks Web, Mail and Any.
func all(t *testing.T, s string) {
	t.Helper()
	n, ok := wantWeb(s)
	reads(t, "Web", date.Web, s, n, ok)
	m, also := wantMail(s)
	reads(t, "Mail", date.Mail, s, m, also)
	if ok && also {
		t.Errorf("%q: a date of the web, and of the mail", s)
	}
	reads(t, "Any", date.Any, s, n+m, ok || also) // one of them is 0
}

var webDates = map[string]int{
	"1970-01-01T00:00:00Z":           0,
	"1970-01-02T00:00:01Z":           86401,
	"1970-01-01t00:00:00z":           0,
	"1970-01-01T00:00:00.0Z":         0,
	"1970-01-01T00:00:00.999999999Z": 0,
	"1969-12-31T23:59:59.5Z":         -1,
	"1970-01-01T00:00:00+00:00":      0,
	"1970-01-01T00:00:00-00:00":      0,
	"1970-01-01T00:00:00+01:00":      -3600,
	"1970-01-01T00:00:00-01:30":      5400,
	"1970-01-01T00:00:00.25+23:59":   -86340,
	"1970-01-01T00:00:00-23:59":      86340,
	"2000-02-29T12:00:00Z":           951825600,
	"0001-01-01T00:00:00Z":           first,
	"0001-01-01T00:00:00-00:01":      first + 60,
	"0001-01-01T23:59:00+23:59":      first,
	"9999-12-31T23:59:59Z":           last,
	"9999-12-31T23:59:59+00:01":      last - 60,
	"9999-12-31T00:00:59-23:59":      last,
}

var mailDates = map[string]int{
	"Fri, 13 Feb 2009 23:31:30 GMT":   1234567890,
	"Mon, 13 Feb 2009 23:31:30 GMT":   1234567890,
	"13 Feb 2009 23:31:30 GMT":        1234567890,
	"13 Feb 09 23:31:30 GMT":          1234567890,
	"13 Feb 2009 23:31 GMT":           1234567860,
	"13 Feb 2009 18:31:30 EST":        1234567890,
	"13 Feb 2009 19:31:30 EDT":        1234567890,
	"13 Feb 2009 17:31:30 CST":        1234567890,
	"13 Feb 2009 18:31:30 CDT":        1234567890,
	"13 Feb 2009 16:31:30 MST":        1234567890,
	"13 Feb 2009 17:31:30 MDT":        1234567890,
	"13 Feb 2009 15:31:30 PST":        1234567890,
	"13 Feb 2009 16:31:30 PDT":        1234567890,
	"13 Feb 2009 23:31:30 UT":         1234567890,
	"13 Feb 2009 23:31:30 UTC":        1234567890,
	"13 Feb 2009 23:31:30 Z":          1234567890,
	"14 Feb 2009 05:01:30 +0530":      1234567890,
	"13 Feb 2009 20:01:30 -0330":      1234567890,
	"13 Feb 2009 23:31:30 +0000":      1234567890,
	"13 Feb 2009 23:31:30 -0000":      1234567890,
	"Thu, 1 Jan 1970 00:00:00 GMT":    0,
	"Thu, 01 Jan 70 00:00 UT":         0,
	"1 Jan 50 00:00 Z":                -631152000,
	"31 Dec 49 23:59:59 Z":            2524607999,
	"1 Jan 00 00:00 Z":                946684800,
	"31 Dec 99 23:59:59 Z":            946684799,
	"1 Jan 0001 00:00:00 Z":           first,
	"1 Jan 0050 00:00:00 Z":           -60589296000,
	"1 Jan 0001 23:59 +2359":          first,
	"31 Dec 9999 23:59:59 GMT":        last,
	"Sun, 31 Dec 9999 15:59:59 PST":   last,
	"Tue, 31 Dec 9999 00:00:59 -2359": last,
}

// P4.2
func TestDatesThatAreRead(t *testing.T) {
	for s, n := range webDates {
		reads(t, "Web", date.Web, s, n, true)
		reads(t, "Any", date.Any, s, n, true)
		reads(t, "Mail", date.Mail, s, 0, false)
	}
	for s, n := range mailDates {
		reads(t, "Mail", date.Mail, s, n, true)
		reads(t, "Any", date.Any, s, n, true)
		reads(t, "Web", date.Web, s, 0, false)
	}
}

// P4.2
func TestNamesAndNumbersOfTheMail(t *testing.T) {
	for i, name := range []string{"Jan", "Feb", "Mar", "Apr", "May", "Jun", "Jul", "Aug", "Sep", "Oct", "Nov", "Dec"} {
		n, _ := date.Moment(api.Date{Year: 2001, Month: i + 1, Day: 9, Hour: 1})
		reads(t, "Mail", date.Mail, "9 "+name+" 2001 01:00 GMT", n, true)
		for _, s := range []string{strings.ToLower(name), strings.ToUpper(name), name[:2], name + "e", name + "."} {
			reads(t, "Mail", date.Mail, "9 "+s+" 2001 01:00 GMT", 0, false)
		}
	}
	for _, name := range []string{"Mon", "Tue", "Wed", "Thu", "Fri", "Sat", "Sun"} {
		reads(t, "Mail", date.Mail, name+", 1 Jan 1970 00:00 GMT", 0, true)
		for _, s := range []string{strings.ToLower(name) + ", ", strings.ToUpper(name) + ", ", name[:2] + ", ", name + "s, ", name + " ", name + ",", name + " , ", name + ",  ", name + "., "} {
			reads(t, "Mail", date.Mail, s+"1 Jan 1970 00:00 GMT", 0, false)
		}
	}
	for name := range hours {
		all(t, "13 Feb 2009 23:31:30 "+name)
		for _, s := range []string{strings.ToLower(name), name + "X", name + " ", name[1:], "(" + name + ")", name + "+0000"} {
			all(t, "13 Feb 2009 23:31:30 "+s)
		}
	}
	for year := range 100 {
		want := 2000 + year
		if year >= 50 {
			want = 1900 + year
		}
		n, _ := date.Moment(api.Date{Year: want, Month: 3, Day: 2})
		reads(t, "Mail", date.Mail, "2 Mar "+strconv.Itoa(100 + year)[1:]+" 00:00 GMT", n, true)
	}
}

// P4.2
func TestDatesThatAreNone(t *testing.T) {
	for _, s := range []string{
		"", " ", "Z", "now", "0", "1970", "1970-01-01", "1970-01-01T00:00Z", "1970-01-01T00:00:00", "1970-01-01 00:00:00Z", "19700101T000000Z",
		" 1970-01-01T00:00:00Z", "1970-01-01T00:00:00Z ", "1970-01-01T00:00:00Z\n", "1970-01-01T00:00:00ZZ", "1970-01-01T00:00:00 Z", "1970-01-01TT00:00:00Z", "1970-01-01tT00:00:00Z",
		"1970-1-01T00:00:00Z", "970-01-01T00:00:00Z", "01970-01-01T00:00:00Z", "10000-01-01T00:00:00Z", "-001-01-01T00:00:00Z", "+1970-01-01T00:00:00Z",
		"0000-01-01T00:00:00Z", "0000-12-31T23:59:59-23:59", "1970-00-01T00:00:00Z", "1970-13-01T00:00:00Z", "1970-01-00T00:00:00Z", "1970-01-32T00:00:00Z", "1970-02-29T00:00:00Z",
		"1970-01-01T24:00:00Z", "1970-01-01T00:60:00Z", "1970-01-01T00:00:60Z", "2016-12-31T23:59:60Z", "1970-01-01T0:00:00Z", "1970-01-01T00:0:00Z", "1970-01-01T00:00:0Z",
		"1970-01-01T00:00:00.Z", "1970-01-01T00:00:00,5Z", "1970-01-01T00:00:00.1234567890Z", "1970-01-01T00:00:00..5Z", "1970-01-01T00:00:00.5", "1970-01-01T00:00:00.5.5Z", "1970-01-01T00:00:00.-5Z",
		"1970-01-01T00:00:00+24:00", "1970-01-01T00:00:00-24:00", "1970-01-01T00:00:00+00:60", "1970-01-01T00:00:00-99:99", "1970-01-01T00:00:00+0000", "1970-01-01T00:00:00+00", "1970-01-01T00:00:00+0:00",
		"1970-01-01T00:00:00+00:00Z", "1970-01-01T00:00:00Z+00:00", "1970-01-01T00:00:0000:00", "1970-01-01T00:00:00+-1:00", "1970-01-01T00:00:00+00:000", "1970-01-01T00:00:00GMT",
		"0001-01-01T00:00:00+00:01", "0001-01-01T23:58:59+23:59", "9999-12-31T23:59:59-00:01", "9999-12-31T00:01:00-23:59",
		"１970-01-01T00:00:00Z", "197\u0660-01-01T00:00:00Z", "1970\xff01-01T00:00:00Z", "1970-01-01T00:00:00\xff", "1970\u201101-01T00:00:00Z", "1970-01-01T00:00:00\x00",
		"1 Jan 1970", "1 Jan 1970 00:00", "1 Jan 1970 00:00 ", "1 Jan 1970 00:00GMT", "1 Jan 1970 00:00:00GMT", " 1 Jan 1970 00:00 GMT", "1 Jan 1970 00:00 GMT ", "1 Jan 1970 00:00 GMT\n", "1\tJan 1970 00:00 GMT", "1\u00a0Jan 1970 00:00 GMT",
		"1 Jan  1970 00:00 GMT", "1 Jan 1970  00:00 GMT", "1 Jan 1970 00:00  GMT", "1Jan 1970 00:00 GMT", "1 Jan1970 00:00 GMT", "1-Jan-1970 00:00 GMT", "Jan 1 1970 00:00 GMT", "1 01 1970 00:00 GMT",
		"Thu 1 Jan 1970 00:00 GMT", "Thu,1 Jan 1970 00:00 GMT", ", 1 Jan 1970 00:00 GMT", "Thursday, 1 Jan 1970 00:00 GMT", "Thx, 1 Jan 1970 00:00 GMT", "Thu, Thu, 1 Jan 1970 00:00 GMT", "Jan, 1 Jan 1970 00:00 GMT",
		"0 Jan 1970 00:00 GMT", "00 Jan 1970 00:00 GMT", "32 Jan 1970 00:00 GMT", "001 Jan 1970 00:00 GMT", "29 Feb 1970 00:00 GMT", "31 Apr 1970 00:00 GMT", "-1 Jan 1970 00:00 GMT",
		"1 January 1970 00:00 GMT", "1 Jax 1970 00:00 GMT", "1 Mon 1970 00:00 GMT", "1 anF 1970 00:00 GMT",
		"1 Jan 7 00:00 GMT", "1 Jan 970 00:00 GMT", "1 Jan 050 00:00 GMT", "1 Jan 19700 00:00 GMT", "1 Jan 0000 00:00 GMT", "31 Dec 0000 23:59 -2359", "1 Jan  00:00 GMT", "1 Jan 00:00 GMT",
		"1 Jan 1970 24:00 GMT", "1 Jan 1970 00:60 GMT", "1 Jan 1970 00:00:60 GMT", "1 Jan 1970 0:00 GMT", "1 Jan 1970 00:0 GMT", "1 Jan 1970 00:00:0 GMT", "1 Jan 1970 00:00: GMT", "1 Jan 1970 00 GMT", "1 Jan 1970 00:00:00.5 GMT", "1 Jan 1970 000:00 GMT", "1 Jan 1970 00:00:00:00 GMT",
		"1 Jan 1970 00:00 CET", "1 Jan 1970 00:00 A", "1 Jan 1970 00:00 z", "1 Jan 1970 00:00 gmt", "1 Jan 1970 00:00 GMTX", "1 Jan 1970 00:00 G", "1 Jan 1970 00:00 GMT+1", "1 Jan 1970 00:00 +01:00", "1 Jan 1970 00:00 +100", "1 Jan 1970 00:00 +00000",
		"1 Jan 1970 00:00 0000", "1 Jan 1970 00:00 +2400", "1 Jan 1970 00:00 -2400", "1 Jan 1970 00:00 +0060", "1 Jan 1970 00:00 -9999", "1 Jan 1970 00:00 + 0100", "1 Jan 1970 00:00 +", "1 Jan 1970 00:00 +-100",
		"1 Jan 0001 00:00 +0001", "31 Dec 9999 23:59:59 EST", "31 Dec 9999 23:59:59 -0001", "1 Jan 1970 00:00 GMT (a remark)", "1 J\u00e4n 1970 00:00 GMT", "1 Jan 1970 00:00 \xff", "\u0661 Jan 1970 00:00 GMT",
	} {
		reads(t, "Web", date.Web, s, 0, false)
		reads(t, "Mail", date.Mail, s, 0, false)
		reads(t, "Any", date.Any, s, 0, false)
	}
}

// P4.2: texts that differ from a date in a place or two.
func TestTextsNearDates(t *testing.T) {
	signs := []string{"", "0", "1", "2", "3", "5", "6", "9", "-", "+", ":", ".", ",", " ", "T", "t", "Z", "z", "G", "M", "J", "a", "n", "\x00", "\xff", "\t", "é", "٣", "00", ":00", ".5"}
	for _, s := range []string{
		"2024-02-29T23:59:59Z", "1999-10-31t19:09:05.123456789+23:59", "0001-01-01T00:00:00-00:30", "9999-12-31T23:59:59.0+00:00",
		"Thu, 29 Feb 2024 23:59:59 GMT", "1 Jan 70 00:00 Z", "Sun, 31 Oct 1999 19:09:05 -2359", "31 Dec 9999 23:59 +0000", "1 Jan 0001 00:00 UTC", "Mon, 3 Jan 50 05:06 PST",
	} {
		all(t, s)
		for i := range len(s) + 1 {
			all(t, s[:i])
			all(t, s[i:])
			for _, sign := range signs {
				all(t, s[:i]+sign+s[i:])
				if i < len(s) {
					all(t, s[:i]+sign+s[i+1:])
				}
				if i+1 < len(s) {
					all(t, s[:i]+sign+s[i+2:])
					all(t, s[:i]+s[i+1:i+2]+sign+s[i+2:])
				}
			}
		}
	}
}

// P4.2: every day, hour, minute and second of 2 digits, in both kinds of dates.
func TestEachNumberOfTwoDigits(t *testing.T) {
	for n := range 100 {
		x := strconv.Itoa(100 + n)[1:]
		for _, s := range []string{
			"20xx-03-05T07:09:11Z", "2024-xx-05T07:09:11Z", "2024-02-xxT07:09:11Z", "2023-02-xxT07:09:11Z", "2024-03-xxT07:09:11Z", "2024-04-xxT07:09:11Z", "2024-03-05Txx:09:11Z", "2024-03-05T07:xx:11Z",
			"2024-03-05T07:09:xxZ", "2024-03-05T07:09:11+xx:30", "2024-03-05T07:09:11-xx:30", "2024-03-05T07:09:11+12:xx", "2024-03-05T07:09:11-12:xx", "00xx-03-05T07:09:11Z",
			"xx Feb 2024 07:09:11 GMT", "xx Feb 2023 07:09 GMT", "xx Mar 2024 07:09 GMT", "5 Mar xx 07:09 GMT", "5 Mar 20xx 07:09 GMT", "5 Mar 2024 xx:09 GMT", "5 Mar 2024 07:xx GMT", "5 Mar 2024 07:09:xx GMT",
			"5 Mar 2024 07:09 +xx30", "5 Mar 2024 07:09 -xx30", "5 Mar 2024 07:09 +12xx", "5 Mar 2024 07:09 -12xx",
		} {
			all(t, strings.Replace(s, "xx", x, 1))
			all(t, strings.Replace(s, "xx", strconv.Itoa(n), 1))
		}
	}
}

// R1: long texts are refused, too.
func TestLongTexts(t *testing.T) {
	for _, s := range []string{"1", "é", "\xff", "Mon, ", "1970-01-01T00:00:00Z", "1970-01-01T00:00:00.", "1 Jan 1970 00:00 GMT"} {
		for _, ahead := range []string{"", "1970-01-01T00:00:00.", "1 Jan ", "Thu, 1 Jan 1970 00:00 "} {
			all(t, ahead+strings.Repeat(s, 10000))
		}
	}
}
