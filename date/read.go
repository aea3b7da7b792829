package date

import "newsstand/api"

// Web answers the moment of a date of the web.
func Web(s string) (int, api.Errno) {
	r := reader{rest: s}
	var d api.Date
	d.Year = r.number(4)
	r.must('-')
	d.Month = r.number(2)
	r.must('-')
	d.Day = r.number(2)
	if !r.has('t') {
		r.must('T')
	}
	r.clock(&d)
	r.must(':')
	d.Second = r.number(2)
	if r.has('.') {
		r.run(1, 9, isDigit)
	}
	return r.moment(d, r.webZone())
}

// Mail answers the moment of a date of the mail.
func Mail(s string) (int, api.Errno) {
	r := reader{rest: s}
	var d api.Date
	r.weekday()
	d.Day = value(r.run(1, 2, isDigit))
	r.must(' ')
	d.Month = month(r.run(3, 3, isLetter))
	r.must(' ')
	d.Year = r.mailYear()
	r.must(' ')
	r.clock(&d)
	if r.has(':') {
		d.Second = r.number(2)
	}
	r.must(' ')
	return r.moment(d, r.mailZone())
}

// Any answers the moment of a date of the web, or of the mail.
func Any(s string) (int, api.Errno) {
	if n, e := Web(s); e == api.OK {
		return n, e
	}
	return Mail(s)
}

// clock takes hours and minutes.
func (r *reader) clock(d *api.Date) {
	d.Hour = r.number(2)
	r.must(':')
	d.Minute = r.number(2)
}

// webZone takes Z, or hours and minutes, and answers by how many seconds the place's time is ahead.
func (r *reader) webZone() int {
	if r.has('Z') || r.has('z') {
		return 0
	}
	sign := r.sign()
	h := r.numberTo(23)
	r.must(':')
	return sign * (h*hour + r.numberTo(59)*minute)
}

// mailZone takes a zone's name, or hours and minutes, and answers by how many seconds the place's time is ahead.
func (r *reader) mailZone() int {
	if name := r.run(0, 3, isLetter); name != "" {
		ahead, ok := zone(name)
		r.bad = r.bad || !ok
		return ahead * hour
	}
	sign := r.sign()
	h := r.numberTo(23)
	return sign * (h*hour + r.numberTo(59)*minute)
}

// sign takes + or -.
func (r *reader) sign() int {
	if r.has('-') {
		return -1
	}
	r.must('+')
	return 1
}

// weekday takes a day of the week, a comma and a blank, if a letter comes next.
func (r *reader) weekday() {
	name := r.run(0, 3, isLetter)
	if name == "" {
		return
	}
	r.bad = r.bad || !isWeekday(name)
	r.must(',')
	r.must(' ')
}

// mailYear takes a year of 4 digits, or one of 2, which stands for the one from 1950 to 2049.
func (r *reader) mailYear() int {
	s := r.run(2, 4, isDigit)
	year := value(s)
	switch {
	case len(s) == 3:
		r.bad = true
	case len(s) == 2 && year >= 50:
		year += 1900
	case len(s) == 2:
		year += 2000
	}
	return year
}

// moment answers the moment of the date d, of a place whose time is ahead by so many seconds, if all of the text was read well.
func (r *reader) moment(d api.Date, ahead int) (int, api.Errno) {
	n, e := Moment(d)
	if e != api.OK || r.bad || r.rest != "" {
		return 0, api.ErrDate
	}
	n -= ahead
	if n < first || n > last {
		return 0, api.ErrDate
	}
	return n, api.OK
}

// month answers the number of the month of that name, 0 if there is none.
func month(name string) int {
	switch name {
	case "Jan":
		return 1
	case "Feb":
		return 2
	case "Mar":
		return 3
	case "Apr":
		return 4
	case "May":
		return 5
	case "Jun":
		return 6
	case "Jul":
		return 7
	case "Aug":
		return 8
	case "Sep":
		return 9
	case "Oct":
		return 10
	case "Nov":
		return 11
	case "Dec":
		return 12
	}
	return 0
}

// isWeekday tells whether a day of the week has that name.
func isWeekday(name string) bool {
	switch name {
	case "Mon", "Tue", "Wed", "Thu", "Fri", "Sat", "Sun":
		return true
	}
	return false
}

// zone answers by how many hours the time of the zone of that name is ahead, if there is such a zone.
func zone(name string) (int, bool) {
	switch name {
	case "GMT", "UT", "UTC", "Z":
		return 0, true
	case "EDT":
		return -4, true
	case "EST", "CDT":
		return -5, true
	case "CST", "MDT":
		return -6, true
	case "MST", "PDT":
		return -7, true
	case "PST":
		return -8, true
	}
	return 0, false
}
