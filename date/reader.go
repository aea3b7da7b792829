package date

// reader goes through a text, rune by rune; what is not there though it must be makes it bad for good.
type reader struct {
	rest string // what is left
	bad  bool
}

// run takes the next runes that fit, at least least, at most most.
func (r *reader) run(least, most int, fits func(rune) bool) string {
	n, end := 0, len(r.rest)
	for i, c := range r.rest {
		if n == most || !fits(c) {
			end = i
			break
		}
		n++
	}
	if n < least {
		r.bad = true
		return ""
	}
	taken := r.rest[:end]
	r.rest = r.rest[end:]
	return taken
}

// has takes the next rune, if it is that one, and tells whether it is.
func (r *reader) has(sign rune) bool {
	return r.run(0, 1, func(c rune) bool { return c == sign }) != ""
}

// must takes the next rune, that one.
func (r *reader) must(sign rune) {
	if !r.has(sign) {
		r.bad = true
	}
}

// number takes a number of so many digits.
func (r *reader) number(size int) int {
	return value(r.run(size, size, isDigit))
}

// numberTo takes a number of 2 digits, at most most.
func (r *reader) numberTo(most int) int {
	n := r.number(2)
	if n > most {
		r.bad = true
	}
	return n
}

// value answers the number of digits.
func value(digits string) int {
	n := 0
	for _, c := range digits {
		n = 10*n + int(c-'0')
	}
	return n
}

func isDigit(c rune) bool {
	return '0' <= c && c <= '9'
}

func isLetter(c rune) bool {
	return 'A' <= c && c <= 'Z' || 'a' <= c && c <= 'z'
}
