package entity

import "newsstand/utf"

// noRune stands for numbers that are no rune's, and for signs that are not shown.
const noRune = '\uFFFD'

// number answers the rune of a number of 1 to most digits, and whether it is such a number.
func number(digits string, most int, base rune) (rune, bool) {
	if digits == "" || len(digits) > most {
		return 0, false
	}
	n := rune(0)
	for _, c := range digits {
		d := digit(c)
		if d < 0 || d >= base {
			return 0, false
		}
		n = n*base + d
	}
	return shown(n), true
}

// digit answers what the digit c counts, -1 of what is none.
func digit(c rune) rune {
	switch {
	case between(c, '0', '9'):
		return c - '0'
	case between(c, 'a', 'f'):
		return c - 'a' + 10
	case between(c, 'A', 'F'):
		return c - 'A' + 10
	}
	return -1
}

func between(c, first, last rune) bool {
	return first <= c && c <= last
}

// shown answers the rune that stands for the number n.
func shown(n rune) rune {
	if n < 32 && n != '\t' && n != '\n' && n != '\r' {
		return noRune
	}
	return utf.Runes(utf.Put([]rune{n}))[0] // Put takes what is no rune's for U+FFFD
}
