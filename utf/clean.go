package utf

import "strings"

// Clean answers s without signs that are not shown, with one space for blanks that stand together, and none at its ends.
func Clean(s string) string {
	var b strings.Builder
	apart := false // did blanks come behind the last rune that was kept?
	for _, c := range s {
		switch {
		case Blank(c):
			apart = true
		case !unseen(c):
			if apart && b.Len() > 0 {
				b.WriteByte(' ')
			}
			apart = false
			b.WriteString(string(c))
		}
	}
	return b.String()
}

// Blank tells whether c is a blank.
func Blank(c rune) bool {
	switch c {
	case '\t', '\n', '\r', ' ', 0xA0, 0x2028, 0x2029, 0x3000:
		return true
	}
	return false
}

// unseen tells whether c is a sign that is not shown; some blanks are such signs, too.
func unseen(c rune) bool {
	return c < 32 || between(c, 127, 159)
}

// Fold answers the text of the runes of s, folded.
func Fold(s string) string {
	var b strings.Builder
	for _, c := range s {
		b.WriteString(string(folded(c)))
	}
	return b.String()
}

// folded answers the small letter of a great one, of the alphabets that have each at one distance; other runes are themselves.
func folded(c rune) rune {
	switch {
	case c == 0xD7 || c == 0x3A2: // no letters, in the midst of some
		return c
	case between(c, 'A', 'Z'), between(c, 0xC0, 0xDE), between(c, 0x391, 0x3A9), between(c, 0x410, 0x42F):
		return c + 32
	case between(c, 0x400, 0x40F):
		return c + 80
	}
	return c
}

func between(c, first, last rune) bool {
	return first <= c && c <= last
}
