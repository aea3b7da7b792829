package event

import (
	"strconv"
	"strings"

	"newsstand/api"
)

// names are those of the kinds of events, in their order.
var names = [13]string{"folder", "unfolder", "feed", "unfeed", "title", "move", "item", "read", "star", "tag", "search", "unsearch", "clock"}

// Name answers the name of a kind of events; of what is none the empty text.
func Name(kind int) string {
	if kind < 1 || kind > len(names) {
		return ""
	}
	return names[kind-1]
}

// Show answers the text of e.
func Show(e api.Event) string {
	name := Name(e.Kind)
	if name == "" {
		return "?"
	}
	var b strings.Builder
	b.WriteString(name)
	for _, n := range [3]int{e.A, e.B, e.N} {
		b.WriteString(" " + strconv.Itoa(n))
	}
	for _, s := range [3]string{e.S, e.T, e.U} {
		b.WriteString(" " + quoted(s))
	}
	return b.String()
}

// quoted answers s between two ", with what could be taken for its end marked.
func quoted(s string) string {
	s = strings.ReplaceAll(s, `\`, `\\`) // ahead of ", as the marks are no signs of s
	s = strings.ReplaceAll(s, `"`, `\"`)
	return `"` + s + `"`
}

// Item answers the item that e is about, and whether it is about one.
func Item(e api.Event) (int, bool) {
	switch e.Kind {
	case api.EvItem, api.EvRead, api.EvStar, api.EvTag:
		return e.A, true
	}
	return 0, false
}
