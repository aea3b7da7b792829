package opml

import (
	"strings"

	"newsstand/api"
	"newsstand/entity"
)

// writer has the methods of a builder of texts, and puts outlines behind what it has.
type writer struct {
	strings.Builder
}

// Write answers a document of the outlines l.
func Write(l []api.Outline) (string, api.Errno) {
	if e := Check(l); e != api.OK {
		return "", e
	}
	var w writer
	w.WriteString(`<opml version="2.0"><body>`)
	w.outlines(l)
	w.WriteString("</body></opml>")
	return w.String(), api.OK
}

// outlines puts the outlines l, each around its kids.
func (w *writer) outlines(l []api.Outline) {
	for _, o := range l {
		w.WriteString("<outline")
		w.attr("text", o.Title)
		if o.Url != "" {
			w.attr("xmlUrl", o.Url)
		}
		w.WriteString(">")
		w.outlines(o.Kids)
		w.WriteString("</outline>")
	}
}

// attr puts an attribute of that name.
func (w *writer) attr(name, value string) {
	w.WriteString(" " + name + `="` + entity.Write(value) + `"`)
}
