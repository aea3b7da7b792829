package feed

import (
	"strings"

	"newsstand/api"
	"newsstand/date"
	"newsstand/entity"
)

// writer has the methods of a builder of texts, and puts elements behind what it has.
type writer struct {
	strings.Builder
}

// Write answers a document of the feed d, of the kind RSS.
func Write(d api.Doc) (string, api.Errno) {
	if e := Check(d); e != api.OK {
		return "", e
	}
	var w writer
	w.WriteString("<rss><channel>")
	w.element("title", d.Title)
	w.element("link", d.Link)
	for _, x := range d.Entries {
		w.item(x)
	}
	w.WriteString("</channel></rss>")
	return w.String(), api.OK
}

// item puts the item of the entry x.
func (w *writer) item(x api.Entry) {
	w.WriteString("<item>")
	w.element("guid", x.Guid)
	w.element("title", x.Title)
	w.element("link", x.Link)
	if x.Dated {
		w.element("pubDate", date.Show(x.Date))
	}
	w.WriteString("</item>")
}

// element puts an element of that name, with that text.
func (w *writer) element(name, text string) {
	w.WriteString("<" + name + ">" + entity.Write(text) + "</" + name + ">")
}
