package opml

import (
	"cmp"

	"newsstand/api"
	"newsstand/tree"
	"newsstand/utf"
)

// Read answers the outlines of the document s.
func Read(s string) ([]api.Outline, api.Errno) {
	e, err := tree.Parse(s)
	if err != api.OK {
		return nil, err
	}
	body, is := tree.Kid(e, "body")
	if !is || tree.Short(e.Name) != "opml" {
		return nil, api.ErrOpml
	}
	l := within(body)
	if err := Check(l); err != api.OK {
		return nil, err
	}
	return l, api.OK
}

// within answers the outlines of the element e.
func within(e api.Element) []api.Outline {
	var l []api.Outline
	for _, kid := range tree.Kids(e, "outline") {
		if o, is := outline(kid); is {
			l = append(l, o)
		}
	}
	return l
}

// outline answers the outline that the element e tells of, and whether it tells of one.
func outline(e api.Element) (api.Outline, bool) {
	url := short(attr(e, "xmlUrl"), api.MaxLink)
	title := cmp.Or(short(attr(e, "text"), api.MaxTitle), short(attr(e, "title"), api.MaxTitle), short(url, api.MaxTitle))
	switch {
	case title == "": // then there is no Url, either
		return api.Outline{}, false
	case url != "":
		return api.Outline{Title: title, Url: url}, true
	}
	return api.Outline{Title: title, Kids: within(e)}, true
}

// attr answers the attribute of e of that name; the empty text, if it is not there.
func attr(e api.Element, name string) string {
	value, _ := tree.Attr(e, name)
	return value
}

// short answers s, clean, of at most so many bytes.
func short(s string, most int) string {
	return utf.Clean(utf.Cut(utf.Clean(s), most)) // again, as a blank may stand last where it was cut
}
