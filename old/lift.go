package old

import (
	"newsstand/api"
	"newsstand/code"
	"newsstand/event"
	"newsstand/utf"
	"newsstand/words"
)

// version is what a version of the format tells.
type version interface {
	lift() []version // to the format behind its own; what is of the last one stays as it is
}

type first api.Old

type second api.Old

type third api.Event

// versionOf answers o as what its version tells; nil, if older formats may not tell it.
func versionOf(o api.Old) version {
	switch {
	case !mayBe(o):
		return nil
	case o.Version == api.FormatFirst:
		return first(o)
	}
	return second(o)
}

// read answers what the bytes b tell, of whatever version; nil, if they are of none.
func read(b []byte) version {
	if e, f := code.Get(b); f == api.OK {
		return third(e)
	}
	o, _ := Get(b)
	return versionOf(o) // nil of nothing, too
}

func (o first) lift() []version {
	s := second{Version: api.FormatSecond, A: o.A}
	switch o.Kind {
	case api.FirstFeed:
		s.Kind, s.S = api.EvFeed, short(o.S, api.MaxLink)
	case api.FirstUnfeed:
		s.Kind = api.EvUnfeed
	case api.FirstItem:
		s.Kind, s.B, s.S, s.T = api.EvItem, o.B, short(o.S, api.MaxLink), short(o.T, api.MaxTitle)
	case api.FirstFlag:
		return liftFlag(s, o.N)
	case api.FirstTag:
		return liftTag(s, o.S, o.N)
	}
	return []version{s}
}

// liftFlag answers s as it tells whether an item was read, and whether it is starred, as the one number of a flag did.
func liftFlag(s second, flag int) []version {
	if flag < 0 || flag > 3 {
		return nil
	}
	read, star := s, s
	read.Kind, read.N = api.EvRead, flag%2
	star.Kind, star.N = api.EvStar, flag/2
	return []version{read, star}
}

// liftTag answers s as it tells of a tag, which is a word, as it was any text ahead of the second format.
func liftTag(s second, tag string, n int) []version {
	l := words.Words(tag)
	if len(l) == 0 {
		return nil
	}
	s.Kind, s.N, s.S = api.EvTag, n, l[0]
	return []version{s}
}

func (o second) lift() []version {
	e := api.Event{Kind: o.Kind, A: o.A, B: o.B, N: o.N, S: o.S, T: o.T}
	if event.Check(e) != api.OK {
		return nil
	}
	return []version{third(e)}
}

func (e third) lift() []version {
	return []version{e}
}

// seconds answers those of l that are of the second format.
func seconds(l []version) []api.Old {
	var s []api.Old
	for _, v := range l {
		if o, is := v.(second); is {
			s = append(s, api.Old(o))
		}
	}
	return s
}

// events answers what v is lifted to in the third format, however many formats lie between; of nil nothing.
func events(v version) []api.Event {
	if v == nil {
		return nil
	}
	var l []api.Event
	for _, next := range v.lift() {
		if e, is := next.(third); is {
			l = append(l, api.Event(e))
		} else {
			l = append(l, events(next)...)
		}
	}
	return l
}

// short answers s clean, of at most so many bytes; what is cut behind a blank is cleaned again.
func short(s string, most int) string {
	return utf.Clean(utf.Cut(utf.Clean(s), most))
}
