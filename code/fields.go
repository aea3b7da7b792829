package code

import (
	"newsstand/api"
	"newsstand/num"
)

// deed is what is done with fields.
type deed interface {
	number(n *int)
	text(s *string)
}

// each does d with each field of e that its kind uses, in the order of their bytes.
func each(e *api.Event, d deed) {
	numbers, texts := Uses(e.Kind)
	for i, n := range [...]*int{&e.A, &e.B, &e.N} {
		if numbers>>i&1 == 1 {
			d.number(n)
		}
	}
	for i, s := range [...]*string{&e.S, &e.T, &e.U} {
		if texts>>i&1 == 1 {
			d.text(s)
		}
	}
}

// putter puts fields behind bytes.
type putter struct {
	bytes []byte
}

func (p *putter) number(n *int) {
	b, _ := num.Put(*n) // each that an event may have is a number
	p.bytes = append(p.bytes, b...)
}

func (p *putter) text(s *string) {
	b, _ := num.Text(*s) // none that an event may have is too long
	p.bytes = append(p.bytes, b...)
}

// getter gets fields from a reader, which tells whether they were there.
type getter struct {
	from *num.Reader
}

func (g getter) number(n *int) {
	*n = g.from.Num()
}

func (g getter) text(s *string) {
	*s = g.from.Text()
}
