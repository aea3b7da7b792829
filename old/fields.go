package old

import (
	"newsstand/api"
	"newsstand/code"
	"newsstand/num"
)

// The bits of the numbers that a kind uses, as code.Uses has them.
const (
	useA = 1 << iota
	useB
	useN
)

// The bits of the texts that a kind uses, as code.Uses has them.
const (
	useS = 1 << iota
	useT
	useU
)

// uses answers which fields a kind of a version uses: none, if there is no such kind.
func uses(version, kind int) (numbers, texts int) {
	switch version {
	case api.FormatFirst:
		return firstUses(kind)
	case api.FormatSecond:
		return secondUses(kind)
	}
	return 0, 0
}

func firstUses(kind int) (numbers, texts int) {
	switch kind {
	case api.FirstFeed:
		return useA, useS
	case api.FirstUnfeed:
		return useA, 0
	case api.FirstItem:
		return useA | useB, useS | useT
	case api.FirstFlag:
		return useA | useN, 0
	case api.FirstTag:
		return useA | useN, useS
	}
	return 0, 0
}

// secondUses leaves out what the third format brought: folders within folders, and where an item is to be read.
func secondUses(kind int) (numbers, texts int) {
	numbers, texts = code.Uses(kind)
	switch kind {
	case api.EvFolder:
		numbers &^= useB
	case api.EvItem:
		texts &^= useU
	}
	return numbers, texts
}

// used answers the fields of o that its kind uses, in the order of their bytes.
func used(o *api.Old) ([]*int, []*string) {
	numbers, texts := uses(o.Version, o.Kind)
	return pick(o, numbers, texts)
}

// pick answers the fields of o that those bits stand for.
func pick(o *api.Old, numbers, texts int) (ns []*int, ss []*string) {
	for i, n := range [...]*int{&o.A, &o.B, &o.N} {
		if numbers>>i&1 == 1 {
			ns = append(ns, n)
		}
	}
	for i, s := range [...]*string{&o.S, &o.T} {
		if texts>>i&1 == 1 {
			ss = append(ss, s)
		}
	}
	return ns, ss
}

// mayBe tells whether older formats may tell o.
func mayBe(o api.Old) bool {
	numbers, texts := uses(o.Version, o.Kind)
	ns, ss := pick(&o, ^numbers, ^texts)
	for _, n := range ns {
		if *n != 0 {
			return false
		}
	}
	for _, s := range ss {
		if *s != "" {
			return false
		}
	}
	return numbers != 0 && areNumbers(o.A, o.B, o.N) && len(o.S) <= maxText && len(o.T) <= maxText // each kind uses a number
}

// areNumbers tells whether l can be put as numbers.
func areNumbers(l ...int) bool {
	for _, n := range l {
		if _, e := num.Put(n); e != api.OK {
			return false
		}
	}
	return true
}
