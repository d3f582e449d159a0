package btree

import (
	"slices"

	"cupel/api"
	"cupel/page"
)

// The pages that are handed about here were read for the change that goes on: they are its own, and may have too many or too few keys till they are laid.

// with is a page with a key's value put below it.
func (t *Tree) with(p api.Page, s span, key, value string) (api.Page, api.Errno) {
	if p.Leaf {
		return leafWith(p, key, value), api.OK
	}
	i := page.Kid(p, key)
	s = s.below(p, i)
	kid, e := t.read(p.Kids[i], s)
	if e == api.OK {
		kid, e = t.with(kid, s, key, value)
	}
	if e != api.OK {
		return api.Page{}, e
	}
	return t.swap(p, i, i, kid)
}

func leafWith(p api.Page, key, value string) api.Page {
	i, is := page.Find(p, key)
	if is {
		p.Values[i] = value
		return p
	}
	p.Keys = slices.Insert(p.Keys, i, key)
	p.Values = slices.Insert(p.Values, i, value)
	return p
}

// without is a page with a key taken away below it, and whether it was there.
func (t *Tree) without(p api.Page, s span, key string) (api.Page, bool, api.Errno) {
	if p.Leaf {
		p, is := leafWithout(p, key)
		return p, is, api.OK
	}
	i := page.Kid(p, key)
	kid, e := t.read(p.Kids[i], s.below(p, i))
	is := false
	if e == api.OK {
		kid, is, e = t.without(kid, s.below(p, i), key)
	}
	if e != api.OK || !is {
		return api.Page{}, false, e
	}
	if len(kid.Keys) < api.MinKeys {
		p, e = t.join(p, s, i, kid)
	} else {
		p, e = t.swap(p, i, i, kid)
	}
	return p, e == api.OK, e
}

func leafWithout(p api.Page, key string) (api.Page, bool) {
	i, is := page.Find(p, key)
	if is {
		p.Keys = slices.Delete(p.Keys, i, i+1)
		p.Values = slices.Delete(p.Values, i, i+1)
	}
	return p, is
}

// join is a page whose kid, which has too few keys, is joined with the one ahead of it, the first one with the one behind it.
func (t *Tree) join(p api.Page, s span, i int, kid api.Page) (api.Page, api.Errno) {
	beside := i - 1
	if i == 0 {
		beside = 1
	}
	other, e := t.read(p.Kids[beside], s.below(p, beside))
	if e != api.OK {
		return api.Page{}, e
	}
	if other.Leaf != kid.Leaf {
		return api.Page{}, api.ErrForm // of a log that no tree laid
	}
	if i == 0 {
		return t.swap(p, 0, 1, joined(kid, p.Keys[0], other))
	}
	return t.swap(p, beside, i, joined(other, p.Keys[beside], kid))
}

// joined is two pages in one. The key between two leaves is only a copy, that between others must stay.
func joined(first api.Page, between string, second api.Page) api.Page {
	p := api.Page{Leaf: first.Leaf, Keys: first.Keys}
	if !p.Leaf {
		p.Keys = append(p.Keys, between)
	}
	p.Keys = append(p.Keys, second.Keys...)
	p.Values = append(first.Values, second.Values...)
	p.Kids = append(first.Kids, second.Kids...)
	return p
}

// swap is a page with another one, which is laid, in the place of its kids from first to last.
func (t *Tree) swap(p api.Page, first, last int, kid api.Page) (api.Page, api.Errno) {
	keys, kids, e := t.lay(kid)
	if e != api.OK {
		return api.Page{}, e
	}
	p.Keys = slices.Replace(p.Keys, first, last, keys...)
	p.Kids = slices.Replace(p.Kids, first, last+1, kids...)
	return p, api.OK
}

// lay appends a page, cut in two if it has too many keys: the places, and the keys between them.
func (t *Tree) lay(p api.Page) ([]string, []int, api.Errno) {
	if len(p.Keys) <= api.MaxKeys {
		at, e := t.add(p)
		return nil, []int{at}, e
	}
	first, between, second := cut(p)
	a, e := t.add(first)
	if e != api.OK {
		return nil, nil, e
	}
	b, e := t.add(second)
	return []string{between}, []int{a, b}, e
}

// cut is the halves of a page, and the key between them.
func cut(p api.Page) (api.Page, string, api.Page) {
	half := len(p.Keys) / 2
	first := api.Page{Leaf: p.Leaf, Keys: p.Keys[:half]}
	second := api.Page{Leaf: p.Leaf, Keys: p.Keys[half:]}
	if p.Leaf {
		first.Values, second.Values = p.Values[:half], p.Values[half:]
	} else {
		second.Keys = p.Keys[half+1:]
		first.Kids, second.Kids = p.Kids[:half+1], p.Kids[half+1:]
	}
	return first, p.Keys[half], second
}

// add appends a page to the log: its place.
func (t *Tree) add(p api.Page) (int, api.Errno) {
	bytes, e := page.Encode(p)
	if e != api.OK {
		return 0, e
	}
	return t.log.Append(bytes)
}

// plant makes a page the root: one above it, if it must be cut; its one kid or none, if it has no keys.
func (t *Tree) plant(p api.Page) api.Errno {
	for len(p.Keys) > 0 {
		keys, kids, e := t.lay(p)
		if e != api.OK {
			return e
		}
		p = api.Page{Keys: keys, Kids: kids}
	}
	t.root = noRoot
	if !p.Leaf {
		t.root = p.Kids[0]
	}
	return api.OK
}
