package store

import (
	"cupel/api"
	"cupel/btree"
	"cupel/disk"
	"cupel/page"
	"cupel/wal"
)

// layout is pages as they will stand in a log of their own.
type layout struct {
	draft   *wal.Log // nothing but these pages, so that it tells their places
	records []string
	moved   map[int]int // their places there, by those that they have now
}

// tidy lays the log anew if it has grown enough. Where there is no room for that it may go on growing: the changes are sure without.
func (s *Store) tidy() api.Errno {
	if n := s.log.Len(); n < leastLaid || n < growth*s.began {
		return api.OK
	}
	if e := s.Compact(); e != api.ErrFull {
		return e
	}
	return api.OK
}

// Compact lays the log anew, with the pages alone that are still used.
func (s *Store) Compact() api.Errno {
	if s.none() {
		return api.ErrArg
	}
	x, e := s.layout()
	if e != api.OK {
		return e
	}
	root := x.moved[s.tree.Root()]
	if e := s.log.Replace(x.records, marker(root)); e != api.OK {
		return e
	}
	s.began = s.log.Len()
	s.tree, e = btree.New(s.log, root)
	return e
}

// layout is the pages that the tree still has, kids ahead of theirs.
func (s *Store) layout() (*layout, api.Errno) {
	places, read := s.tree.Pages()
	if !read {
		return nil, api.ErrForm
	}
	draft, _, e := wal.Open(disk.New())
	if e != api.OK {
		return nil, e
	}
	x := &layout{draft: draft, moved: map[int]int{noRoot: noRoot}}
	for _, at := range places {
		if e := x.move(s.log, at); e != api.OK {
			return nil, e
		}
	}
	return x, api.OK
}

// move lays the page that a log has at a place behind the others; its kids must be among them.
func (x *layout) move(l *wal.Log, at int) api.Errno {
	if _, is := x.moved[at]; is {
		return api.OK // a log that no tree laid may have one page below several
	}
	bytes, e := l.Read(at)
	if e != api.OK {
		return e
	}
	bytes, e = x.turned(bytes)
	if e != api.OK {
		return e
	}
	x.moved[at], e = x.draft.Append(bytes)
	x.records = append(x.records, bytes)
	return e
}

// turned is a page's bytes with the places that its kids have moved to.
func (x *layout) turned(bytes string) (string, api.Errno) {
	p, e := page.Decode(bytes)
	if e != api.OK {
		return "", e
	}
	for i, kid := range p.Kids {
		p.Kids[i] = x.moved[kid]
	}
	return page.Encode(p)
}
