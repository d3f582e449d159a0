package cas

import (
	"math/bits"

	"cupel/api"
	"cupel/sha"
	"cupel/wire"
)

const placeBytes = 8 // of a place in the order of all commits

// ID is a commit's digest, by its source's text and its parent.
func ID(source, parent string) string { return idOf(Digest(source), parent) }

// idOf is a commit's digest, by its source's.
func idOf(digest, parent string) string { return sha.Tagged(commitPurpose, digest, parent) }

// orderKey is the key of a place in the order; its highest byte comes first, so that keys rise as places do.
func orderKey(place uint64) string {
	return orderHead + wire.Number(bits.ReverseBytes64(place), placeBytes)
}

// encode is what stands behind a commit's key.
func encode(x api.Commit) string {
	w := wire.NewWriter()
	w.Text(x.Source)
	w.Text(x.Parent)
	w.Number(x.Order, placeBytes)
	return w.All()
}

// decode is the commit that stands behind its key.
func decode(id, bytes string) (api.Commit, api.Errno) {
	r := wire.NewReader(bytes)
	x := api.Commit{ID: id}
	x.Source = r.Text(api.HashBytes)
	x.Parent = r.Text(api.HashBytes)
	x.Order = r.Number(placeBytes)
	if r.End() != api.OK {
		return api.Commit{}, api.ErrForm
	}
	return x, api.OK
}

// Commit is a commit by its digest.
func (c *Store) Commit(id string) (api.Commit, api.Errno) {
	bytes, e := c.below().Get(commitHead + id)
	if e == api.ErrNone {
		return api.Commit{}, api.ErrCommit
	}
	if e != api.OK {
		return api.Commit{}, e
	}
	return decode(id, bytes)
}

// Count is how many commits there are.
func (c *Store) Count() uint64 {
	n := uint64(0)
	for range c.below().All(orderHead) {
		n++
	}
	return n
}

// Add adds a commit of a text behind another one: it; one that is there already stays.
func (c *Store) Add(source, parent string) (api.Commit, api.Errno) {
	if c.below() == nil {
		return api.Commit{}, api.ErrArg
	}
	if len(source) > api.MaxBlob {
		return api.Commit{}, api.ErrMany
	}
	if e := c.mayFollow(parent); e != api.OK {
		return api.Commit{}, e
	}
	digest := Digest(source)
	l, e := c.keeping(digest, source)
	if e != api.OK {
		return api.Commit{}, e
	}
	id := idOf(digest, parent)
	if x, e := c.Commit(id); e != api.ErrCommit {
		return known(x, e, digest, parent)
	}
	return c.lay(api.Commit{ID: id, Source: digest, Parent: parent, Order: c.Count()}, l)
}

// mayFollow tells whether a commit may stand behind another one: behind one that is there, or behind none.
func (c *Store) mayFollow(parent string) api.Errno {
	if parent == "" {
		return api.OK
	}
	_, e := c.Commit(parent)
	return e
}

// known is a commit that was found in the place of one that comes. Told as that one it must be of the same source and parent.
func known(x api.Commit, e api.Errno, digest, parent string) (api.Commit, api.Errno) {
	if e == api.OK && (x.Source != digest || x.Parent != parent) {
		return api.Commit{}, api.ErrClash
	}
	return x, e
}

// lay lays a commit at its place, with what keeps its text, all or nothing.
func (c *Store) lay(x api.Commit, l []api.Change) (api.Commit, api.Errno) {
	l = append(l,
		api.Change{Key: commitHead + x.ID, Value: encode(x)},
		api.Change{Key: orderKey(x.Order), Value: x.ID})
	if e := c.below().Apply(l); e != api.OK {
		return api.Commit{}, e
	}
	return x, api.OK
}

// List is all commits, in their order.
func (c *Store) List() []api.Commit {
	var list []api.Commit
	for _, id := range c.below().All(orderHead) {
		if x, e := c.Commit(id); e == api.OK {
			list = append(list, x)
		}
	}
	return list
}

// Chain is a commit and those ahead of it, the last one first.
func (c *Store) Chain(id string) ([]api.Commit, api.Errno) {
	x, e := c.Commit(id)
	if e != api.OK {
		return nil, e
	}
	list := []api.Commit{x}
	for x.Parent != "" {
		if x, e = c.ahead(x); e != api.OK {
			return nil, e
		}
		list = append(list, x)
	}
	return list, api.OK
}

// ahead is a commit's parent. It stands ahead in the order, too: so a store in which commits that nobody added stand behind themselves is gone through to an end.
func (c *Store) ahead(x api.Commit) (api.Commit, api.Errno) {
	parent, e := c.Commit(x.Parent)
	if e == api.OK && parent.Order >= x.Order {
		return api.Commit{}, api.ErrForm
	}
	return parent, e
}
