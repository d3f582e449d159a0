package cas

import (
	"cupel/api"
	"cupel/wire"
)

const (
	longestKey   = api.HashBytes // a verdict's
	lastVerdict  = 255
	verdictBytes = 1
)

// Verdict is what was found for a key, and true.
func (c *Store) Verdict(key string) (int, bool) {
	bytes, e := c.below().Get(verdictHead + key)
	if e != api.OK {
		return 0, false
	}
	return verdict(bytes)
}

// verdict is the verdict that stands behind its key, and true.
func verdict(bytes string) (int, bool) {
	if len(bytes) != verdictBytes {
		return 0, false
	}
	return int(bytes[0]), true
}

// Keep keeps verdicts by their keys, all or none.
func (c *Store) Keep(keys []string, l []int) api.Errno {
	if len(keys) != len(l) {
		return api.ErrArg
	}
	var changes []api.Change
	for i, key := range keys {
		if len(key) > longestKey || l[i] < 0 || l[i] > lastVerdict {
			return api.ErrArg
		}
		changes = append(changes, api.Change{Key: verdictHead + key, Value: wire.Number(uint64(l[i]), verdictBytes)})
	}
	return c.below().Apply(changes)
}

// Verdicts is all verdicts that are kept, by their keys.
func (c *Store) Verdicts() map[string]int {
	all := map[string]int{}
	for key, bytes := range c.below().All(verdictHead) {
		if n, is := verdict(bytes); is {
			all[key[len(verdictHead):]] = n
		}
	}
	return all
}
