package engine

import (
	"slices"

	"cupel/api"
	"cupel/cas"
)

const someVerdicts = 16 // that wait are kept

// queue is verdicts that wait to be kept, by their keys.
type queue struct {
	keys     []string
	verdicts []int
}

func (q *queue) len() int { return len(q.keys) }

// add lets a verdict wait, once: two mutants of a program may be the same program.
func (q *queue) add(key string, verdict int) {
	if !slices.Contains(q.keys, key) {
		q.keys = append(q.keys, key)
		q.verdicts = append(q.verdicts, verdict)
	}
}

// keep keeps all that waits; with an error what is not kept goes on waiting. While there is no room more may come to wait than a store takes at once.
func (q *queue) keep(c *cas.Store) api.Errno {
	for q.len() > 0 {
		n := min(q.len(), api.MaxBatch)
		if e := c.Keep(q.keys[:n], q.verdicts[:n]); e != api.OK {
			return e
		}
		q.keys = slices.Delete(q.keys, 0, n)
		q.verdicts = slices.Delete(q.verdicts, 0, n)
	}
	return api.OK
}
