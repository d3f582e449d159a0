package trend

import (
	"testing"

	"cupel/kill"
)

// The texts that other tests hand in are broken by just the errors that these say.
func TestBroken(t *testing.T) {
	for source, want := range broken() {
		_, _, e := kill.Source(source)
		same(t, source, e, want)
	}
}
