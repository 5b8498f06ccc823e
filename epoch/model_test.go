package epoch

import (
	"slices"
	"testing"

	"budwood/api"
)

// slowClock is a model of a clock: an epoch, and those that wait. A call tells another clock.
type slowClock struct {
	now   uint64
	waits []Wait
}

// retire is Retire, where it is not refused.
func (s slowClock) retire(owner uint16) slowClock {
	return slowClock{s.now + 1, append(slices.Clone(s.waits), Wait{owner, s.now + 1})}
}

// split tells the owners that are due, and the clock without them: of each that waits, every hart is asked.
func (s slowClock) split(harts []api.Hart) ([]uint16, slowClock) {
	var due []uint16
	rest := slowClock{now: s.now}
	for _, w := range s.waits {
		if slowPassed(harts, w.Epoch) {
			due = append(due, w.Owner)
		} else {
			rest.waits = append(rest.waits, w)
		}
	}
	return due, rest
}

// slowLeast is Least: the Epoch of one that counts, below which there is none.
func slowLeast(harts []api.Hart) (uint64, bool) {
	for _, h := range harts {
		if h.Why == 0 && slowPassed(harts, h.Epoch) {
			return h.Epoch, true
		}
	}
	return 0, false
}

// slowPassed is Passed, as the document's words tell it.
func slowPassed(harts []api.Hart, epoch uint64) bool {
	return !slices.ContainsFunc(harts, func(h api.Hart) bool { return h.Why == 0 && h.Epoch < epoch })
}

// run makes a hart that runs, at an epoch.
func run(epoch uint64) api.Hart {
	return api.Hart{Epoch: epoch}
}

// stand makes a hart that stands still, at an epoch.
func stand(why api.Cause, epoch uint64) api.Hart {
	return api.Hart{Why: why, Epoch: epoch}
}

// wantErr holds an error against what it should be.
func wantErr(t *testing.T, what string, got, want api.Errno) {
	t.Helper()
	if got != want {
		t.Fatalf("%s = %d, want %d", what, int(got), int(want))
	}
}

// wantRetire lets an owner wait, and holds the answer against what it should be.
func wantRetire(t *testing.T, c *Clock, owner uint16, want uint64, wantErrno api.Errno) {
	t.Helper()
	got, err := c.Retire(owner)
	if got != want || err != wantErrno {
		t.Fatalf("Retire(%d) = %d, %d, want %d, %d", owner, got, int(err), want, int(wantErrno))
	}
}

// wantOwners holds owners against what they should be.
func wantOwners(t *testing.T, what string, got []uint16, want ...uint16) {
	t.Helper()
	if !slices.Equal(got, want) {
		t.Fatalf("%s = %d, want %d", what, got, want)
	}
}

// wantClock holds all looks at a clock, with these harts, against a model of it.
func wantClock(t *testing.T, what string, c *Clock, s slowClock, harts []api.Hart) {
	t.Helper()
	if c.Now() != s.now {
		t.Fatalf("%s: Now() = %d, want %d", what, c.Now(), s.now)
	}
	if got := c.Waiting(); !slices.Equal(got, s.waits) {
		t.Fatalf("%s: Waiting() = %d, want %d", what, got, s.waits)
	}
	due, _ := s.split(harts)
	wantOwners(t, what+": Due", c.Due(harts), due...)
}

// wantHarts holds Least, and Passed at these epochs, against the model.
func wantHarts(t *testing.T, harts []api.Hart, epochs ...uint64) {
	t.Helper()
	least, counts := Least(harts)
	wantLeast, wantCounts := slowLeast(harts)
	if least != wantLeast || counts != wantCounts {
		t.Fatalf("Least(%v) = %d, %t, want %d, %t", harts, least, counts, wantLeast, wantCounts)
	}
	for _, e := range epochs {
		if got, want := Passed(harts, e), slowPassed(harts, e); got != want {
			t.Fatalf("Passed(%v, %d) = %t, want %t", harts, e, got, want)
		}
	}
}
