package epoch

import (
	"math"
	"reflect"
	"slices"
	"testing"

	"budwood/api"
)

// TestExample is the chapter's example.
func TestExample(t *testing.T) {
	c := New()
	wantRetire(t, c, 7, 1, api.OK)
	wantOwners(t, "Due at 0", c.Due([]api.Hart{run(0)}))
	wantOwners(t, "Due at 1", c.Due([]api.Hart{run(1)}), 7)
	wantOwners(t, "Due with none", c.Due(nil), 7)
	wantOwners(t, "Due with none that counts", c.Due([]api.Hart{stand(api.Halted, 0)}), 7)
}

// TestLeast: P17.1, the least Epoch of those that count.
func TestLeast(t *testing.T) {
	for _, x := range []struct {
		harts  []api.Hart
		least  uint64
		counts bool
	}{
		{nil, 0, false},
		{[]api.Hart{}, 0, false},
		{[]api.Hart{run(0)}, 0, true},
		{[]api.Hart{run(5)}, 5, true},
		{[]api.Hart{run(5), run(3), run(4)}, 3, true},
		{[]api.Hart{run(3), run(4), run(5)}, 3, true},
		{[]api.Hart{run(5), run(4), run(3)}, 3, true},
		{[]api.Hart{run(5), run(5)}, 5, true},
		{[]api.Hart{run(1), run(0), run(1)}, 0, true},
		{[]api.Hart{run(math.MaxUint64)}, math.MaxUint64, true},
		{[]api.Hart{run(math.MaxUint64), run(1 << 63)}, 1 << 63, true},
		{[]api.Hart{run(1 << 32), run(1)}, 1, true},
		{[]api.Hart{run(1 << 32), run(1<<32 + 1)}, 1 << 32, true},
		{[]api.Hart{stand(api.Halted, 5)}, 0, false},
		{[]api.Hart{stand(api.Halted, 1), run(5), stand(api.BadFetch, 2), run(9), stand(api.BadStack, 0)}, 5, true},
	} {
		least, counts := Least(x.harts)
		if least != x.least || counts != x.counts {
			t.Errorf("Least(%v) = %d, %t, want %d, %t", x.harts, least, counts, x.least, x.counts)
		}
	}
}

// TestPassed: P17.1, no hart that counts below the epoch.
func TestPassed(t *testing.T) {
	for _, x := range []struct {
		harts []api.Hart
		epoch uint64
		want  bool
	}{
		{nil, 0, true},
		{nil, math.MaxUint64, true},
		{[]api.Hart{run(0)}, 0, true},
		{[]api.Hart{run(0)}, 1, false},
		{[]api.Hart{run(4)}, 5, false},
		{[]api.Hart{run(5)}, 5, true},
		{[]api.Hart{run(6)}, 5, true},
		{[]api.Hart{run(6), run(4)}, 5, false},
		{[]api.Hart{run(4), run(6)}, 5, false},
		{[]api.Hart{run(6), run(5), run(7)}, 5, true},
		{[]api.Hart{run(6), stand(api.Halted, 4)}, 5, true},
		{[]api.Hart{stand(api.Halted, 6), run(4)}, 5, false},
		{[]api.Hart{stand(api.Halted, 4)}, 5, true},
		{[]api.Hart{run(math.MaxUint64 - 1)}, math.MaxUint64, false},
		{[]api.Hart{run(math.MaxUint64)}, math.MaxUint64, true},
		{[]api.Hart{run(1 << 32)}, 5, true},
		{[]api.Hart{run(5)}, 1 << 32, false},
	} {
		if got := Passed(x.harts, x.epoch); got != x.want {
			t.Errorf("Passed(%v, %d) = %t, want %t", x.harts, x.epoch, got, x.want)
		}
	}
}

// TestCauses: P17.1, a hart counts by its Why alone: at every number but Running's it does not.
func TestCauses(t *testing.T) {
	for why := range 256 {
		harts := []api.Hart{run(9), stand(api.Cause(why), 2)}
		harts[1].PC, harts[1].Home, harts[1].Stack = 7, 8, []uint32{1}
		least, counts := Least(harts)
		runs := why == 0
		if want := map[bool]uint64{true: 2, false: 9}[runs]; least != want || !counts {
			t.Errorf("with Why %d: Least = %d, %t, want %d", why, least, counts, want)
		}
		if got := Passed(harts, 3); got == runs {
			t.Errorf("with Why %d: Passed = %t", why, got)
		}
		if least, counts := Least(harts[1:]); counts != runs || !runs && least != 0 {
			t.Errorf("Why %d alone: Least = %d, %t", why, least, counts)
		}
		c := New()
		wantRetire(t, c, 1, 1, api.OK)
		c.Retire(2)
		c.Retire(3)
		if got := len(c.Due(harts)); got != map[bool]int{true: 2, false: 3}[runs] {
			t.Errorf("with Why %d: %d are due", why, got)
		}
	}
}

// TestRowsOfHarts holds all rows of up to four of a few harts against the model.
func TestRowsOfHarts(t *testing.T) {
	some := []api.Hart{run(0), run(1), run(2), run(4), stand(api.Halted, 0), stand(api.BadWord, 3)}
	var rows func(row []api.Hart)
	rows = func(row []api.Hart) {
		wantHarts(t, row, 0, 1, 2, 3, 4, 5)
		for _, h := range some {
			if len(row) < 4 {
				rows(append(row[:len(row):len(row)], h))
			}
		}
	}
	rows(nil)
}

// TestNew: P17.2, at 0, and nothing waits.
func TestNew(t *testing.T) {
	c := New()
	if c == nil {
		t.Fatal("New() = nil")
	}
	wantClock(t, "New()", c, slowClock{}, nil)
	wantClock(t, "New()", c, slowClock{}, []api.Hart{run(9)})
	wantOwners(t, "Take", c.Take(nil))
	wantOwners(t, "Clear", c.Clear())
	wantClock(t, "New(), behind Take and Clear", c, slowClock{}, nil)
}

// TestRetire: P17.2, epochs rise one by one, whoever waits, and how often.
func TestRetire(t *testing.T) {
	c := New()
	var want []Wait
	for i, owner := range []uint16{7, 7, 0, 65535, 3, 0, 7} {
		epoch := uint64(i + 1)
		wantRetire(t, c, owner, epoch, api.OK)
		want = append(want, Wait{owner, epoch})
		wantClock(t, "behind Retire", c, slowClock{epoch, want}, []api.Hart{run(3)})
	}
	wantOwners(t, "Due", c.Due([]api.Hart{run(6)}), 7, 7, 0, 65535, 3, 0)
}

// TestNowStays: P17.2, Now rises by Retire alone: not by what is taken, nor by harts.
func TestNowStays(t *testing.T) {
	c := New()
	wantRetire(t, c, 4, 1, api.OK)
	wantRetire(t, c, 5, 2, api.OK)
	c.Due([]api.Hart{run(9)})
	wantOwners(t, "Take", c.Take([]api.Hart{run(9)}), 4, 5)
	wantClock(t, "behind Take", c, slowClock{now: 2}, nil)
	wantRetire(t, c, 6, 3, api.OK)
	wantOwners(t, "Clear", c.Clear(), 6)
	wantClock(t, "behind Clear", c, slowClock{now: 3}, nil)
	wantRetire(t, c, 7, 4, api.OK)
	wantClock(t, "behind Retire", c, slowClock{4, []Wait{{7, 4}}}, []api.Hart{run(3)})
}

// TestFull: P17.2, at MaxEpoch there is no epoch more. No test can wait for it by calls.
func TestFull(t *testing.T) {
	const last = 1 << 40
	c := &Clock{now: last - 2}
	wantRetire(t, c, 1, last-1, api.OK)
	wantRetire(t, c, 2, last, api.OK)
	waits := []Wait{{1, last - 1}, {2, last}}
	for range 3 {
		wantRetire(t, c, 3, 0, api.ErrFull)
		wantClock(t, "full", c, slowClock{last, waits}, []api.Hart{run(last - 1)})
	}
	fork := c.Fork()
	wantOwners(t, "Take", c.Take(nil), 1, 2)
	wantRetire(t, c, 3, 0, api.ErrFull)
	wantRetire(t, fork, 3, 0, api.ErrFull)
	beyond := &Clock{now: last + 1}
	wantRetire(t, beyond, 3, 0, api.ErrFull)
	wantClock(t, "beyond", beyond, slowClock{now: last + 1}, nil)
}

// TestDue: P17.3, those whose epochs were passed, in order, and they wait on.
func TestDue(t *testing.T) {
	c := New()
	model := slowClock{}
	for _, owner := range []uint16{9, 2, 9, 5} {
		c.Retire(owner)
		model = model.retire(owner)
	}
	for _, x := range []struct {
		harts []api.Hart
		want  []uint16
	}{
		{[]api.Hart{run(0)}, nil},
		{[]api.Hart{run(1)}, []uint16{9}},
		{[]api.Hart{run(2)}, []uint16{9, 2}},
		{[]api.Hart{run(3)}, []uint16{9, 2, 9}},
		{[]api.Hart{run(4)}, []uint16{9, 2, 9, 5}},
		{[]api.Hart{run(99)}, []uint16{9, 2, 9, 5}},
		{[]api.Hart{run(3), run(1), run(2)}, []uint16{9}},
		{[]api.Hart{run(3), run(0), run(4)}, nil},
		{[]api.Hart{run(3), stand(api.BadLoad, 0)}, []uint16{9, 2, 9}},
		{[]api.Hart{stand(api.BadLoad, 0)}, []uint16{9, 2, 9, 5}},
		{nil, []uint16{9, 2, 9, 5}},
	} {
		wantOwners(t, "Due", c.Due(x.harts), x.want...)
		wantClock(t, "behind Due", c, model, x.harts)
		took := c.Fork()
		wantOwners(t, "Take", took.Take(x.harts), x.want...)
		_, rest := model.split(x.harts)
		wantClock(t, "behind Take", took, rest, nil)
		wantOwners(t, "Take again", took.Take(x.harts))
		wantClock(t, "behind Take again", took, rest, nil)
	}
}

// TestTakeByTake: P17.3, what was taken waits no more; what comes behind it waits behind what was left.
func TestTakeByTake(t *testing.T) {
	c := New()
	c.Retire(1)
	c.Retire(2)
	c.Retire(3)
	wantOwners(t, "Take at 1", c.Take([]api.Hart{run(1)}), 1)
	c.Retire(4)
	wantOwners(t, "Due at 3", c.Due([]api.Hart{run(3)}), 2, 3)
	wantOwners(t, "Take at 3", c.Take([]api.Hart{run(3)}), 2, 3)
	wantOwners(t, "Take at 3 again", c.Take([]api.Hart{run(3)}))
	c.Retire(1)
	wantClock(t, "behind all", c, slowClock{5, []Wait{{4, 4}, {1, 5}}}, []api.Hart{run(4)})
	wantOwners(t, "Clear", c.Clear(), 4, 1)
	wantOwners(t, "Clear again", c.Clear())
}

// TestClear: P17.3, all, whatever the harts, in order.
func TestClear(t *testing.T) {
	c := New()
	for _, owner := range []uint16{5, 65535, 0, 5} {
		c.Retire(owner)
	}
	wantOwners(t, "Due", c.Due([]api.Hart{run(0)}))
	wantOwners(t, "Clear", c.Clear(), 5, 65535, 0, 5)
	wantClock(t, "behind Clear", c, slowClock{now: 4}, nil)
	wantOwners(t, "Take", c.Take(nil))
}

// TestStaysDue: P17.5, at every hart's way to later epochs, what was due stays due; a hart that comes from behind holds it up.
func TestStaysDue(t *testing.T) {
	c := New()
	for owner := range uint16(6) {
		c.Retire(owner)
	}
	harts := []api.Hart{run(0), run(2), stand(api.Halted, 0), run(5)}
	due := c.Due(harts)
	for _, ahead := range []struct {
		hart  int
		epoch uint64
	}{{0, 1}, {1, 3}, {0, 4}, {3, 6}, {1, 6}, {0, 6}} {
		harts[ahead.hart].Epoch = ahead.epoch
		now := c.Due(harts)
		if len(now) < len(due) || !slices.Equal(now[:len(due)], due) {
			t.Fatalf("%d were due, and now %d", due, now)
		}
		least, _ := slowLeast(harts)
		if uint64(len(now)) != least {
			t.Fatalf("with one at %d, due are %d", least, now)
		}
		due = now
	}
	wantOwners(t, "Due of all", due, 0, 1, 2, 3, 4, 5)
	wantOwners(t, "Due, with one more that is behind", c.Due(append(harts, run(3))), 0, 1, 2)
	harts[0].Why, harts[1].Why, harts[3].Why = api.Halted, api.BadFetch, api.BadStore
	wantOwners(t, "Due, with one alone", c.Due(append(harts, run(0))))
}

// TestNil: nil tells 0 and nothing, and is refused.
func TestNil(t *testing.T) {
	var c *Clock
	harts := []api.Hart{run(1)}
	wantRetire(t, c, 7, 0, api.ErrNil)
	if c.Now() != 0 || len(c.Due(harts)) != 0 || len(c.Take(harts)) != 0 || len(c.Waiting()) != 0 || len(c.Clear()) != 0 {
		t.Error("nil tells something")
	}
	if len(c.Due(nil)) != 0 || len(c.Take(nil)) != 0 {
		t.Error("nil tells something, with no harts")
	}
	if c.Fork() != nil {
		t.Error("the fork of nil is not nil")
	}
}

// TestFork: P17.4, as this one, and from then on of its own.
func TestFork(t *testing.T) {
	c := New()
	empty := c.Fork()
	c.Retire(1)
	c.Retire(2)
	c.Retire(3)
	c.Take([]api.Hart{run(1)})
	model := slowClock{3, []Wait{{2, 2}, {3, 3}}}
	one, two := c.Fork(), c.Fork()
	wantClock(t, "a fork", one, model, nil)
	c.Retire(4)
	wantRetire(t, one, 5, 4, api.OK)
	wantRetire(t, two, 6, 4, api.OK)
	wantClock(t, "the clock", c, model.retire(4), nil)
	wantClock(t, "a fork", one, model.retire(5), nil)
	wantClock(t, "another fork", two, model.retire(6), nil)
	wantClock(t, "a fork of an empty one", empty, slowClock{}, nil)
	one.Take([]api.Hart{run(2)})
	two.Clear()
	wantClock(t, "the clock", c, model.retire(4), nil)
	wantClock(t, "a fork", one, slowClock{4, []Wait{{3, 3}, {5, 4}}}, nil)
	wantClock(t, "another fork", two, slowClock{now: 4}, nil)
	wantClock(t, "a fork of a fork", one.Fork(), slowClock{4, []Wait{{3, 3}, {5, 4}}}, nil)
}

// TestAnswersAreNew: no answer shares memory with a clock, nor its spare room.
func TestAnswersAreNew(t *testing.T) {
	c := New()
	model := slowClock{}
	for owner := range uint16(5) {
		c.Retire(owner)
		model = model.retire(owner)
	}
	at := []api.Hart{run(3)}
	for range 2 {
		w := c.Waiting()
		for i := range w[:cap(w)] {
			w[:cap(w)][i] = Wait{77, 99}
		}
		d := c.Due(at)
		for i := range d[:cap(d)] {
			d[:cap(d)][i] = 77
		}
		wantClock(t, "behind what was written into answers", c, model, at)
	}
	fork := c.Fork()
	for _, took := range [][]uint16{c.Take(at), fork.Clear()} {
		for i := range took[:cap(took)] {
			took[:cap(took)][i] = 77
		}
	}
	w := c.Waiting()
	_ = append(w, Wait{77, 99})
	c.Retire(5)
	wantClock(t, "behind Take", c, slowClock{6, []Wait{{3, 4}, {4, 5}, {5, 6}}}, at)
	wantClock(t, "behind Clear", fork, slowClock{now: 5}, at)
}

// TestHartsStay: the harts are not changed, nor kept.
func TestHartsStay(t *testing.T) {
	c := New()
	c.Retire(1)
	c.Retire(2)
	row := func() []api.Hart {
		return []api.Hart{{Epoch: 2, Stack: []uint32{1, 2}, PC: 3}, stand(api.Halted, 0), run(1), run(2)}
	}
	harts := row()
	Least(harts)
	Passed(harts, 1)
	wantOwners(t, "Due", c.Due(harts), 1)
	wantOwners(t, "Take", c.Take(harts), 1)
	c.Waiting()
	if !reflect.DeepEqual(harts, row()) {
		t.Fatalf("the harts are now %v", harts)
	}
	clear(harts)
	wantOwners(t, "Due", c.Due([]api.Hart{run(2)}), 2)
}

// TestTwoClocks: what is done with a clock is not seen in another one.
func TestTwoClocks(t *testing.T) {
	a, b := New(), New()
	a.Retire(1)
	wantClock(t, "the other clock", b, slowClock{}, nil)
	b.Retire(2)
	b.Retire(3)
	wantClock(t, "a clock", a, slowClock{1, []Wait{{1, 1}}}, nil)
	wantClock(t, "the other clock", b, slowClock{2, []Wait{{2, 1}, {3, 2}}}, nil)
}

// TestMany: with very many that wait, and very many harts, calls end soon.
func TestMany(t *testing.T) {
	const many = 200000
	c := New()
	for i := range many {
		wantRetire(t, c, uint16(i), uint64(i+1), api.OK)
	}
	harts := make([]api.Hart, many)
	for i := range harts {
		harts[i] = run(uint64(many - i))
	}
	wantOwners(t, "Due", c.Due(harts), 0)
	for i := range many - 2 {
		got := c.Take([]api.Hart{run(uint64(i + 1))})
		if len(got) != 1 || got[0] != uint16(i) {
			t.Fatalf("Take at %d = %d", i+1, got)
		}
	}
	if got := c.Waiting(); !slices.Equal(got, []Wait{{(many - 2) % 65536, many - 1}, {(many - 1) % 65536, many}}) {
		t.Fatalf("Waiting() = %d", got)
	}
}

// TestRowOfDeeds plays long rows of deeds on clocks, forks and models of them.
func TestRowOfDeeds(t *testing.T) {
	seed := uint64(17)
	next := func(n uint64) uint64 {
		seed = seed*6364136223846793005 + 1442695040888963407
		return seed >> 33 % n
	}
	clocks := []*Clock{New(), New(), New()}
	models := make([]slowClock, len(clocks))
	harts := make([]api.Hart, 4)
	for range 60000 {
		i := next(uint64(len(clocks)))
		c, m := clocks[i], models[i]
		switch next(8) {
		case 0, 1, 2:
			owner := uint16(next(65536))
			wantRetire(t, c, owner, m.now+1, api.OK)
			m = m.retire(owner)
		case 3, 4:
			harts[next(4)] = api.Hart{Epoch: m.now - min(m.now, next(7)), Why: api.Cause(next(4) / 3 * next(7))}
		case 5:
			due, rest := m.split(harts)
			wantOwners(t, "Take", c.Take(harts), due...)
			m = rest
		case 6:
			i = next(uint64(len(clocks)))
			clocks[i] = c.Fork()
		case 7:
			if next(40) == 0 || len(m.waits) > 60 {
				wantOwners(t, "Clear", c.Clear(), slowOwners(m)...)
				m = slowClock{now: m.now}
			}
		}
		models[i] = m
		for k := range clocks {
			row := harts[:next(5)]
			wantClock(t, "a row of deeds", clocks[k], models[k], row)
			wantHarts(t, row, m.now, next(m.now+2))
		}
	}
}

// slowOwners tells who waits.
func slowOwners(s slowClock) []uint16 {
	all, _ := s.split(nil)
	return all
}
