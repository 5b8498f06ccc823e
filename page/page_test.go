package page

import (
	"fmt"
	"math"
	"slices"
	"testing"

	"budwood/api"
)

// someEpochs has epochs at both ends, and some between.
var someEpochs = []uint64{0, 1, 2, 3, 4, api.MaxEpoch - 1, api.MaxEpoch, api.MaxEpoch + 1, math.MaxUint64 - 1, math.MaxUint64}

// someOwners has owners at both ends, and some between.
var someOwners = []uint16{0, 1, 2, 7, 8, 255, 256, math.MaxUint16}

// someStates has the states, and numbers that are none.
var someStates = []api.State{api.Free, api.Staging, api.Live, api.Retiring, 4, 5, 128, 255}

// taking is what a slow table knows of an owner.
type taking struct {
	owner         uint16
	from, n, code int
	state         api.State
	epoch         uint64
}

// slowTable is a model of a table that knows owners, and no pages.
type slowTable struct {
	size  int
	taken []taking
}

// at tells where an owner's taking stands, if it is in one of the states; -1 if not.
func (s slowTable) at(owner uint16, states ...api.State) int {
	return slices.IndexFunc(s.taken, func(k taking) bool { return k.owner == owner && slices.Contains(states, k.state) })
}

func (s slowTable) stage(from, n int, owner uint16) (slowTable, api.Errno) {
	if owner == 0 || n < 1 {
		return s, api.ErrArg
	}
	if from < 0 || from >= s.size || n > s.size || from+n > s.size {
		return s, api.ErrRange
	}
	for _, k := range s.taken {
		if k.owner == owner || from < k.from+k.n && k.from < from+n {
			return s, api.ErrThere
		}
	}
	s.taken = append(slices.Clone(s.taken), taking{owner: owner, from: from, n: n, state: api.Staging})
	return s, api.OK
}

func (s slowTable) publish(owner uint16, code int) (slowTable, api.Errno) {
	at := s.at(owner, api.Staging)
	if at < 0 {
		return s, api.ErrNone
	}
	if code < 0 || code > s.taken[at].n {
		return s, api.ErrArg
	}
	s.taken = slices.Clone(s.taken)
	s.taken[at].state, s.taken[at].code = api.Live, code
	return s, api.OK
}

func (s slowTable) retire(owner uint16, epoch uint64) (slowTable, api.Errno) {
	at := s.at(owner, api.Live)
	if at < 0 {
		return s, api.ErrNone
	}
	s.taken = slices.Clone(s.taken)
	s.taken[at].state, s.taken[at].epoch = api.Retiring, epoch
	return s, api.OK
}

func (s slowTable) release(owner uint16) (slowTable, api.Errno) {
	at := s.at(owner, api.Staging, api.Retiring)
	if at < 0 {
		return s, api.ErrNone
	}
	s.taken = slices.Delete(slices.Clone(s.taken), at, at+1)
	return s, api.OK
}

// pages tells the pages that the takings make.
func (s slowTable) pages() []api.Page {
	pages := make([]api.Page, s.size)
	for _, k := range s.taken {
		for i := range k.n {
			pages[k.from+i] = api.Page{
				State: k.state,
				Exec:  k.state != api.Staging && i < k.code,
				Write: k.state != api.Staging && i >= k.code,
				Owner: k.owner,
				Epoch: k.epoch,
			}
		}
	}
	return pages
}

// wantPages holds all looks at a table against the pages that it should have.
func wantPages(t *testing.T, what string, x *Table, want []api.Page) {
	t.Helper()
	if x.Len() != len(want) {
		t.Fatalf("%s: Len() = %d, want %d", what, x.Len(), len(want))
	}
	used := x.Used()
	if len(used) != len(want) {
		t.Fatalf("%s: Used() has %d, want %d", what, len(used), len(want))
	}
	for i, p := range want {
		if got := x.Get(i); got != p {
			t.Fatalf("%s: Get(%d) = %v, want %v", what, i, got, p)
		}
		if used[i] != (p.State != api.Free) {
			t.Fatalf("%s: Used()[%d] = %v of %v", what, i, used[i], p)
		}
	}
}

// wantErr holds an error against what it should be.
func wantErr(t *testing.T, what string, got, want api.Errno) {
	t.Helper()
	if got != want {
		t.Fatalf("%s = %d, want %d", what, int(got), int(want))
	}
}

// staged tells a table of 8 pages of which two are free, two are staged for the owner 1, two are live for 2 and two are retiring at the epoch 5 for 3.
func staged(t *testing.T) (*Table, []api.Page) {
	t.Helper()
	x := New(8)
	wantErr(t, "Stage(1, 2, 1)", x.Stage(1, 2, 1), api.OK)
	wantErr(t, "Stage(3, 2, 2)", x.Stage(3, 2, 2), api.OK)
	wantErr(t, "Stage(5, 2, 3)", x.Stage(5, 2, 3), api.OK)
	wantErr(t, "Publish(2, 1)", x.Publish(2, 1), api.OK)
	wantErr(t, "Publish(3, 1)", x.Publish(3, 1), api.OK)
	wantErr(t, "Retire(3, 5)", x.Retire(3, 5), api.OK)
	want := []api.Page{
		{},
		{State: api.Staging, Owner: 1},
		{State: api.Staging, Owner: 1},
		{State: api.Live, Exec: true, Owner: 2},
		{State: api.Live, Write: true, Owner: 2},
		{State: api.Retiring, Exec: true, Owner: 3, Epoch: 5},
		{State: api.Retiring, Write: true, Owner: 3, Epoch: 5},
		{},
	}
	wantPages(t, "staged", x, want)
	return x, want
}

func TestNew(t *testing.T) {
	for _, c := range []struct{ n, want int }{
		{math.MinInt, 0}, {-256, 0}, {-1, 0}, {0, 0}, {1, 1}, {2, 2}, {4, 4}, {16, 16},
		{255, 255}, {256, 256}, {257, 256}, {999, 256}, {math.MaxInt32, 256}, {math.MaxInt, 256},
	} {
		wantPages(t, fmt.Sprintf("New(%d)", c.n), New(c.n), make([]api.Page, c.want))
	}
}

func TestGetOfNoPage(t *testing.T) {
	for _, n := range []int{0, 1, 8, 256} {
		x := New(n)
		if n > 0 {
			wantErr(t, "Stage", x.Stage(0, n, 9), api.OK)
		}
		for _, i := range []int{math.MinInt, math.MinInt32, -256, -1, n, n + 1, 256, 257, math.MaxInt32, math.MaxInt} {
			if got := x.Get(i); got != (api.Page{}) {
				t.Errorf("of %d pages Get(%d) = %v, want the zero page", n, i, got)
			}
		}
	}
}

func TestUsedIsNew(t *testing.T) {
	x, want := staged(t)
	used := x.Used()
	if !slices.Equal(used, []bool{false, true, true, true, true, true, true, false}) {
		t.Fatalf("Used() = %v", used)
	}
	for i := range used {
		used[i] = !used[i]
	}
	wantPages(t, "behind a change of what Used told", x, want)
	again := x.Used()
	wantErr(t, "Release(1)", x.Release(1), api.OK)
	if !again[1] {
		t.Error("what Used told has changed with the table")
	}
}

func TestNilTable(t *testing.T) {
	var x *Table
	if x.Len() != 0 || x.Get(0) != (api.Page{}) || x.Get(-1) != (api.Page{}) || len(x.Used()) != 0 || x.Fork() != nil {
		t.Error("a nil table tells something")
	}
	for _, owner := range []uint16{0, 7} {
		for _, n := range []int{-1, 0, 1, 257} {
			wantErr(t, "Stage", x.Stage(n, n, owner), api.ErrNil)
			wantErr(t, "Publish", x.Publish(owner, n), api.ErrNil)
		}
		wantErr(t, "Retire", x.Retire(owner, 3), api.ErrNil)
		wantErr(t, "Release", x.Release(owner), api.ErrNil)
	}
}

func TestExample(t *testing.T) {
	x := New(4)
	wantErr(t, "Stage(1, 2, 7)", x.Stage(1, 2, 7), api.OK)
	wantPages(t, "staged", x, []api.Page{{}, {State: api.Staging, Owner: 7}, {State: api.Staging, Owner: 7}, {}})
	wantErr(t, "Publish(7, 1)", x.Publish(7, 1), api.OK)
	wantPages(t, "published", x, []api.Page{{}, {State: api.Live, Exec: true, Owner: 7}, {State: api.Live, Write: true, Owner: 7}, {}})
	wantErr(t, "Stage(2, 1, 8)", x.Stage(2, 1, 8), api.ErrThere)
	wantErr(t, "Retire(7, 3)", x.Retire(7, 3), api.OK)
	wantPages(t, "retired", x, []api.Page{{}, {State: api.Retiring, Exec: true, Owner: 7, Epoch: 3}, {State: api.Retiring, Write: true, Owner: 7, Epoch: 3}, {}})
	if !Runs(x.Get(1), 2) || Runs(x.Get(1), 3) {
		t.Error("Runs of a page that retires")
	}
	wantErr(t, "Release(7)", x.Release(7), api.OK)
	wantPages(t, "released", x, make([]api.Page, 4))
	wantErr(t, "Stage(0, 4, 7)", x.Stage(0, 4, 7), api.OK)
}

func TestStageRefuses(t *testing.T) {
	for _, c := range []struct {
		from, n int
		owner   uint16
		want    api.Errno
	}{
		{0, 1, 0, api.ErrArg},
		{3, 1, 0, api.ErrArg},
		{9, 1, 0, api.ErrArg},
		{0, 0, 9, api.ErrArg},
		{0, -1, 9, api.ErrArg},
		{-1, 0, 9, api.ErrArg},
		{9, 0, 9, api.ErrArg},
		{1, 0, 1, api.ErrArg},
		{0, math.MinInt, 9, api.ErrArg},
		{math.MinInt, math.MinInt, 9, api.ErrArg},
		{-1, 1, 9, api.ErrRange},
		{-1, 2, 9, api.ErrRange},
		{-1, 9, 9, api.ErrRange},
		{math.MinInt, 1, 9, api.ErrRange},
		{math.MinInt, math.MaxInt, 9, api.ErrRange},
		{8, 1, 9, api.ErrRange},
		{7, 2, 9, api.ErrRange},
		{0, 9, 9, api.ErrRange},
		{1, 8, 9, api.ErrRange},
		{1, 8, 1, api.ErrRange},
		{3, 6, 9, api.ErrRange},
		{-1, 3, 1, api.ErrRange},
		{0, math.MaxInt, 9, api.ErrRange},
		{1, math.MaxInt, 9, api.ErrRange},
		{8, math.MaxInt, 9, api.ErrRange},
		{math.MaxInt, 1, 9, api.ErrRange},
		{math.MaxInt - 1, 3, 9, api.ErrRange},
		{math.MaxInt, math.MaxInt, 9, api.ErrRange},
		{0, 2, 9, api.ErrThere},
		{0, 8, 9, api.ErrThere},
		{1, 1, 9, api.ErrThere},
		{3, 1, 9, api.ErrThere},
		{5, 1, 9, api.ErrThere},
		{6, 2, 9, api.ErrThere},
		{0, 1, 1, api.ErrThere},
		{0, 1, 2, api.ErrThere},
		{7, 1, 3, api.ErrThere},
		{1, 2, 1, api.ErrThere},
		{5, 2, 3, api.ErrThere},
	} {
		x, want := staged(t)
		what := fmt.Sprintf("Stage(%d, %d, %d)", c.from, c.n, c.owner)
		wantErr(t, what, x.Stage(c.from, c.n, c.owner), c.want)
		wantPages(t, what, x, want)
	}
	wantErr(t, "Stage of no pages", New(0).Stage(0, 1, 1), api.ErrRange)
}

func TestStageAtTheEnds(t *testing.T) {
	x := New(256)
	wantErr(t, "Stage(255, 1, 65535)", x.Stage(255, 1, math.MaxUint16), api.OK)
	wantErr(t, "Stage(0, 1, 256)", x.Stage(0, 1, 256), api.OK)
	wantErr(t, "Stage(1, 255, 1)", x.Stage(1, 255, 1), api.ErrThere)
	wantErr(t, "Stage(1, 254, 1)", x.Stage(1, 254, 1), api.OK)
	want := slices.Repeat([]api.Page{{State: api.Staging, Owner: 1}}, 256)
	want[0].Owner, want[255].Owner = 256, math.MaxUint16
	wantPages(t, "three owners", x, want)
	wantErr(t, "Publish(1, 255)", x.Publish(1, 255), api.ErrArg)
	wantPages(t, "three owners", x, want)
}

func TestPublishOfSomeCode(t *testing.T) {
	for _, n := range []int{1, 2, 5, 256} {
		for _, code := range []int{math.MinInt, -1, 0, 1, 2, 3, 4, 5, 6, 255, 256, 257, math.MaxInt} {
			x := New(n)
			wantErr(t, "Stage", x.Stage(0, n, 7), api.OK)
			want, err := slices.Repeat([]api.Page{{State: api.Staging, Owner: 7}}, n), api.ErrArg
			if code >= 0 && code <= n {
				err = api.OK
				for i := range want {
					want[i] = api.Page{State: api.Live, Exec: i < code, Write: i >= code, Owner: 7}
				}
			}
			what := fmt.Sprintf("of %d pages Publish(7, %d)", n, code)
			wantErr(t, what, x.Publish(7, code), err)
			wantPages(t, what, x, want)
		}
	}
}

func TestOwnersThatHaveNone(t *testing.T) {
	x, want := staged(t)
	for _, owner := range []uint16{0, 4, 257, 65535, 2, 3} {
		for _, code := range []int{-1, 0, 1, 2, 3} {
			wantErr(t, fmt.Sprintf("Publish(%d, %d)", owner, code), x.Publish(owner, code), api.ErrNone)
		}
	}
	for _, owner := range []uint16{0, 4, 257, 65535, 1, 3} {
		for _, epoch := range someEpochs {
			wantErr(t, fmt.Sprintf("Retire(%d, %d)", owner, epoch), x.Retire(owner, epoch), api.ErrNone)
		}
	}
	for _, owner := range []uint16{0, 4, 257, 65535, 2} {
		wantErr(t, fmt.Sprintf("Release(%d)", owner), x.Release(owner), api.ErrNone)
	}
	wantPages(t, "behind errors", x, want)
}

func TestReleaseFreesOneOwner(t *testing.T) {
	x, want := staged(t)
	wantErr(t, "Release(1)", x.Release(1), api.OK)
	want[1], want[2] = api.Page{}, api.Page{}
	wantPages(t, "the staged ones released", x, want)
	wantErr(t, "Release(1) again", x.Release(1), api.ErrNone)
	wantErr(t, "Release(3)", x.Release(3), api.OK)
	want[5], want[6] = api.Page{}, api.Page{}
	wantPages(t, "the retiring ones released", x, want)
	wantErr(t, "Release(3) again", x.Release(3), api.ErrNone)
	wantErr(t, "Stage(0, 3, 3)", x.Stage(0, 3, 3), api.OK)
	wantErr(t, "Stage(5, 3, 1)", x.Stage(5, 3, 1), api.OK)
}

func TestRetireKeepsAnyEpoch(t *testing.T) {
	for _, epoch := range someEpochs {
		x := New(2)
		wantErr(t, "Stage(0, 2, 7)", x.Stage(0, 2, 7), api.OK)
		wantErr(t, "Publish(7, 1)", x.Publish(7, 1), api.OK)
		what := fmt.Sprintf("Retire(7, %d)", epoch)
		wantErr(t, what, x.Retire(7, epoch), api.OK)
		wantPages(t, what, x, []api.Page{
			{State: api.Retiring, Exec: true, Owner: 7, Epoch: epoch},
			{State: api.Retiring, Write: true, Owner: 7, Epoch: epoch},
		})
	}
}

func TestForksHaveNothingInCommon(t *testing.T) {
	deeds := []func(x *Table) api.Errno{
		func(x *Table) api.Errno { return x.Stage(0, 1, 9) },
		func(x *Table) api.Errno { return x.Publish(1, 1) },
		func(x *Table) api.Errno { return x.Retire(2, 8) },
		func(x *Table) api.Errno { return x.Release(1) },
		func(x *Table) api.Errno { return x.Release(3) },
	}
	for i, deed := range deeds {
		x, want := staged(t)
		f := x.Fork()
		wantPages(t, "fork", f, want)
		wantErr(t, fmt.Sprintf("the deed %d", i), deed(f), api.OK)
		wantPages(t, "behind a fork's deed", x, want)
		g := x.Fork()
		wantErr(t, fmt.Sprintf("the deed %d", i), deed(x), api.OK)
		wantPages(t, "behind a deed", g, want)
		wantPages(t, "the same deed in both", x, f.pages)
	}
	wantPages(t, "fork of none", New(0).Fork(), nil)
}

// deed is a call that changes a table, of a table and of its model.
type deed struct {
	name string
	fast func(x *Table) api.Errno
	slow func(s slowTable) (slowTable, api.Errno)
}

// manyDeeds tells right and wrong calls of a table of three pages.
func manyDeeds() []deed {
	var l []deed
	for _, a := range [][3]int{{0, 1, 1}, {0, 2, 1}, {2, 1, 1}, {1, 2, 2}, {0, 3, 2}, {2, 1, 2}, {2, 2, 2}, {-1, 2, 1}, {1, 0, 1}, {1, 1, 0}} {
		from, n, owner := a[0], a[1], uint16(a[2])
		l = append(l, deed{
			fmt.Sprintf("Stage(%d, %d, %d)", from, n, owner),
			func(x *Table) api.Errno { return x.Stage(from, n, owner) },
			func(s slowTable) (slowTable, api.Errno) { return s.stage(from, n, owner) },
		})
	}
	for _, a := range [][2]int{{1, 0}, {1, 1}, {1, 2}, {2, 1}, {2, 3}, {2, -1}, {0, 0}} {
		owner, code := uint16(a[0]), a[1]
		l = append(l, deed{
			fmt.Sprintf("Publish(%d, %d)", owner, code),
			func(x *Table) api.Errno { return x.Publish(owner, code) },
			func(s slowTable) (slowTable, api.Errno) { return s.publish(owner, code) },
		})
	}
	for owner := range uint16(3) {
		epoch := uint64(owner) * 2
		l = append(l, deed{
			fmt.Sprintf("Retire(%d, %d)", owner, epoch),
			func(x *Table) api.Errno { return x.Retire(owner, epoch) },
			func(s slowTable) (slowTable, api.Errno) { return s.retire(owner, epoch) },
		}, deed{
			fmt.Sprintf("Release(%d)", owner),
			func(x *Table) api.Errno { return x.Release(owner) },
			func(s slowTable) (slowTable, api.Errno) { return s.release(owner) },
		})
	}
	return l
}

func TestAllShortRowsOfDeeds(t *testing.T) {
	deeds := manyDeeds()
	var play func(what string, x *Table, s slowTable, left int)
	play = func(what string, x *Table, s slowTable, left int) {
		wantPages(t, what, x, s.pages())
		wantStagedUnseen(t, what, x)
		if left == 0 {
			return
		}
		for _, d := range deeds {
			f, row := x.Fork(), what+" "+d.name
			next, want := d.slow(s)
			wantErr(t, row, d.fast(f), want)
			play(row, f, next, left-1)
		}
		wantPages(t, "behind what forks did: "+what, x, s.pages())
	}
	play("", New(3), slowTable{size: 3}, 4)
}

// TestLongRowOfDeeds goes on with one table through deeds in an order that a short rule makes.
func TestLongRowOfDeeds(t *testing.T) {
	deeds := manyDeeds()
	x, s := New(3), slowTable{size: 3}
	seed := uint64(1)
	for i := range 100000 {
		seed = seed*6364136223846793005 + 1442695040888963407
		d := deeds[seed>>33%uint64(len(deeds))]
		next, want := d.slow(s)
		wantErr(t, fmt.Sprintf("the deed %d, %s", i, d.name), d.fast(x), want)
		s = next
		wantPages(t, d.name, x, s.pages())
		wantStagedUnseen(t, d.name, x)
	}
}

// wantStagedUnseen holds what harts may do with pages against their states: with free and staged ones nothing, with live ones something, with retiring ones something below their epoch alone.
func wantStagedUnseen(t *testing.T, what string, x *Table) {
	t.Helper()
	for i := range x.Len() {
		p := x.Get(i)
		for epoch := range uint64(6) {
			seen := map[api.State]bool{api.Live: true, api.Retiring: epoch < p.Epoch}[p.State]
			if Reads(p, epoch) != seen || Runs(p, epoch) != (seen && p.Exec) || Writes(p, epoch, p.Owner) != (seen && !p.Exec) || Writes(p, epoch, p.Owner+1) {
				t.Fatalf("%s: at the epoch %d the page %v: reads %v, runs %v, writes %v", what, epoch, p, Reads(p, epoch), Runs(p, epoch), Writes(p, epoch, p.Owner))
			}
		}
	}
}

func TestReadsRunsWrites(t *testing.T) {
	code := api.Page{State: api.Retiring, Exec: true, Owner: 7, Epoch: 3}
	data := api.Page{State: api.Retiring, Write: true, Owner: 7, Epoch: 3}
	live := api.Page{State: api.Live, Write: true, Owner: 7}
	for _, c := range []struct {
		what      string
		got, want bool
	}{
		{"reads code ahead", Reads(code, 2), true},
		{"reads code at", Reads(code, 3), false},
		{"reads code behind", Reads(code, 4), false},
		{"runs code ahead", Runs(code, 2), true},
		{"runs code at", Runs(code, 3), false},
		{"runs data", Runs(data, 2), false},
		{"runs live data", Runs(live, 2), false},
		{"writes code", Writes(code, 2, 7), false},
		{"writes data ahead", Writes(data, 2, 7), true},
		{"writes data at", Writes(data, 3, 7), false},
		{"writes another's data", Writes(data, 2, 8), false},
		{"writes live data", Writes(live, math.MaxUint64, 7), true},
		{"writes another's live data", Writes(live, 0, 8), false},
		{"writes for nobody", Writes(live, 0, 0), false},
		{"writes nobody's data", Writes(api.Page{State: api.Live, Write: true}, 0, 0), false},
		{"reads live data", Reads(live, math.MaxUint64), true},
		{"reads what is free", Reads(api.Page{Exec: true, Write: true, Owner: 7, Epoch: 9}, 0), false},
		{"reads what is staged", Reads(api.Page{State: api.Staging, Exec: true, Write: true, Owner: 7, Epoch: 9}, 0), false},
		{"reads what retires at 0", Reads(api.Page{State: api.Retiring, Owner: 7}, 0), false},
	} {
		if c.got != c.want {
			t.Errorf("%s: %v", c.what, c.got)
		}
	}
}

func TestReadsRunsWritesOfAllKindsOfPages(t *testing.T) {
	eachPage(func(p api.Page) {
		for _, epoch := range someEpochs {
			passed := p.State != api.Live && epoch >= p.Epoch
			unseen := p.State == api.Free || p.State == api.Staging || p.State > api.Retiring || passed
			if Reads(p, epoch) == unseen {
				t.Fatalf("Reads(%v, %d) = %v", p, epoch, !unseen)
			}
			if want := !unseen && p.Exec; Runs(p, epoch) != want {
				t.Fatalf("Runs(%v, %d) = %v", p, epoch, !want)
			}
			for _, owner := range someOwners {
				if want := !unseen && p.Write && owner > 0 && owner == p.Owner; Writes(p, epoch, owner) != want {
					t.Fatalf("Writes(%v, %d, %d) = %v", p, epoch, owner, !want)
				}
			}
		}
	})
}

// eachPage goes over pages, such as a table has and such as none has.
func eachPage(tell func(p api.Page)) {
	for _, state := range someStates {
		for _, owner := range someOwners {
			for _, epoch := range someEpochs {
				for flags := range 4 {
					tell(api.Page{State: state, Exec: flags&1 > 0, Write: flags&2 > 0, Owner: owner, Epoch: epoch})
				}
			}
		}
	}
}
