package memory

import (
	"fmt"
	"math"
	"slices"
	"testing"

	"budwood/api"
	"budwood/isa"
	"budwood/page"
)

// someEpochs has epochs at both ends, and some around the epochs at which pages of these tests retire.
var someEpochs = []uint64{0, 1, 4, 5, 6, api.MaxEpoch, math.MaxUint64}

// someOwners has owners at both ends, and those of these tests.
var someOwners = []uint16{0, 1, 2, 3, 4, 255, 256, math.MaxUint16}

// someWords has words at both ends, and some between.
var someWords = []uint32{0, 1, 7, 80, math.MaxInt32, math.MaxInt32 + 1, math.MaxUint32 - 1, math.MaxUint32}

// farAddresses has addresses beyond all pages that may be, such as differ from right ones in high bits, too.
var farAddresses = []uint32{4176, 4177, 65536, 65536 + 80, 1 << 24, 1<<31 - 1, 1 << 31, 1<<31 + 80, 1<<32 - 176, 1<<32 - 16, 1<<32 - 1}

// slowMemory is a model of a memory: what was laid stands in maps, and pages are found by going over them.
type slowMemory struct {
	pages *page.Table
	gates map[int]uint32
	words map[uint32]uint32
}

func newSlow(pages int) *slowMemory {
	return &slowMemory{page.New(pages), map[int]uint32{}, map[uint32]uint32{}}
}

func (s *slowMemory) fork() *slowMemory {
	f := &slowMemory{s.pages.Fork(), map[int]uint32{}, map[uint32]uint32{}}
	for g, base := range s.gates {
		f.gates[g] = base
	}
	for at, w := range s.words {
		f.words[at] = w
	}
	return f
}

// page tells an address's page; false, if there is none.
func (s *slowMemory) page(at uint32) (api.Page, bool) {
	for i := range s.pages.Len() {
		first := uint32(80 + 16*i)
		if first <= at && at <= first+15 {
			return s.pages.Get(i), true
		}
	}
	return api.Page{}, false
}

func (s *slowMemory) peek(at uint32) uint32 {
	if at <= 63 {
		return 21<<27 | at
	}
	if at <= 71 {
		return s.gates[int(at)-64]
	}
	return s.words[at]
}

func (s *slowMemory) put(at, w uint32) api.Errno {
	p, ok := s.page(at)
	if !ok {
		return api.ErrRange
	}
	if p.State != api.Staging {
		return api.ErrThere
	}
	s.words[at] = w
	return api.OK
}

func (s *slowMemory) setGate(g int, base uint32) api.Errno {
	if g < 0 || g > 7 {
		return api.ErrArg
	}
	s.gates[g] = base
	return api.OK
}

func (s *slowMemory) fetch(at uint32, epoch uint64) (uint32, uint16, bool) {
	p, ok := s.page(at)
	if at <= 63 {
		return s.peek(at), 0, true
	}
	if ok && page.Runs(p, epoch) {
		return s.peek(at), p.Owner, true
	}
	return 0, 0, false
}

func (s *slowMemory) load(at uint32, epoch uint64) (uint32, bool) {
	p, ok := s.page(at)
	if at <= 79 || ok && page.Reads(p, epoch) {
		return s.peek(at), true
	}
	return 0, false
}

func (s *slowMemory) store(at, w uint32, epoch uint64, owner uint16) bool {
	p, ok := s.page(at)
	if !ok || !page.Writes(p, epoch, owner) {
		return false
	}
	s.words[at] = w
	return true
}

// wantAt holds what is told of an address against the model.
func wantAt(t *testing.T, what string, m *Memory, s *slowMemory, at uint32) {
	t.Helper()
	if got, want := m.Peek(at), s.peek(at); got != want {
		t.Fatalf("%s: Peek(%d) = %d, want %d", what, at, got, want)
	}
	for _, epoch := range someEpochs {
		w, owner, ok := m.Fetch(at, epoch)
		wantW, wantOwner, wantOK := s.fetch(at, epoch)
		if w != wantW || owner != wantOwner || ok != wantOK {
			t.Fatalf("%s: Fetch(%d, %d) = %d, %d, %v, want %d, %d, %v", what, at, epoch, w, owner, ok, wantW, wantOwner, wantOK)
		}
		w, ok = m.Load(at, epoch)
		wantW, wantOK = s.load(at, epoch)
		if w != wantW || ok != wantOK {
			t.Fatalf("%s: Load(%d, %d) = %d, %v, want %d, %v", what, at, epoch, w, ok, wantW, wantOK)
		}
	}
}

// wantPages holds a memory's size, pages and gates against the model.
func wantPages(t *testing.T, what string, m *Memory, s *slowMemory) {
	t.Helper()
	if got, want := m.Size(), 80+16*s.pages.Len(); got != want {
		t.Fatalf("%s: Size() = %d, want %d", what, got, want)
	}
	if got, want := m.Pages().Len(), s.pages.Len(); got != want {
		t.Fatalf("%s: Pages().Len() = %d, want %d", what, got, want)
	}
	for i := range s.pages.Len() {
		if got, want := m.Pages().Get(i), s.pages.Get(i); got != want {
			t.Fatalf("%s: Pages().Get(%d) = %v, want %v", what, i, got, want)
		}
	}
	for _, g := range []int{math.MinInt, -9, -8, -1, 0, 1, 2, 3, 4, 5, 6, 7, 8, 9, 64, 1 << 32, math.MaxInt} {
		if got, want := m.Gate(g), s.gates[g]; got != want {
			t.Fatalf("%s: Gate(%d) = %d, want %d", what, g, got, want)
		}
	}
}

// wantAll holds all that a memory tells against the model: of each of its addresses, of some behind it, and of some far ones.
func wantAll(t *testing.T, what string, m *Memory, s *slowMemory) {
	t.Helper()
	wantPages(t, what, m, s)
	for at := range uint32(m.Size() + 33) {
		wantAt(t, what, m, s, at)
	}
	for _, at := range farAddresses {
		wantAt(t, what, m, s, at)
	}
}

// wantErr holds an error against what it should be.
func wantErr(t *testing.T, what string, got, want api.Errno) {
	t.Helper()
	if got != want {
		t.Fatalf("%s = %d, want %d", what, int(got), int(want))
	}
}

// eachDone does the same to the pages of a memory and of its model.
func eachDone(t *testing.T, m *Memory, s *slowMemory, do func(p *page.Table) api.Errno) {
	t.Helper()
	wantErr(t, "what is done with pages", do(m.Pages()), api.OK)
	wantErr(t, "what is done with the model's pages", do(s.pages), api.OK)
}

// filled tells a memory of eight pages, all of whose words differ: 0 is free; 1 staged for the owner 1; 2 and 3 live code and data of 2; 4 and 5 retiring code and data of 3, at the epoch 5; 6 live code of 4; 7 free.
func filled(t *testing.T) (*Memory, *slowMemory) {
	t.Helper()
	m, s := New(8), newSlow(8)
	eachDone(t, m, s, func(p *page.Table) api.Errno { return p.Stage(0, 8, 9) })
	for at := uint32(80); at < 208; at++ {
		wantErr(t, fmt.Sprintf("Put(%d, %d)", at, at*1000), m.Put(at, at*1000), api.OK)
		s.put(at, at*1000)
	}
	eachDone(t, m, s, func(p *page.Table) api.Errno { return p.Release(9) })
	for _, taken := range []struct {
		owner   uint16
		from, n int
	}{{1, 1, 1}, {2, 2, 2}, {3, 4, 2}, {4, 6, 1}} {
		eachDone(t, m, s, func(p *page.Table) api.Errno { return p.Stage(taken.from, taken.n, taken.owner) })
	}
	for _, owner := range []uint16{2, 3, 4} {
		eachDone(t, m, s, func(p *page.Table) api.Errno { return p.Publish(owner, 1) })
	}
	eachDone(t, m, s, func(p *page.Table) api.Errno { return p.Retire(3, 5) })
	for g := range 8 {
		wantErr(t, "SetGate", m.SetGate(g, uint32(g+1)*100), api.OK)
		s.setGate(g, uint32(g+1)*100)
	}
	wantAll(t, "filled", m, s)
	return m, s
}

func TestExample(t *testing.T) {
	m := New(2)
	if m.Size() != 112 {
		t.Errorf("Size() = %d", m.Size())
	}
	if w, err := isa.Encode(api.Ins{Op: api.Enter, Imm: 9}); err != api.OK || m.Peek(9) != w {
		t.Errorf("Peek(9) = %d, want %d", m.Peek(9), w)
	}
	if PageOf(96) != 1 {
		t.Errorf("PageOf(96) = %d", PageOf(96))
	}
	wantErr(t, "Put(80, 7) of a free page", m.Put(80, 7), api.ErrThere)
	wantErr(t, "Stage(0, 1, 3)", m.Pages().Stage(0, 1, 3), api.OK)
	wantErr(t, "Put(80, 7) of a staged page", m.Put(80, 7), api.OK)
	if m.Peek(80) != 7 {
		t.Errorf("Peek(80) = %d", m.Peek(80))
	}
	if w, owner, ok := m.Fetch(64, 0); w != 0 || owner != 0 || ok {
		t.Errorf("Fetch(64, 0) = %d, %d, %v", w, owner, ok)
	}
}

func TestNew(t *testing.T) {
	for _, c := range []struct{ n, want int }{
		{math.MinInt, 0}, {math.MinInt32, 0}, {-1, 0}, {0, 0}, {1, 1}, {2, 2}, {16, 16},
		{255, 255}, {256, 256}, {257, 256}, {4096, 256}, {math.MaxInt32, 256}, {math.MaxInt, 256},
	} {
		wantAll(t, fmt.Sprintf("New(%d)", c.n), New(c.n), newSlow(c.want))
	}
}

func TestPageOf(t *testing.T) {
	for _, c := range []struct {
		at   uint32
		want int
	}{
		{0, -1}, {63, -1}, {64, -1}, {71, -1}, {72, -1}, {79, -1},
		{80, 0}, {95, 0}, {96, 1}, {111, 1}, {112, 2}, {4159, 254}, {4160, 255}, {4175, 255},
		{4176, -1}, {4191, -1}, {4192, -1},
	} {
		if got := PageOf(c.at); got != c.want {
			t.Errorf("PageOf(%d) = %d, want %d", c.at, got, c.want)
		}
	}
	for _, at := range farAddresses {
		if got := PageOf(at); got != -1 {
			t.Errorf("PageOf(%d) = %d, want -1", at, got)
		}
	}
	for i := range 256 {
		for j := range 16 {
			if got := PageOf(uint32(80 + 16*i + j)); got != i {
				t.Errorf("PageOf(%d) = %d, want %d", 80+16*i+j, got, i)
			}
		}
	}
}

// TestSlots does all that might change a slot, and looks at all slots.
func TestSlots(t *testing.T) {
	m, _ := filled(t)
	for _, at := range append(slices.Clone(farAddresses), 0, 1, 7, 8, 62, 63) {
		for _, owner := range someOwners {
			for _, epoch := range someEpochs {
				if m.Store(at, 5, epoch, owner) {
					t.Fatalf("Store(%d, 5, %d, %d) is taken", at, epoch, owner)
				}
			}
		}
		wantErr(t, fmt.Sprintf("Put(%d, 5)", at), m.Put(at, 5), api.ErrRange)
	}
	for _, g := range []int{-64, -63, -1, 8} {
		wantErr(t, fmt.Sprintf("SetGate(%d, 5)", g), m.SetGate(g, 5), api.ErrArg)
	}
	for _, m := range []*Memory{New(0), New(1), m, m.Fork()} {
		for k := range uint32(64) {
			want, err := isa.Encode(api.Ins{Op: api.Enter, Imm: int32(k)})
			wantErr(t, "Encode", err, api.OK)
			if got := m.Peek(k); got != want {
				t.Fatalf("Peek(%d) = %d, want %d", k, got, want)
			}
			for _, epoch := range someEpochs {
				if w, owner, ok := m.Fetch(k, epoch); w != want || owner != 0 || !ok {
					t.Fatalf("Fetch(%d, %d) = %d, %d, %v, want %d, 0, true", k, epoch, w, owner, ok, want)
				}
				if w, ok := m.Load(k, epoch); w != want || !ok {
					t.Fatalf("Load(%d, %d) = %d, %v, want %d, true", k, epoch, w, ok, want)
				}
			}
		}
	}
}

func TestGates(t *testing.T) {
	m, s := New(1), newSlow(1)
	for i, base := range someWords {
		for g := range 8 {
			what := fmt.Sprintf("SetGate(%d, %d)", g, base+uint32(g*i))
			wantErr(t, what, m.SetGate(g, base+uint32(g*i)), api.OK)
			wantErr(t, what, s.setGate(g, base+uint32(g*i)), api.OK)
			wantAll(t, what, m, s)
			if m.Gate(g) != m.Peek(uint32(64+g)) {
				t.Fatalf("Gate(%d) = %d, but Peek(%d) = %d", g, m.Gate(g), 64+g, m.Peek(uint32(64+g)))
			}
		}
	}
	for _, g := range []int{math.MinInt, math.MinInt32, -8, -1, 8, 9, 16, 64, 71, 1 << 32, math.MaxInt} {
		what := fmt.Sprintf("SetGate(%d, 5)", g)
		wantErr(t, what, m.SetGate(g, 5), api.ErrArg)
		wantAll(t, what, m, s)
	}
}

// TestBelowPages is of gates and of what stands between them and the pages: harts read it, but don't run or write it.
func TestBelowPages(t *testing.T) {
	m, s := filled(t)
	for at := uint32(64); at < 80; at++ {
		want := uint32(0)
		if at < 72 {
			want = (at - 63) * 100
		}
		for _, epoch := range someEpochs {
			if w, owner, ok := m.Fetch(at, epoch); w != 0 || owner != 0 || ok {
				t.Errorf("Fetch(%d, %d) = %d, %d, %v", at, epoch, w, owner, ok)
			}
			if w, ok := m.Load(at, epoch); w != want || !ok {
				t.Errorf("Load(%d, %d) = %d, %v, want %d, true", at, epoch, w, ok, want)
			}
			for _, owner := range someOwners {
				if m.Store(at, 5, epoch, owner) {
					t.Errorf("Store(%d, 5, %d, %d) is taken", at, epoch, owner)
				}
			}
		}
		wantErr(t, fmt.Sprintf("Put(%d, 5)", at), m.Put(at, 5), api.ErrRange)
	}
	wantAll(t, "behind what is refused", m, s)
}

func TestPut(t *testing.T) {
	m, s := filled(t)
	for at := range uint32(m.Size() + 33) {
		want := api.ErrRange
		if at >= 80 && at < 208 {
			want = api.ErrThere
		}
		if at >= 96 && at < 112 {
			want = api.OK
		}
		what := fmt.Sprintf("Put(%d, %d)", at, at+5)
		wantErr(t, what, m.Put(at, at+5), want)
		if want == api.OK {
			s.words[at] = at + 5
		}
	}
	for _, at := range farAddresses {
		wantErr(t, fmt.Sprintf("Put(%d, 5)", at), m.Put(at, 5), api.ErrRange)
	}
	wantAll(t, "behind all", m, s)
	for _, w := range someWords {
		wantErr(t, "Put", m.Put(111, w), api.OK)
		s.words[111] = w
		wantAll(t, fmt.Sprintf("behind Put(111, %d)", w), m, s)
	}
}

// TestStates follows one page of code and one of data through all states.
func TestStates(t *testing.T) {
	m := New(2)
	type looks struct{ put, run, read, write, runLate, readLate, writeLate bool }
	want := func(what string, code, data looks) {
		t.Helper()
		for at, want := range map[uint32]looks{95: code, 96: data} {
			var got looks
			_, _, got.run = m.Fetch(at, 4)
			_, _, got.runLate = m.Fetch(at, 5)
			_, got.read = m.Load(at, 4)
			_, got.readLate = m.Load(at, 5)
			w := m.Peek(at)
			got.put = m.Put(at, w) == api.OK
			got.write, got.writeLate = m.Store(at, w, 4, 7), m.Store(at, w, 5, 7)
			if got != want {
				t.Errorf("%s: at %d %+v, want %+v", what, at, got, want)
			}
		}
	}
	want("free", looks{}, looks{})
	wantErr(t, "Stage", m.Pages().Stage(0, 2, 7), api.OK)
	want("staged", looks{put: true}, looks{put: true})
	wantErr(t, "Publish", m.Pages().Publish(7, 1), api.OK)
	want("live", looks{run: true, read: true, runLate: true, readLate: true}, looks{read: true, write: true, readLate: true, writeLate: true})
	wantErr(t, "Retire", m.Pages().Retire(7, 5), api.OK)
	want("retiring", looks{run: true, read: true}, looks{read: true, write: true})
	wantErr(t, "Release", m.Pages().Release(7), api.OK)
	want("released", looks{}, looks{})
}

func TestStore(t *testing.T) {
	m, s := filled(t)
	for at := range uint32(m.Size() + 33) {
		for _, epoch := range someEpochs {
			for _, owner := range someOwners {
				live := owner == 2 && at >= 128 && at < 144
				retiring := owner == 3 && at >= 160 && at < 176 && epoch < 5
				w := at*1000 + uint32(owner)*10 + uint32(epoch%10)
				if got := m.Store(at, w, epoch, owner); got != (live || retiring) {
					t.Fatalf("Store(%d, %d, %d, %d) = %v", at, w, epoch, owner, got)
				}
				if live || retiring {
					s.words[at] = w
				}
			}
		}
		wantAll(t, fmt.Sprintf("behind stores at %d", at), m, s)
	}
	for _, at := range farAddresses {
		for _, owner := range someOwners {
			if m.Store(at, 5, 0, owner) {
				t.Errorf("Store(%d, 5, 0, %d) is taken", at, owner)
			}
		}
	}
	wantAll(t, "behind stores far off", m, s)
	for _, w := range someWords {
		if !m.Store(143, w, 0, 2) || m.Peek(143) != w {
			t.Errorf("Store(143, %d, 0, 2): %d", w, m.Peek(143))
		}
	}
}

// TestLastPage is of the highest addresses that may be.
func TestLastPage(t *testing.T) {
	m, s := New(256), newSlow(256)
	eachDone(t, m, s, func(p *page.Table) api.Errno { return p.Stage(254, 2, math.MaxUint16) })
	for _, at := range []uint32{4143, 4144, 4159, 4160, 4175, 4176} {
		wantErr(t, fmt.Sprintf("Put(%d)", at), m.Put(at, at), s.put(at, at))
	}
	eachDone(t, m, s, func(p *page.Table) api.Errno { return p.Publish(math.MaxUint16, 1) })
	wantAll(t, "published", m, s)
	if w, owner, ok := m.Fetch(4159, math.MaxUint64); w != 4159 || owner != math.MaxUint16 || !ok {
		t.Errorf("Fetch(4159) = %d, %d, %v", w, owner, ok)
	}
	if !m.Store(4175, 5, math.MaxUint64, math.MaxUint16) || m.Store(4176, 5, 0, math.MaxUint16) || m.Peek(4175) != 5 {
		t.Errorf("Store at the end: %d", m.Peek(4175))
	}
}

func TestPagesAsTheyAre(t *testing.T) {
	m := New(2)
	p := m.Pages()
	wantErr(t, "Stage", p.Stage(1, 1, 7), api.OK)
	wantErr(t, "Put", m.Put(96, 9), api.OK)
	wantErr(t, "Publish", m.Pages().Publish(7, 0), api.OK)
	if p != m.Pages() || p.Get(1) != (api.Page{State: api.Live, Write: true, Owner: 7}) {
		t.Errorf("Pages().Get(1) = %v", p.Get(1))
	}
	wantErr(t, "Retire", p.Retire(7, 1), api.OK)
	if m.Store(96, 8, 1, 7) || !m.Store(96, 8, 0, 7) {
		t.Error("a store hangs on other pages than those that Pages tells")
	}
}

func TestForksHaveNothingInCommon(t *testing.T) {
	deeds := []struct {
		name string
		do   func(m *Memory) bool
	}{
		{"Put", func(m *Memory) bool { return m.Put(96, 5) == api.OK }},
		{"Store", func(m *Memory) bool { return m.Store(143, 5, 9, 2) }},
		{"SetGate", func(m *Memory) bool { return m.SetGate(7, 5) == api.OK }},
		{"Stage", func(m *Memory) bool { return m.Pages().Stage(7, 1, 9) == api.OK }},
		{"Publish", func(m *Memory) bool { return m.Pages().Publish(1, 1) == api.OK }},
		{"Release", func(m *Memory) bool { return m.Pages().Release(3) == api.OK }},
	}
	for _, d := range deeds {
		m, s := filled(t)
		f := m.Fork()
		wantAll(t, "a fork", f, s)
		if !d.do(f) {
			t.Fatalf("%s of a fork is refused", d.name)
		}
		wantAll(t, "behind a fork's "+d.name, m, s)
		g := m.Fork()
		if !d.do(m) {
			t.Fatalf("%s behind a fork is refused", d.name)
		}
		wantAll(t, "a fork behind "+d.name, g, s)
		for at := range uint32(m.Size()) {
			if m.Peek(at) != f.Peek(at) {
				t.Fatalf("behind %s of both Peek(%d) = %d and %d", d.name, at, m.Peek(at), f.Peek(at))
			}
		}
	}
	wantAll(t, "a fork of a memory without pages", New(0).Fork(), newSlow(0))
}

func TestTwoMemoriesHaveNothingInCommon(t *testing.T) {
	other, s := New(8), newSlow(8)
	m, _ := filled(t)
	wantAll(t, "the other one", other, s)
	if !m.Store(128, 5, 0, 2) {
		t.Fatal("a store is refused")
	}
	wantAll(t, "the other one behind a store", other, s)
	wantAll(t, "one that is made behind a store", New(8), s)
}

func TestNilMemory(t *testing.T) {
	var m *Memory
	if m.Size() != 0 || m.Pages() != nil || m.Fork() != nil {
		t.Error("a nil memory has something")
	}
	for _, at := range append(slices.Clone(farAddresses), 0, 9, 63, 64, 71, 72, 79, 80, 95, 96) {
		wantErr(t, "Put", m.Put(at, 5), api.ErrNil)
		if m.Peek(at) != 0 || m.Store(at, 5, 0, 1) || m.Store(at, 5, 0, 0) {
			t.Errorf("a nil memory has a word at %d", at)
		}
		if w, owner, ok := m.Fetch(at, 0); w != 0 || owner != 0 || ok {
			t.Errorf("of nil Fetch(%d, 0) = %d, %d, %v", at, w, owner, ok)
		}
		if w, ok := m.Load(at, 0); w != 0 || ok {
			t.Errorf("of nil Load(%d, 0) = %d, %v", at, w, ok)
		}
	}
	for _, g := range []int{math.MinInt, -1, 0, 7, 8, math.MaxInt} {
		wantErr(t, "SetGate", m.SetGate(g, 5), api.ErrNil)
		if m.Gate(g) != 0 {
			t.Errorf("a nil memory has a gate %d", g)
		}
	}
}

// TestCutsEndWithTheirPages is of the words that each page has: beyond them there is no room through which another page's could be reached.
func TestCutsEndWithTheirPages(t *testing.T) {
	m, _ := filled(t)
	for i := range 8 {
		cut := m.cut(i)
		if len(cut) != 16 || cap(cut) != 16 || cut[0] != uint32(80+16*i)*1000 {
			t.Errorf("cut(%d) = %v, with room for %d", i, cut, cap(cut))
		}
	}
	for _, i := range []int{math.MinInt, -1, 8, 9, 255, 256, math.MaxInt} {
		if cut := m.cut(i); len(cut) > 0 || cap(cut) > 0 {
			t.Errorf("cut(%d) = %v, with room for %d", i, cut, cap(cut))
		}
	}
}

// deed is a call, of a memory and of its model; it tells the call's answer as a number.
type deed struct {
	name string
	fast func(m *Memory) int
	slow func(s *slowMemory) int
}

// number tells an answer as a number.
func number(yes bool) int {
	if yes {
		return 1
	}
	return 0
}

// manyDeeds tells right and wrong calls of a memory of two pages; salt makes the words that they lay differ.
func manyDeeds(salt uint32) []deed {
	var l []deed
	add := func(name string, fast func(m *Memory) int, slow func(s *slowMemory) int) {
		l = append(l, deed{name, fast, slow})
	}
	pages := func(name string, do func(p *page.Table) api.Errno) {
		add(name, func(m *Memory) int { return int(do(m.Pages())) }, func(s *slowMemory) int { return int(do(s.pages)) })
	}
	for owner := range uint16(3) {
		pages(fmt.Sprintf("Stage(0, 2, %d)", owner), func(p *page.Table) api.Errno { return p.Stage(0, 2, owner) })
		pages(fmt.Sprintf("Stage(1, 1, %d)", owner), func(p *page.Table) api.Errno { return p.Stage(1, 1, owner) })
		pages(fmt.Sprintf("Publish(%d, 1)", owner), func(p *page.Table) api.Errno { return p.Publish(owner, 1) })
		pages(fmt.Sprintf("Publish(%d, 0)", owner), func(p *page.Table) api.Errno { return p.Publish(owner, 0) })
		pages(fmt.Sprintf("Retire(%d, 5)", owner), func(p *page.Table) api.Errno { return p.Retire(owner, 5) })
		pages(fmt.Sprintf("Release(%d)", owner), func(p *page.Table) api.Errno { return p.Release(owner) })
	}
	for _, at := range []uint32{63, 80, 95, 96, 112} {
		w := at + salt
		add(fmt.Sprintf("Put(%d, %d)", at, w),
			func(m *Memory) int { return int(m.Put(at, w)) },
			func(s *slowMemory) int { return int(s.put(at, w)) })
		for _, owner := range []uint16{1, 2} {
			for _, epoch := range []uint64{4, 5} {
				w := w + uint32(owner)*1000 + uint32(epoch)*10000
				add(fmt.Sprintf("Store(%d, %d, %d, %d)", at, w, epoch, owner),
					func(m *Memory) int { return number(m.Store(at, w, epoch, owner)) },
					func(s *slowMemory) int { return number(s.store(at, w, epoch, owner)) })
			}
		}
	}
	for _, g := range []int{-1, 0, 7, 8} {
		add(fmt.Sprintf("SetGate(%d, %d)", g, salt+5),
			func(m *Memory) int { return int(m.SetGate(g, salt+5)) },
			func(s *slowMemory) int { return int(s.setGate(g, salt+5)) })
	}
	return l
}

func TestAllShortRowsOfDeeds(t *testing.T) {
	var play func(what string, m *Memory, s *slowMemory, left int)
	play = func(what string, m *Memory, s *slowMemory, left int) {
		wantPages(t, what, m, s)
		for _, at := range []uint32{0, 63, 64, 71, 72, 79, 80, 81, 95, 96, 97, 111, 112, 127, 1<<32 - 16} {
			wantAt(t, what, m, s, at)
		}
		if left == 0 {
			return
		}
		for _, d := range manyDeeds(uint32(left) * 100000) {
			f, g, row := m.Fork(), s.fork(), what+" "+d.name
			if got, want := d.fast(f), d.slow(g); got != want {
				t.Fatalf("%s = %d, want %d", row, got, want)
			}
			play(row, f, g, left-1)
		}
		wantPages(t, "behind what forks did: "+what, m, s)
	}
	play("", New(2), newSlow(2), 3)
}

// TestLongRowOfDeeds goes on with one memory through deeds in an order that a short rule makes.
func TestLongRowOfDeeds(t *testing.T) {
	m, s := New(2), newSlow(2)
	seed := uint64(1)
	changes := 0
	for i := range uint32(10000) {
		seed = seed*6364136223846793005 + 1442695040888963407
		deeds := manyDeeds(i * 100000)
		d := deeds[seed>>33%uint64(len(deeds))]
		before := make([]uint32, m.Size())
		for at := range before {
			before[at] = m.Peek(uint32(at))
		}
		got, want := d.fast(m), d.slow(s)
		if got != want {
			t.Fatalf("the deed %d, %s = %d, want %d", i, d.name, got, want)
		}
		wantAll(t, d.name, m, s)
		changed := 0
		for at, w := range before {
			if m.Peek(uint32(at)) != w {
				changed++
			}
		}
		if changed > 1 {
			t.Fatalf("the deed %d, %s has changed %d words", i, d.name, changed)
		}
		changes += changed
	}
	// A row whose deeds are all refused would tell nothing.
	if changes < 500 {
		t.Errorf("only %d deeds have changed a word", changes)
	}
}
