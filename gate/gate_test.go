package gate

import (
	"fmt"
	"math"
	"slices"
	"testing"
	"unsafe"

	"budwood/api"
)

// someOwners has owners at edges of their kind.
var someOwners = []uint16{1, 2, 7, 8, 255, 256, 32767, 32768, 65534, 65535}

// someBases has bases at edges of their kind.
var someBases = []uint32{1, 79, 80, 96, 4175, 4176, 65535, 65536, 1 << 31, math.MaxUint32}

// filled tells a table of n gates that have a module: m@1 at 0, m@2 at 1, and so on, with the owners 11, 12, .., and the bases 80, 96, ..
func filled(t *testing.T, n int) (*Table, slowTable) {
	t.Helper()
	x, s := New(), slowTable{}
	for i := range n {
		b := Bind{Module: fmt.Sprintf("m@%d", i+1), Owner: uint16(i + 11), Base: uint32(80 + 16*i)}
		s = wantOpen(t, x, s, b)
		if s[i] != b {
			t.Fatalf("the model's gate %d has %v", i, s[i])
		}
	}
	wantTable(t, "filled", x, s)
	return x, s
}

// TestExample is the chapter's example.
func TestExample(t *testing.T) {
	x := New()
	open := func(b Bind, want int) {
		t.Helper()
		if g, err := x.Open(b); g != want || err != api.OK {
			t.Fatalf("Open(%v) = %d, %d, want %d", b, g, int(err), want)
		}
	}
	open(Bind{"m", 1, 80}, 0)
	open(Bind{"n", 2, 96}, 1)
	if g, old, err := x.Turn(Bind{"m", 3, 160}); g != 0 || old != (Bind{"m", 1, 80}) || err != api.OK {
		t.Fatalf("Turn(m) = %d, %v, %d", g, old, int(err))
	}
	if g, old, err := x.Close("m"); g != 0 || old != (Bind{"m", 3, 160}) || err != api.OK {
		t.Fatalf("Close(m) = %d, %v, %d", g, old, int(err))
	}
	open(Bind{"o", 4, 80}, 0)
	wantTable(t, "behind the example", x, slowTable{0: {"o", 4, 80}, 1: {"n", 2, 96}})
}

// TestNil: P18.1 to P18.3, a nil table.
func TestNil(t *testing.T) {
	var x *Table
	for _, b := range []Bind{{}, {"m", 1, 80}, {"", 1, 80}, {"m", 0, 0}, {"1", 0, 80}} {
		if g, err := x.Open(b); g != 0 || err != api.ErrNil {
			t.Errorf("Open(%v) = %d, %d", b, g, int(err))
		}
		if g, old, err := x.Turn(b); g != 0 || old != (Bind{}) || err != api.ErrNil {
			t.Errorf("Turn(%v) = %d, %v, %d", b, g, old, int(err))
		}
		if g, old, err := x.Close(b.Module); g != 0 || old != (Bind{}) || err != api.ErrNil {
			t.Errorf("Close(%q) = %d, %v, %d", b.Module, g, old, int(err))
		}
		if g, had, err := x.Find(b.Module); g != 0 || had != (Bind{}) || err != api.ErrNil {
			t.Errorf("Find(%q) = %d, %v, %d", b.Module, g, had, int(err))
		}
	}
	for _, g := range []int{math.MinInt, -1, 0, 1, 7, 8, math.MaxInt} {
		if got := x.Get(g); got != (Bind{}) {
			t.Errorf("Get(%d) = %v", g, got)
		}
	}
	if got := x.Free(); got != 0 {
		t.Errorf("Free() = %d", got)
	}
	if x.Fork() != nil {
		t.Error("Fork() is a table")
	}
}

// TestNew: P18.3, no gate has any; and no table has what another one has.
func TestNew(t *testing.T) {
	x, y := New(), New()
	if x == nil || y == nil {
		t.Fatal("New() = nil")
	}
	wantTable(t, "new", x, nil)
	s := wantOpen(t, x, nil, Bind{"m", 1, 80})
	wantTable(t, "another one", y, nil)
	z := wantOpen(t, y, nil, Bind{"n", 1, 96})
	z = wantOpen(t, y, z, Bind{"m", 2, 80})
	wantTable(t, "a table", x, s)
	wantTable(t, "another one", y, z)
	wantTable(t, "a new one", New(), nil)
}

// TestOpenOfWrongNames: P18.1, ErrName stands ahead of all but ErrNil.
func TestOpenOfWrongNames(t *testing.T) {
	for _, n := range wrongNames {
		for _, gates := range []int{0, 3, 8} {
			x, s := filled(t, gates)
			for _, owner := range []uint16{0, 11, 99} {
				for _, base := range []uint32{0, 80, 999} {
					b := Bind{n, owner, base}
					if g, err := x.Open(b); g != 0 || err != api.ErrName {
						t.Fatalf("Open(%v) = %d, %d", b, g, int(err))
					}
				}
			}
			wantTable(t, "behind wrong names", x, s)
		}
	}
}

// TestOpenOfNames: P18.1, each name, and names that are nearly the same.
func TestOpenOfNames(t *testing.T) {
	for i := range someNames {
		x, s := New(), slowTable{}
		for k := range 8 {
			n := someNames[(i+k)%len(someNames)]
			s = wantOpen(t, x, s, Bind{n, uint16(k + 1), 80})
			wantTable(t, "with "+n, x, s)
		}
		if len(s) != 8 {
			t.Fatalf("%d gates have a module", len(s))
		}
	}
}

// TestOpenOfNone: P18.1, ErrArg stands ahead of ErrThere and ErrModules.
func TestOpenOfNone(t *testing.T) {
	for _, gates := range []int{0, 1, 7, 8} {
		x, s := filled(t, gates)
		for _, module := range []string{"m", "m@1", "m@2", "m@8"} {
			for _, b := range []Bind{{module, 0, 80}, {module, 0, 96}, {module, 99, 0}, {module, 11, 0}, {module, 12, 0}, {module, 0, 0}, {module, 0, math.MaxUint32}, {module, math.MaxUint16, 0}} {
				if g, err := x.Open(b); g != 0 || err != api.ErrArg {
					t.Fatalf("Open(%v) = %d, %d", b, g, int(err))
				}
			}
		}
		wantTable(t, "behind what is none", x, s)
	}
}

// TestOpenAtEdges: P18.1, all owners but 0, and all bases but 0; bases may be the same.
func TestOpenAtEdges(t *testing.T) {
	for i, owner := range someOwners {
		for k, base := range someBases {
			x, s := New(), slowTable{}
			s = wantOpen(t, x, s, Bind{"m", owner, base})
			s = wantOpen(t, x, s, Bind{"n", someOwners[(i+1)%len(someOwners)], base})
			s = wantOpen(t, x, s, Bind{"o", someOwners[(i+2)%len(someOwners)], someBases[(k+1)%len(someBases)]})
			if len(s) != 3 {
				t.Fatalf("%d gates have a module", len(s))
			}
			wantTable(t, "at edges", x, s)
		}
	}
}

// TestOpenOfWhatIsThere: P18.1, a module or an owner that any gate has, and ErrThere ahead of ErrModules.
func TestOpenOfWhatIsThere(t *testing.T) {
	for gates := 1; gates <= 8; gates++ {
		x, s := filled(t, gates)
		for g := range gates {
			has := s[g]
			for _, b := range []Bind{has, {has.Module, 99, 999}, {has.Module, 99, has.Base}, {"n", has.Owner, 999}, {"n", has.Owner, has.Base}, {has.Module, s[gates-1].Owner, 999}} {
				if got, err := x.Open(b); got != 0 || err != api.ErrThere {
					t.Fatalf("of %d gates: Open(%v) = %d, %d", gates, b, got, int(err))
				}
			}
		}
		wantTable(t, "behind what is there", x, s)
	}
}

// TestOpenOfAll: P18.1, the lowest gate that has none, whichever have one: all 256 cases.
func TestOpenOfAll(t *testing.T) {
	for kept := range 256 {
		x, s := filled(t, 8)
		for g := range 8 {
			if kept>>g&1 == 0 {
				s = wantClose(t, x, s, fmt.Sprintf("m@%d", g+1))
			}
		}
		wantTable(t, "with gaps", x, s)
		for owner := uint16(1); x.Free() > 0; owner++ {
			s = wantOpen(t, x, s, Bind{fmt.Sprintf("n%d", owner), owner, 80})
			wantTable(t, "with fewer gaps", x, s)
		}
		if g, err := x.Open(Bind{"n", 99, 80}); g != 0 || err != api.ErrModules {
			t.Fatalf("Open(n) = %d, %d", g, int(err))
		}
		wantTable(t, "without gaps", x, s)
	}
}

// TestTurn: P18.2 and P18.4, each gate, which keeps its module, again and again.
func TestTurn(t *testing.T) {
	for gates := 1; gates <= 8; gates++ {
		x, s := filled(t, gates)
		for i, base := range someBases {
			for g := range gates {
				module := fmt.Sprintf("m@%d", g+1)
				s = wantTurn(t, x, s, Bind{module, uint16(100 + gates*i + g), base})
				if got, b, err := x.Find(module); got != g || b.Base != base || err != api.OK {
					t.Fatalf("Find(%s) = %d, %v, %d", module, got, b, int(err))
				}
				wantTable(t, "turned", x, s)
			}
		}
	}
	x, s := filled(t, 8)
	for _, owner := range someOwners {
		s = wantTurn(t, x, s, Bind{"m@3", owner, 80})
		wantTable(t, "turned", x, s)
	}
	s = wantTurn(t, x, s, Bind{"m@3", 13, 80})
	s = wantTurn(t, x, s, Bind{"m@3", 1, 80})
	s = wantTurn(t, x, s, Bind{"m@4", 13, 80})
	if s[3].Owner != 13 || s[2].Owner != 1 {
		t.Fatalf("the gates 2 and 3 have %v and %v", s[2], s[3])
	}
	wantTable(t, "an owner at another gate", x, s)
}

// TestTurnOfWrong: P18.2, ErrArg, then ErrNone, then ErrThere; a wrong name is none.
func TestTurnOfWrong(t *testing.T) {
	for _, gates := range []int{0, 1, 5, 8} {
		x, s := filled(t, gates)
		want := func(b Bind, want api.Errno) {
			t.Helper()
			if g, old, err := x.Turn(b); g != 0 || old != (Bind{}) || err != want {
				t.Fatalf("of %d gates: Turn(%v) = %d, %v, %d, want %d", gates, b, g, old, int(err), int(want))
			}
		}
		for _, n := range slices.Concat(someNames, wrongNames, []string{"m@1", "m@5", "m@8"}) {
			for _, owner := range []uint16{0, 11, 15, 99} {
				want(Bind{n, owner, 0}, api.ErrArg)
			}
			for _, base := range []uint32{80, math.MaxUint32} {
				want(Bind{n, 0, base}, api.ErrArg)
				for _, owner := range []uint16{1, 11, 15, 99} {
					if s.find(n) < 0 {
						want(Bind{n, owner, base}, api.ErrNone)
					}
				}
			}
		}
		for g := range gates {
			for k := range gates {
				want(Bind{s[g].Module, s[k].Owner, s[k].Base}, api.ErrThere)
				want(Bind{s[g].Module, s[k].Owner, 999}, api.ErrThere)
			}
		}
		wantTable(t, "behind what is wrong", x, s)
	}
}

// TestClose: P18.2, each gate of each number of them; what was closed is none, and may be opened.
func TestClose(t *testing.T) {
	for gates := 1; gates <= 8; gates++ {
		for g := range gates {
			x, s := filled(t, gates)
			had := s[g]
			s = wantClose(t, x, s, had.Module)
			if len(s) != gates-1 {
				t.Fatalf("%d gates have a module", len(s))
			}
			wantTable(t, "closed", x, s)
			if got, old, err := x.Close(had.Module); got != 0 || old != (Bind{}) || err != api.ErrNone {
				t.Fatalf("Close(%s) = %d, %v, %d", had.Module, got, old, int(err))
			}
			wantTable(t, "closed twice", x, s)
			s = wantTurn(t, x, s, Bind{had.Module, 99, 80})
			s = wantOpen(t, x, s, had)
			if got := s.find(had.Module); got != g {
				t.Fatalf("opened again at %d", got)
			}
			wantTable(t, "opened again", x, s)
		}
	}
}

// TestOfNoModule: P18.2, a text that no gate has: what is no name is none, too, though some gates have none.
func TestOfNoModule(t *testing.T) {
	for _, gates := range []int{0, 2, 7, 8} {
		x, s := filled(t, gates)
		for _, n := range slices.Concat(someNames, wrongNames, []string{"m@1", "m@2", "m@3", "m@7", "m@8", "m@9"}) {
			if s.find(n) < 0 {
				s = wantClose(t, x, s, n)
				if g, b, err := x.Find(n); g != 0 || b != (Bind{}) || err != api.ErrNone {
					t.Fatalf("Find(%q) = %d, %v, %d", n, g, b, int(err))
				}
			}
		}
		wantTable(t, "behind no module", x, s)
	}
}

// TestGet: P18.3, numbers that are no gates.
func TestGet(t *testing.T) {
	x, s := filled(t, 8)
	for _, g := range []int{math.MinInt, math.MinInt32, -256, -8, -1, 8, 9, 64, 255, 256, 1 << 32, math.MaxInt32, math.MaxInt} {
		if got := x.Get(g); got != (Bind{}) {
			t.Errorf("Get(%d) = %v", g, got)
		}
	}
	for g := range 8 {
		if got := x.Get(g); got != s[g] || got == (Bind{}) {
			t.Errorf("Get(%d) = %v", g, got)
		}
	}
}

// TestFree: P18.3, with each number of gates.
func TestFree(t *testing.T) {
	for gates := range 9 {
		x, _ := filled(t, gates)
		if got := x.Free(); got != 8-gates {
			t.Errorf("with %d: Free() = %d", gates, got)
		}
	}
}

// TestFork: P18.3, a fork is as the table, and then goes its own way.
func TestFork(t *testing.T) {
	wantTable(t, "a fork of an empty one", New().Fork(), nil)
	for gates := range 9 {
		x, s := filled(t, gates)
		one, two := x.Fork(), x.Fork()
		wantTable(t, "a fork", one, s)
		ones := wantClose(t, one, s, "m@1")
		ones = wantOpen(t, one, ones, Bind{"n", 99, 80})
		twos := wantTurn(t, two, s, Bind{"m@1", 98, 96})
		twos = wantOpen(t, two, twos, Bind{"o", 99, 80})
		wantTable(t, "the table", x, s)
		wantTable(t, "a fork", one, ones)
		wantTable(t, "another fork", two, twos)
		wantTable(t, "a fork of a fork", two.Fork(), twos)
		s = wantClose(t, x, s, "m@2")
		s = wantTurn(t, x, s, Bind{"m@1", 97, 112})
		wantTable(t, "the table", x, s)
		wantTable(t, "a fork", one, ones)
		wantTable(t, "another fork", two, twos)
	}
}

// TestTextsAreNotKept: what a text is cut from may change behind a call.
func TestTextsAreNotKept(t *testing.T) {
	x := New()
	b := []byte("m")
	text := unsafe.String(&b[0], len(b))
	s := wantOpen(t, x, nil, Bind{text, 1, 80})
	b[0] = 'n'
	wantTable(t, "opened", x, slowTable{0: {"m", 1, 80}})
	b[0] = 'm'
	s = wantTurn(t, x, s, Bind{text, 2, 96})
	f := x.Fork()
	b[0] = 'n'
	wantTable(t, "turned", x, slowTable{0: {"m", 2, 96}})
	wantTable(t, "a fork", f, slowTable{0: {"m", 2, 96}})
	wantClose(t, x, slowTable{0: {"m", 2, 96}}, "m")
}

// TestRowOfDeeds plays long rows of deeds on tables, forks and models of them.
func TestRowOfDeeds(t *testing.T) {
	seed := uint64(18)
	next := func(n uint64) uint64 {
		seed = seed*6364136223846793005 + 1442695040888963407
		return seed >> 33 % n
	}
	tables, models := []*Table{New(), New(), New()}, make([]slowTable, 3)
	done := map[string]int{}
	for range 20000 {
		i := next(3)
		x, s := tables[i], models[i]
		b := Bind{someNames[next(uint64(len(someNames)))], uint16(next(16)), uint32(next(9) * 16)}
		if next(20) == 0 {
			b.Module = wrongNames[next(uint64(len(wrongNames)))]
		}
		switch next(8) {
		case 0, 1, 2:
			models[i] = wantOpen(t, x, s, b)
			_, _, err := s.open(b)
			done[fmt.Sprint("open ", int(err))]++
		case 3, 4, 5:
			models[i] = wantTurn(t, x, s, b)
			_, _, _, err := s.turn(b)
			done[fmt.Sprint("turn ", int(err))]++
		case 6:
			models[i] = wantClose(t, x, s, b.Module)
			_, _, _, err := s.close(b.Module)
			done[fmt.Sprint("close ", int(err))]++
		case 7:
			k := next(3)
			tables[k], models[k] = x.Fork(), s
		}
		for k := range tables {
			wantTable(t, "a row of deeds", tables[k], models[k])
		}
	}
	for _, deed := range []string{"open 0", "open 6", "open 2", "open 9", "open 28", "turn 0", "turn 2", "turn 8", "turn 9", "close 0", "close 8"} {
		if done[deed] < 10 {
			t.Errorf("%s: %d times", deed, done[deed])
		}
	}
}
