package gate

import (
	"slices"
	"testing"

	"budwood/api"
)

// someNames has names, of which some are alike.
var someNames = []string{"m", "n", "o", "M", "m@1", "m@2", "mm", "é", "m_", "n1", "abcdefghijklmnopqrstuvwx"}

// wrongNames has texts that are no names, or too long.
var wrongNames = []string{
	"", "1", "1x", "_", "@", "@1", "m@", "m@0", "m@01", "m@1000", "m@1@1", "m n", "m-n", " m", "m\n", "\xff", "m\xff",
	"abcdefghijklmnopqrstuvwxy", "abcdefghijklmnopqrstuvwx@1",
}

// slowTable is a model of a table: what has a gate, by the gate's number. A call tells another table.
type slowTable map[int]Bind

// with tells a table with another gate.
func (s slowTable) with(g int, b Bind) slowTable {
	other := slowTable{g: b}
	for n, had := range s {
		if n != g {
			other[n] = had
		}
	}
	return other
}

// without tells a table without a gate.
func (s slowTable) without(g int) slowTable {
	other := s.with(g, Bind{})
	delete(other, g)
	return other
}

// find is Find, and tells -1 for none.
func (s slowTable) find(module string) int {
	for g, b := range s {
		if b.Module == module {
			return g
		}
	}
	return -1
}

// hasOwner tells whether a gate has an owner.
func (s slowTable) hasOwner(owner uint16) bool {
	for _, b := range s {
		if b.Owner == owner {
			return true
		}
	}
	return false
}

// open is Open of a table; wrong names are those of wrongNames.
func (s slowTable) open(b Bind) (slowTable, int, api.Errno) {
	if slices.Contains(wrongNames, b.Module) {
		return s, 0, api.ErrName
	}
	if b.Owner < 1 || b.Base < 1 {
		return s, 0, api.ErrArg
	}
	if s.find(b.Module) >= 0 || s.hasOwner(b.Owner) {
		return s, 0, api.ErrThere
	}
	for g := range 8 {
		if _, has := s[g]; !has {
			return s.with(g, b), g, api.OK
		}
	}
	return s, 0, api.ErrModules
}

// turn is Turn.
func (s slowTable) turn(b Bind) (slowTable, int, Bind, api.Errno) {
	g := s.find(b.Module)
	if b.Owner < 1 || b.Base < 1 {
		return s, 0, Bind{}, api.ErrArg
	}
	if g < 0 {
		return s, 0, Bind{}, api.ErrNone
	}
	if s.hasOwner(b.Owner) {
		return s, 0, Bind{}, api.ErrThere
	}
	return s.with(g, b), g, s[g], api.OK
}

// close is Close.
func (s slowTable) close(module string) (slowTable, int, Bind, api.Errno) {
	g := s.find(module)
	if g < 0 {
		return s, 0, Bind{}, api.ErrNone
	}
	return s.without(g), g, s[g], api.OK
}

// wantOpen opens a gate of a table and of its model, holds the answers against one another, and tells the model from then on.
func wantOpen(t *testing.T, x *Table, s slowTable, b Bind) slowTable {
	t.Helper()
	s, want, wantErr := s.open(b)
	if g, err := x.Open(b); g != want || err != wantErr {
		t.Fatalf("Open(%v) = %d, %d, want %d, %d", b, g, int(err), want, int(wantErr))
	}
	return s
}

// wantTurn is wantOpen for Turn.
func wantTurn(t *testing.T, x *Table, s slowTable, b Bind) slowTable {
	t.Helper()
	s, want, wantOld, wantErr := s.turn(b)
	if g, old, err := x.Turn(b); g != want || old != wantOld || err != wantErr {
		t.Fatalf("Turn(%v) = %d, %v, %d, want %d, %v, %d", b, g, old, int(err), want, wantOld, int(wantErr))
	}
	return s
}

// wantClose is wantOpen for Close.
func wantClose(t *testing.T, x *Table, s slowTable, module string) slowTable {
	t.Helper()
	s, want, wantOld, wantErr := s.close(module)
	if g, old, err := x.Close(module); g != want || old != wantOld || err != wantErr {
		t.Fatalf("Close(%q) = %d, %v, %d, want %d, %v, %d", module, g, old, int(err), want, wantOld, int(wantErr))
	}
	return s
}

// wantTable holds all looks at a table against a model of it; and P18.4.
func wantTable(t *testing.T, what string, x *Table, s slowTable) {
	t.Helper()
	for g := -9; g < 20; g++ {
		if got := x.Get(g); got != s[g] {
			t.Fatalf("%s: Get(%d) = %v, want %v", what, g, got, s[g])
		}
	}
	if got, want := x.Free(), 8-len(s); got != want {
		t.Fatalf("%s: Free() = %d, want %d", what, got, want)
	}
	for _, module := range slices.Concat(someNames, wrongNames) {
		_, want, wantBind, wantErr := s.close(module)
		if g, b, err := x.Find(module); g != want || b != wantBind || err != wantErr {
			t.Fatalf("%s: Find(%q) = %d, %v, %d, want %d, %v, %d", what, module, g, b, int(err), want, wantBind, int(wantErr))
		}
	}
	for g := range 8 {
		for k := range g {
			one, other := x.Get(k), x.Get(g)
			if one != (Bind{}) && other != (Bind{}) && (one.Module == other.Module || one.Owner == other.Owner) {
				t.Fatalf("%s: the gates %d and %d have %v and %v", what, k, g, one, other)
			}
		}
	}
}
