package symtab

import (
	"fmt"
	"math"
	"slices"
	"strings"
	"testing"
	"unsafe"

	"budwood/api"
)

// someGates has numbers that are no gates.
var someGates = []int{math.MinInt, math.MinInt32, -256, -8, -1, 8, 9, 64, 255, 256, math.MaxInt32, math.MaxInt}

// filled tells a table of three modules: m at the gate 2 exports f and g, of which g is held twice; n at 0 has no exports; o, at 2 as well, exports m and a@10, of which m is held eight times.
func filled(t *testing.T) (*Table, slowTable) {
	t.Helper()
	x := New()
	wantErr(t, "Add(m)", x.Add("m", 2, []string{"f", "g"}), api.OK)
	wantErr(t, "Add(n)", x.Add("n", 0, nil), api.OK)
	wantErr(t, "Add(o)", x.Add("o", 2, []string{"m", "a@10"}), api.OK)
	wantErr(t, "Hold(g)", x.Hold([]string{"g", "g"}), api.OK)
	wantErr(t, "Hold(m)", x.Hold(slices.Repeat([]string{"m"}, 8)), api.OK)
	s := slowTable{
		{name: "m", gate: 2, exports: []slowEntry{{name: "f"}, {name: "g", refs: 2}}},
		{name: "n"},
		{name: "o", gate: 2, exports: []slowEntry{{name: "m", refs: 8}, {name: "a@10"}}},
	}
	wantTable(t, "filled", x, s)
	return x, s
}

func TestExample(t *testing.T) {
	x := New()
	wantErr(t, "Add(m, 2, f, g)", x.Add("m", 2, []string{"f", "g"}), api.OK)
	e, err := x.Find("g")
	if e != (Entry{Name: "g", Module: "m", Gate: 2, Index: 1}) || err != api.OK || Slot(e) != 17 {
		t.Errorf("Find(g) = %v, %d, at the slot %d", e, int(err), Slot(e))
	}
	wantErr(t, "Hold(g)", x.Hold([]string{"g"}), api.OK)
	wantErr(t, "Remove(m)", x.Remove("m"), api.ErrInUse)
	wantErr(t, "Drop(g)", x.Drop([]string{"g"}), api.OK)
	wantErr(t, "Remove(m)", x.Remove("m"), api.OK)
	wantTable(t, "removed", x, nil)
}

func TestNew(t *testing.T) {
	x, y := New(), New()
	wantTable(t, "new", x, nil)
	wantErr(t, "Add", x.Add("m", 2, []string{"f"}), api.OK)
	wantTable(t, "another one", y, nil)
	wantTable(t, "a new one", New(), nil)
}

func TestAddOfNames(t *testing.T) {
	for _, n := range wrongNames {
		for _, c := range []struct {
			module  string
			exports []string
		}{
			{n, nil}, {n, []string{"a"}}, {n, []string{n}}, {"a", []string{n}}, {"a", []string{"b", n}}, {"a", []string{n, "b", "z"}},
			{"a", []string{"A", "a0", "a1", "b", "z", "aa", "ab", n}},
			// Wrong names stand ahead of all other errors.
			{"m", []string{n}}, {n, []string{"f"}}, {"a", []string{"f", n}}, {"a", []string{"z", "z", n}}, {n, []string{"z", "z"}},
			{"a", append(slices.Repeat([]string{"z"}, 8), n)}, {"a", append(slices.Repeat([]string{"z"}, 99), n)}, {n, slices.Repeat([]string{"z"}, 9)},
		} {
			for _, gate := range []int{3, 8, -1} {
				x, s := filled(t)
				what := fmt.Sprintf("Add(%q, %d, %q)", c.module, gate, c.exports)
				wantErr(t, what, x.Add(c.module, gate, c.exports), api.ErrName)
				wantTable(t, what, x, s)
			}
		}
	}
}

// TestAddOfAllNames has each name as a module, and as an export of it.
func TestAddOfAllNames(t *testing.T) {
	x, s := New(), slowTable{}
	for i, n := range risingNames {
		wantErr(t, "Add "+n, x.Add(n, i%8, []string{n}), api.OK)
		s = append(s, slowModule{name: n, gate: i % 8, exports: []slowEntry{{name: n}}})
		wantTable(t, "with "+n, x, s)
	}
	long := strings.Repeat("é", 22) + "@9"
	wantErr(t, "Add of 24 runes", x.Add(long, 7, []string{long}), api.OK)
	if e, err := x.Find(long); e != (Entry{Name: long, Module: long, Gate: 7}) || err != api.OK || !x.Has(long) {
		t.Errorf("Find(%q) = %v, %d", long, e, int(err))
	}
}

func TestAddOfGates(t *testing.T) {
	for gate := range 8 {
		x, s := filled(t)
		wantErr(t, "Add", x.Add("a", gate, []string{"b", "a"}), api.OK)
		wantTable(t, fmt.Sprintf("at the gate %d", gate), x, append(s, slowModule{name: "a", gate: gate, exports: []slowEntry{{name: "b"}, {name: "a"}}}))
	}
	for _, gate := range someGates {
		// What is there already stands behind a wrong gate.
		for _, module := range []string{"a", "m"} {
			for _, exports := range [][]string{nil, {"b"}, {"f"}, {"f", "b"}} {
				x, s := filled(t)
				what := fmt.Sprintf("Add(%s, %d, %q)", module, gate, exports)
				wantErr(t, what, x.Add(module, gate, exports), api.ErrArg)
				wantTable(t, what, x, s)
			}
		}
	}
}

func TestAddOfManyExports(t *testing.T) {
	for n := range 36 {
		x, s := filled(t)
		fresh := slowModule{name: "a", gate: 7}
		var exports []string
		for _, name := range risingNames {
			if _, there := s.find(name); !there && len(exports) < n {
				exports = append(exports, name)
				fresh.exports = append(fresh.exports, slowEntry{name: name})
			}
		}
		// Entries stand in the order of the exports, whatever that is.
		slices.Reverse(exports)
		slices.Reverse(fresh.exports)
		what := fmt.Sprintf("Add of %d exports", n)
		if n > 8 {
			wantErr(t, what, x.Add("a", 7, exports), api.ErrArg)
			wantErr(t, what+" of m", x.Add("m", 7, exports), api.ErrArg)
			wantErr(t, what+", one of which is there", x.Add("a", 7, append(exports, "f")), api.ErrArg)
			wantTable(t, what, x, s)
			continue
		}
		wantErr(t, what, x.Add("a", 7, exports), api.OK)
		wantTable(t, what, x, append(s, fresh))
	}
}

func TestAddOfTheSameExports(t *testing.T) {
	for n := 2; n <= 8; n++ {
		for second := range n {
			for first := range second {
				exports := slices.Clone(risingNames[:n])
				exports[second] = exports[first]
				for _, module := range []string{"a", "m"} {
					x, s := filled(t)
					what := fmt.Sprintf("Add(%s, 3, %q)", module, exports)
					wantErr(t, what, x.Add(module, 3, exports), api.ErrArg)
					wantTable(t, what, x, s)
				}
			}
		}
	}
	x, s := filled(t)
	wantErr(t, "Add of what is there, twice", x.Add("a", 3, []string{"f", "f"}), api.ErrArg)
	wantTable(t, "what is there, twice", x, s)
	// Texts are the same byte by byte.
	wantErr(t, "Add of nearly the same", x.Add("z", 3, []string{"a", "A", "a@1", "aa", "é"}), api.OK)
}

func TestAddOfWhatIsThere(t *testing.T) {
	for _, c := range []struct {
		module  string
		exports []string
	}{
		{"m", nil}, {"n", nil}, {"o", nil}, {"m", []string{"a"}}, {"n", []string{"a", "b"}}, {"m", []string{"f", "g"}},
		{"a", []string{"f"}}, {"a", []string{"g"}}, {"a", []string{"m"}}, {"a", []string{"a@10"}},
		{"a", []string{"b", "f"}}, {"a", []string{"f", "b"}}, {"a", []string{"A", "a0", "a1", "b", "z", "aa", "ab", "g"}},
	} {
		for _, gate := range []int{0, 2, 7} {
			x, s := filled(t)
			what := fmt.Sprintf("Add(%s, %d, %q)", c.module, gate, c.exports)
			wantErr(t, what, x.Add(c.module, gate, c.exports), api.ErrThere)
			wantTable(t, what, x, s)
		}
	}
	x, s := filled(t)
	// A module may be called as an entry is, and an entry as a module.
	wantErr(t, "Add(f, 2, n, o, a)", x.Add("f", 2, []string{"n", "o", "a"}), api.OK)
	wantTable(t, "Add(f, 2, n, o, a)", x, append(s, slowModule{name: "f", gate: 2, exports: []slowEntry{{name: "n"}, {name: "o"}, {name: "a"}}}))
}

func TestRemove(t *testing.T) {
	x, s := filled(t)
	for _, n := range []string{"", "a", "f", "g", "a@10", "M", "m@1", "no such module", "1"} {
		wantErr(t, fmt.Sprintf("Remove(%q)", n), x.Remove(n), api.ErrNone)
	}
	wantErr(t, "Remove(m)", x.Remove("m"), api.ErrInUse)
	wantErr(t, "Remove(o)", x.Remove("o"), api.ErrInUse)
	wantTable(t, "behind errors", x, s)
	wantErr(t, "Remove(n)", x.Remove("n"), api.OK)
	wantErr(t, "Remove(n) again", x.Remove("n"), api.ErrNone)
	s = slowTable{s[0], s[2]}
	wantTable(t, "without n", x, s)
	wantErr(t, "Drop(g)", x.Drop([]string{"g"}), api.OK)
	wantErr(t, "Remove(m), held once", x.Remove("m"), api.ErrInUse)
	wantErr(t, "Drop(g)", x.Drop([]string{"g"}), api.OK)
	wantErr(t, "Remove(m), let go", x.Remove("m"), api.OK)
	wantTable(t, "without m", x, s[1:])
	wantErr(t, "Add(m) again", x.Add("m", 5, []string{"g", "f"}), api.OK)
	wantTable(t, "with another m", x, append(s[1:], slowModule{name: "m", gate: 5, exports: []slowEntry{{name: "g"}, {name: "f"}}}))
}

// TestHeldIsNotRemoved is P13.6: each entry alone keeps its module, at all numbers of Refs.
func TestHeldIsNotRemoved(t *testing.T) {
	for n := range 9 {
		for i := range n {
			for refs := 1; refs <= 8; refs++ {
				x := New()
				wantErr(t, "Add(m)", x.Add("m", 0, risingNames[:n]), api.OK)
				held := slices.Repeat(risingNames[i:i+1], refs)
				wantErr(t, "Hold", x.Hold(held), api.OK)
				if e, err := x.Find(risingNames[i]); e.Refs != refs || err != api.OK || x.Refs("m") != refs {
					t.Fatalf("held %d times: Find = %v, %d; Refs = %d", refs, e, int(err), x.Refs("m"))
				}
				wantErr(t, "Remove(m)", x.Remove("m"), api.ErrInUse)
				wantErr(t, "Drop", x.Drop(held), api.OK)
				wantErr(t, "Remove(m)", x.Remove("m"), api.OK)
				wantTable(t, "removed", x, nil)
			}
		}
	}
}

func TestHoldAndDrop(t *testing.T) {
	many := func(n int, name string) []string { return slices.Repeat([]string{name}, n) }
	for _, c := range []struct {
		names      []string
		hold, drop api.Errno
	}{
		{nil, api.OK, api.OK},
		{[]string{}, api.OK, api.OK},
		{[]string{"f"}, api.OK, api.ErrArg},
		{[]string{"g"}, api.OK, api.OK},
		{[]string{"g", "g"}, api.OK, api.OK},
		{[]string{"g", "g", "g"}, api.OK, api.ErrArg},
		{[]string{"g", "f", "g"}, api.OK, api.ErrArg},
		{[]string{"f", "g", "a@10"}, api.OK, api.ErrArg},
		{[]string{"m"}, api.ErrRefs, api.OK},
		{[]string{"g", "m", "g", "m"}, api.ErrRefs, api.OK},
		{[]string{"m", "g", "f"}, api.ErrRefs, api.ErrArg},
		{many(6, "g"), api.OK, api.ErrArg},
		{many(7, "g"), api.ErrRefs, api.ErrArg},
		{many(8, "f"), api.OK, api.ErrArg},
		{many(9, "f"), api.ErrRefs, api.ErrArg},
		{many(8, "m"), api.ErrRefs, api.OK},
		{many(9, "m"), api.ErrRefs, api.ErrArg},
		{append(many(8, "f"), many(8, "a@10")...), api.OK, api.ErrArg},
		{append(many(8, "m"), many(2, "g")...), api.ErrRefs, api.OK},
		{many(100000, "g"), api.ErrRefs, api.ErrArg},
		{[]string{"h"}, api.ErrNone, api.ErrNone},
		{[]string{""}, api.ErrNone, api.ErrNone},
		{[]string{"n"}, api.ErrNone, api.ErrNone},
		{[]string{"no such name"}, api.ErrNone, api.ErrNone},
		{[]string{"G"}, api.ErrNone, api.ErrNone},
		{[]string{"a"}, api.ErrNone, api.ErrNone},
		{[]string{"a@1"}, api.ErrNone, api.ErrNone},
		{[]string{"g", "h"}, api.ErrNone, api.ErrNone},
		{[]string{"h", "g"}, api.ErrNone, api.ErrNone},
		// A name that isn't there stands ahead of too many Refs, and of too few.
		{append(many(9, "f"), "h"), api.ErrNone, api.ErrNone},
		{[]string{"m", "f", "h"}, api.ErrNone, api.ErrNone},
		{[]string{"h", "m", "f"}, api.ErrNone, api.ErrNone},
	} {
		x, s := filled(t)
		what := fmt.Sprintf("Hold(%.80q)", c.names)
		wantErr(t, what, x.Hold(c.names), c.hold)
		after, _ := s.hold(c.names, 1)
		wantTable(t, what, x, after)
		x, s = filled(t)
		what = fmt.Sprintf("Drop(%.80q)", c.names)
		wantErr(t, what, x.Drop(c.names), c.drop)
		after, _ = s.hold(c.names, -1)
		wantTable(t, what, x, after)
	}
}

// TestHoldOneByOne counts one Ref at a time up to the bound, and down again.
func TestHoldOneByOne(t *testing.T) {
	x := New()
	wantErr(t, "Add", x.Add("m", 6, []string{"f", "g"}), api.OK)
	s := slowTable{{name: "m", gate: 6, exports: []slowEntry{{name: "f"}, {name: "g"}}}}
	refs := &s[0].exports[1].refs
	for range 8 {
		wantErr(t, "Hold(g)", x.Hold([]string{"g"}), api.OK)
		*refs++
		wantTable(t, "held", x, s)
	}
	wantErr(t, "Hold(g), once too often", x.Hold([]string{"g"}), api.ErrRefs)
	wantErr(t, "Hold(f, g)", x.Hold([]string{"f", "g"}), api.ErrRefs)
	wantErr(t, "Hold(g, f)", x.Hold([]string{"g", "f"}), api.ErrRefs)
	wantTable(t, "held eight times", x, s)
	for range 8 {
		wantErr(t, "Drop(g)", x.Drop([]string{"g"}), api.OK)
		*refs--
		wantTable(t, "let go", x, s)
	}
	wantErr(t, "Drop(g), once too often", x.Drop([]string{"g"}), api.ErrArg)
	wantTable(t, "let go eight times", x, s)
}

func TestListIsInOrder(t *testing.T) {
	for _, step := range []int{1, 2, 3, 4, 6, 8, 9, 11, 12, 13, 34} {
		x := New()
		for i := range risingNames {
			n := risingNames[(i+1)*step%len(risingNames)]
			if err := x.Add(n, 0, []string{n}); err != api.OK {
				t.Fatalf("Add(%q) = %d", n, int(err))
			}
		}
		var got []string
		for _, e := range x.List() {
			got = append(got, e.Name)
		}
		if !slices.Equal(got, risingNames) {
			t.Fatalf("by steps of %d: List() has %q", step, got)
		}
	}
}

func TestSlot(t *testing.T) {
	for gate := range 8 {
		for index := range 8 {
			e := Entry{Name: "f", Module: "m", Gate: gate, Index: index, Refs: 5}
			if got, want := Slot(e), uint32(8*gate+index); got != want {
				t.Errorf("Slot(%v) = %d, want %d", e, got, want)
			}
		}
	}
	if Slot(Entry{}) != 0 {
		t.Error("Slot of the zero entry is not 0")
	}
	// Numbers that no entry has wrap round.
	for _, gate := range someGates {
		for _, index := range someGates {
			if got, want := Slot(Entry{Gate: gate, Index: index}), 8*uint32(gate)+uint32(index); got != want {
				t.Errorf("Slot(%d, %d) = %d, want %d", gate, index, got, want)
			}
		}
	}
}

// TestSlotsOfATable has all that eight gates may have: no two entries have one slot.
func TestSlotsOfATable(t *testing.T) {
	x := New()
	for gate := range 8 {
		var exports []string
		for i := range 8 {
			exports = append(exports, fmt.Sprintf("f%d_%d", gate, i))
		}
		wantErr(t, "Add", x.Add(fmt.Sprintf("m%d", gate), gate, exports), api.OK)
	}
	for i, e := range x.List() {
		if Slot(e) != uint32(i) || e.Name != fmt.Sprintf("f%d_%d", i/8, i%8) || e.Module != fmt.Sprintf("m%d", i/8) {
			t.Errorf("the entry %d is %v, at the slot %d", i, e, Slot(e))
		}
	}
}

func TestNilTable(t *testing.T) {
	var x *Table
	for _, n := range []string{"", "m", "1"} {
		for _, names := range [][]string{nil, {"f"}, {"f", "f"}, {"1"}, slices.Repeat([]string{"f"}, 9)} {
			for _, gate := range []int{-1, 0, 8} {
				wantErr(t, "Add", x.Add(n, gate, names), api.ErrNil)
			}
			wantErr(t, "Hold", x.Hold(names), api.ErrNil)
			wantErr(t, "Drop", x.Drop(names), api.ErrNil)
		}
		wantErr(t, "Remove", x.Remove(n), api.ErrNil)
		e, err := x.Find(n)
		wantErr(t, "Find", err, api.ErrNil)
		if e != (Entry{}) || x.Refs(n) != 0 || x.Has(n) {
			t.Errorf("a nil table tells something of %q", n)
		}
	}
	if len(x.List()) != 0 || x.Fork() != nil {
		t.Error("a nil table tells something")
	}
}

func TestListIsNew(t *testing.T) {
	x, s := filled(t)
	list, again := x.List(), x.List()
	for i := range list[:cap(list)] {
		list[:cap(list)][i] = Entry{Name: "spoilt", Refs: 9}
	}
	wantTable(t, "behind a change of what List told", x, s)
	if !slices.Equal(again, s.list()) {
		t.Error("two answers of List share memory")
	}
	wantErr(t, "Drop(g)", x.Drop([]string{"g"}), api.OK)
	if !slices.Equal(again, s.list()) {
		t.Error("what List told has changed with the table")
	}
}

func TestArgumentsAreNotChanged(t *testing.T) {
	x := New()
	room := []string{"z", "a", "f", "spare"}
	names := room[:3]
	wantErr(t, "Add", x.Add("m", 0, names), api.OK)
	wantErr(t, "Hold", x.Hold(names), api.OK)
	wantErr(t, "Drop", x.Drop(names), api.OK)
	if !slices.Equal(room, []string{"z", "a", "f", "spare"}) {
		t.Errorf("the argument became %q", room)
	}
}

// TestArgumentsAreNotKept writes over lists that were handed in, and over the very bytes of their texts.
func TestArgumentsAreNotKept(t *testing.T) {
	var handed [][]byte
	text := func(s string) string {
		b := []byte(s)
		handed = append(handed, b)
		return unsafe.String(&b[0], len(b))
	}
	x := New()
	exports, held, dropped := []string{text("f"), text("g")}, []string{text("g"), text("f"), text("g")}, []string{text("g")}
	wantErr(t, "Add", x.Add(text("m"), 2, exports), api.OK)
	wantErr(t, "Hold", x.Hold(held), api.OK)
	wantErr(t, "Drop", x.Drop(dropped), api.OK)
	f := x.Fork()
	for _, b := range handed {
		b[0] = 'h'
	}
	for _, l := range [][]string{exports, held, dropped} {
		clear(l)
	}
	s := slowTable{{name: "m", gate: 2, exports: []slowEntry{{name: "f", refs: 1}, {name: "g", refs: 1}}}}
	wantTable(t, "behind a change of arguments", x, s)
	wantTable(t, "behind a change of arguments, the fork", f, s)
	wantErr(t, "Drop", x.Drop([]string{"f", "g"}), api.OK)
	wantErr(t, "Remove", x.Remove("m"), api.OK)
	wantTable(t, "removed", x, nil)
}

// deed is a call that changes a table, of a table and of its model.
type deed struct {
	name string
	fast func(x *Table) api.Errno
	slow func(s slowTable) (slowTable, api.Errno)
}

// manyDeeds tells right and wrong calls of a table.
func manyDeeds() []deed {
	var l []deed
	for _, a := range []struct {
		module  string
		gate    int
		exports []string
	}{
		{"m", 2, []string{"f", "g"}}, {"m", 0, nil}, {"m", 7, []string{"g", "m", "f"}}, {"n", 2, []string{"g"}}, {"n", 5, []string{"h"}}, {"n", 0, []string{"h", "f"}},
		{"n", 8, []string{"h"}}, {"m", -1, nil}, {"n", 1, []string{"h", "h"}}, {"n", 1, []string{"h", ""}}, {"1", 8, nil},
	} {
		l = append(l, deed{
			fmt.Sprintf("Add(%s, %d, %q)", a.module, a.gate, a.exports),
			func(x *Table) api.Errno { return x.Add(a.module, a.gate, a.exports) },
			func(s slowTable) (slowTable, api.Errno) { return s.add(a.module, a.gate, a.exports) },
		})
	}
	for _, n := range []string{"m", "n", "f"} {
		l = append(l, deed{
			fmt.Sprintf("Remove(%s)", n),
			func(x *Table) api.Errno { return x.Remove(n) },
			func(s slowTable) (slowTable, api.Errno) { return s.remove(n) },
		})
	}
	for _, names := range [][]string{nil, {"f"}, {"g"}, {"h"}, {"f", "g"}, {"g", "g", "g", "g", "g"}, {"h", "h", "h", "f", "h"}} {
		l = append(l, deed{
			fmt.Sprintf("Hold(%q)", names),
			func(x *Table) api.Errno { return x.Hold(names) },
			func(s slowTable) (slowTable, api.Errno) { return s.hold(names, 1) },
		}, deed{
			fmt.Sprintf("Drop(%q)", names),
			func(x *Table) api.Errno { return x.Drop(names) },
			func(s slowTable) (slowTable, api.Errno) { return s.hold(names, -1) },
		})
	}
	return l
}

func TestAllShortRowsOfDeeds(t *testing.T) {
	deeds := manyDeeds()
	var play func(what string, x *Table, s slowTable, left int)
	play = func(what string, x *Table, s slowTable, left int) {
		wantTable(t, what, x, s)
		if left == 0 {
			return
		}
		for _, d := range deeds {
			f, row := x.Fork(), what+" "+d.name
			next, want := d.slow(s)
			wantErr(t, row, d.fast(f), want)
			play(row, f, next, left-1)
		}
		wantTable(t, "behind what forks did: "+what, x, s)
	}
	play("", New(), nil, 3)
}

// TestLongRowOfDeeds goes on with one table through deeds in an order that a short rule makes.
func TestLongRowOfDeeds(t *testing.T) {
	deeds := manyDeeds()
	x, s := New(), slowTable{}
	seed := uint64(1)
	for i := range 50000 {
		seed = seed*6364136223846793005 + 1442695040888963407
		d := deeds[seed>>33%uint64(len(deeds))]
		next, want := d.slow(s)
		wantErr(t, fmt.Sprintf("the deed %d, %s", i, d.name), d.fast(x), want)
		s = next
		wantTable(t, d.name, x, s)
	}
}

func TestForksHaveNothingInCommon(t *testing.T) {
	deeds := []deed{
		{"Add", func(x *Table) api.Errno { return x.Add("a", 3, []string{"a"}) }, func(s slowTable) (slowTable, api.Errno) { return s.add("a", 3, []string{"a"}) }},
		{"Remove", func(x *Table) api.Errno { return x.Remove("n") }, func(s slowTable) (slowTable, api.Errno) { return s.remove("n") }},
		{"Hold", func(x *Table) api.Errno { return x.Hold([]string{"f", "g"}) }, func(s slowTable) (slowTable, api.Errno) { return s.hold([]string{"f", "g"}, 1) }},
		{"Drop", func(x *Table) api.Errno { return x.Drop([]string{"m", "g"}) }, func(s slowTable) (slowTable, api.Errno) { return s.hold([]string{"m", "g"}, -1) }},
	}
	for _, d := range deeds {
		x, s := filled(t)
		after, _ := d.slow(s)
		f := x.Fork()
		wantTable(t, "fork", f, s)
		wantErr(t, d.name+" of a fork", d.fast(f), api.OK)
		wantTable(t, "behind a fork's "+d.name, x, s)
		wantTable(t, "a fork behind its "+d.name, f, after)
		g := x.Fork()
		wantErr(t, d.name, d.fast(x), api.OK)
		wantTable(t, "a fork behind another's "+d.name, g, s)
		wantTable(t, "behind "+d.name, x, after)
	}
	f := New().Fork()
	wantTable(t, "fork of none", f, nil)
	wantErr(t, "Add to a fork of none", f.Add("m", 0, []string{"f"}), api.OK)
	wantErr(t, "Add to a fork of a fork", f.Fork().Add("n", 0, []string{"g"}), api.OK)
}
