package symtab

import (
	"slices"
	"testing"

	"budwood/api"
)

// risingNames has names in their order: by stems, byte by byte, and by versions, as numbers.
var risingNames = []string{
	"A", "A@9", "A@10", "Z@2", "a", "a@1", "a@2", "a@9", "a@10", "a@11", "a@99", "a@100", "a@999",
	"a0", "a0@1", "a1", "aB", "a_", "a_@7", "aa", "ab", "aé", "b", "f", "f@2", "f@10", "g", "g@1", "h", "m", "n", "o", "z", "é", "é@3",
}

// wrongNames has texts that are no names, or too long.
var wrongNames = []string{
	"", "1", "1x", "_", "@", "@1", "a@", "a@0", "a@01", "a@1000", "a@1@1", "a b", "a-b", " a", "a\n", "\xff", "a\xff",
	"abcdefghijklmnopqrstuvwxy", "abcdefghijklmnopqrstuvwx@1",
}

// slowEntry is what a slow table knows of a name.
type slowEntry struct {
	name string
	refs int
}

// slowModule is what a slow table knows of a module.
type slowModule struct {
	name    string
	gate    int
	exports []slowEntry
}

// slowTable is a model of a table: modules, as they came, each with its names and Refs. A call tells another table.
type slowTable []slowModule

// hasModule tells whether there is a module.
func (s slowTable) hasModule(module string) bool {
	return slices.ContainsFunc(s, func(m slowModule) bool { return m.name == module })
}

// find tells the entry by a name, and whether there is one.
func (s slowTable) find(export string) (Entry, bool) {
	for _, m := range s {
		for i, e := range m.exports {
			if e.name == export {
				return Entry{Name: export, Module: m.name, Gate: m.gate, Index: i, Refs: e.refs}, true
			}
		}
	}
	return Entry{}, false
}

// refs tells the Refs of a module.
func (s slowTable) refs(module string) int {
	all := 0
	for _, m := range s {
		for _, e := range m.exports {
			if m.name == module {
				all += e.refs
			}
		}
	}
	return all
}

// list tells all entries; the table's names are risingNames.
func (s slowTable) list() []Entry {
	var all []Entry
	for _, n := range risingNames {
		if e, there := s.find(n); there {
			all = append(all, e)
		}
	}
	return all
}

// add is Add.
func (s slowTable) add(module string, gate int, exports []string) (slowTable, api.Errno) {
	for _, n := range append([]string{module}, exports...) {
		if slices.Contains(wrongNames, n) {
			return s, api.ErrName
		}
	}
	once := slices.Compact(slices.Sorted(slices.Values(exports)))
	if !slices.Contains([]int{0, 1, 2, 3, 4, 5, 6, 7}, gate) || len(exports) > 8 || len(once) < len(exports) {
		return s, api.ErrArg
	}
	fresh := slowModule{name: module, gate: gate}
	for _, n := range exports {
		if _, there := s.find(n); there {
			return s, api.ErrThere
		}
		fresh.exports = append(fresh.exports, slowEntry{name: n})
	}
	if s.hasModule(module) {
		return s, api.ErrThere
	}
	return append(slices.Clone(s), fresh), api.OK
}

// remove is Remove.
func (s slowTable) remove(module string) (slowTable, api.Errno) {
	if !s.hasModule(module) {
		return s, api.ErrNone
	}
	if s.refs(module) != 0 {
		return s, api.ErrInUse
	}
	return slices.DeleteFunc(slices.Clone(s), func(m slowModule) bool { return m.name == module }), api.OK
}

// hold is Hold, and Drop for a by of -1.
func (s slowTable) hold(names []string, by int) (slowTable, api.Errno) {
	for _, n := range names {
		if _, there := s.find(n); !there {
			return s, api.ErrNone
		}
	}
	var fresh slowTable
	beyond := false
	for _, m := range s {
		m.exports = slices.Clone(m.exports)
		for i := range m.exports {
			e := &m.exports[i]
			for _, n := range names {
				if n == e.name {
					e.refs += by
				}
			}
			beyond = beyond || e.refs > 8 || e.refs < 0
		}
		fresh = append(fresh, m)
	}
	switch {
	case beyond && by > 0:
		return s, api.ErrRefs
	case beyond:
		return s, api.ErrArg
	}
	return fresh, api.OK
}

// wantErr holds an error against what it should be.
func wantErr(t *testing.T, what string, got, want api.Errno) {
	t.Helper()
	if got != want {
		t.Fatalf("%s = %d, want %d", what, int(got), int(want))
	}
}

// wantTable holds all looks at a table against a model of it.
func wantTable(t *testing.T, what string, x *Table, s slowTable) {
	t.Helper()
	if got, want := x.List(), s.list(); !slices.Equal(got, want) {
		t.Fatalf("%s: List() = %v, want %v", what, got, want)
	}
	for _, n := range append([]string{"no such name", "", "a@0"}, risingNames...) {
		want, there := s.find(n)
		wantFound := api.OK
		if !there {
			wantFound = api.ErrNone
		}
		if got, err := x.Find(n); got != want || err != wantFound {
			t.Fatalf("%s: Find(%q) = %v, %d, want %v, %d", what, n, got, int(err), want, int(wantFound))
		}
		if got, want := x.Refs(n), s.refs(n); got != want {
			t.Fatalf("%s: Refs(%q) = %d, want %d", what, n, got, want)
		}
		if got, want := x.Has(n), s.hasModule(n); got != want {
			t.Fatalf("%s: Has(%q) = %v, want %v", what, n, got, want)
		}
	}
}
