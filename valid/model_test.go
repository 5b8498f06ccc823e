package valid

import (
	"fmt"
	"slices"
	"testing"

	"budwood/api"
	"budwood/asm"
	"budwood/isa"
	"budwood/name"
	"budwood/object"
)

// kindParts tells of each kind which section it names a word of, what that has to be, and what Which counts.
var kindParts = []string{
	"code call imports", "code li imports", "code li data", "code li code",
	"data nought imports", "data nought data", "data nought code", "code call code",
}

// fault is a fault and where it is.
type fault struct {
	what Fault
	at   int
}

// slowReloc is a relocation's parts by its kind.
type slowReloc struct {
	section, asks, counts string
	at, which             int
}

// slowModule is a model of Module: it tells all that is wrong, each thing without regard to the others, and takes the least.
func slowModule(m api.Module) (Fault, int) {
	faults := slowFaults(m)
	if len(faults) == 0 {
		return None, 0
	}
	least := slices.MinFunc(faults, func(a, b fault) int {
		if a.what != b.what {
			return int(a.what) - int(b.what)
		}
		return a.at - b.at
	})
	return least.what, least.at
}

// slowFaults tells all that is wrong with a module, in no order.
func slowFaults(m api.Module) []fault {
	var l []fault
	tell := func(bad bool, what Fault, at int) {
		if bad {
			l = append(l, fault{what, at})
		}
	}
	tell(object.Check(m) != api.OK, 1, 0)
	tell(name.Check(m.Name) != api.OK, 2, 0)
	slowTexts(m.Exports, 1, 0, tell)
	slowTexts(m.Imports, 9, 8, tell)
	tell(len(m.Code) < max(1, len(m.Exports)), 4, 0)
	slowRelocs(m, tell)
	for at, w := range m.Code {
		_, err := isa.Decode(w)
		tell(err != api.OK || w>>27 == 21, 5, at)
		tell(w>>27 == 17 && !slices.ContainsFunc(slowParts(m), func(r slowReloc) bool { return r.section == "code" && r.at == at }), 9, at)
	}
	return l
}

// slowTexts tells the faults of a list of names.
func slowTexts(l []string, nameFrom, textFrom int, tell func(bad bool, what Fault, at int)) {
	for i, s := range l {
		tell(name.Check(s) != api.OK, 2, nameFrom+i)
		for _, other := range l[i+1:] {
			tell(s == other, 3, textFrom+i+1+slices.Index(l[i+1:], s))
		}
	}
}

// slowParts tells the parts of all relocations that have a kind.
func slowParts(m api.Module) []slowReloc {
	var l []slowReloc
	for _, r := range m.Relocs {
		if r.Kind > 7 {
			continue
		}
		p := slowReloc{at: int(r.At), which: int(r.Which)}
		fmt.Sscan(kindParts[r.Kind], &p.section, &p.asks, &p.counts)
		l = append(l, p)
	}
	return l
}

// slowRelocs tells the faults of relocations.
func slowRelocs(m api.Module, tell func(bad bool, what Fault, at int)) {
	sections := map[string][]uint32{"code": m.Code, "data": m.Data}
	counts := map[string]int{"code": len(m.Code), "data": len(m.Data), "imports": len(m.Imports)}
	parts := slowParts(m)
	for i, r := range parts {
		tell(r.at >= counts[r.section], 6, i)
		for _, ahead := range parts[:i] {
			tell(ahead.section == r.section && ahead.at == r.at, 6, i)
		}
		if r.at < counts[r.section] {
			tell(!slowAsked(r.asks, sections[r.section][r.at]), 7, i)
		}
		tell(r.which >= counts[r.counts], 8, i)
	}
}

// slowAsked tells whether a word is what a kind asks for, by its digits.
func slowAsked(asks string, w uint32) bool {
	switch asks {
	case "call":
		return w == 0x88000000
	case "li":
		return w-w%0x08000000 == 0x10000000 && w%0x01000000 == 0
	}
	return w == 0
}

// wantModel holds what Module and Check tell of a module against the model; it tells whether the module may be loaded.
func wantModel(t *testing.T, m api.Module) bool {
	t.Helper()
	want, wantAt := slowModule(m)
	wantFault(t, "", m, want, wantAt)
	return want == None
}

// lists tells all lists of at most n of some things.
func lists[T any](some []T, n int) [][]T {
	l := [][]T{nil}
	for from := 0; n > 0; n-- {
		to := len(l)
		for _, ahead := range l[from:to] {
			for _, x := range some {
				l = append(l, append(slices.Clone(ahead), x))
			}
		}
		from = to
	}
	return l
}

// TestOfAllTexts is of all modules with few names, right ones and wrong ones.
func TestOfAllTexts(t *testing.T) {
	some := []string{"a", "A", "a@2", "1"}
	right := 0
	for _, own := range []string{"a", "", "m@0"} {
		for _, exports := range lists(some, 3) {
			for _, imports := range lists(some, 3) {
				for words := range 4 {
					if wantModel(t, api.Module{Name: own, Exports: exports, Imports: imports, Code: make([]uint32, words)}) {
						right++
					}
				}
			}
		}
	}
	// Of three right names there are 1, 3, 6 and 6 lists without one twice; how long those of exports are says how many words may be.
	if want := 16 * (1*3 + 3*3 + 6*2 + 6*1); right != want {
		t.Errorf("%d modules may be loaded, want %d", right, want)
	}
}

// TestOfAllWordsAndRelocs is of all modules with few words and few relocations.
func TestOfAllWordsAndRelocs(t *testing.T) {
	codes := lists([]uint32{0, 0x88000000, 0x88000001, 0x11000000, 0x11000001, 0xa8000000, 1}, 2)
	var relocs []api.Reloc
	for kind := range api.Kind(8) {
		for at := range uint16(3) {
			for which := range uint16(2) {
				relocs = append(relocs, api.Reloc{Kind: kind, At: at, Which: which})
			}
		}
	}
	pairs := lists(relocs, 2)
	right := 0
	for _, code := range codes {
		for _, data := range [][]uint32{nil, {0}, {0, 0}, {5, 0}} {
			for _, imports := range [][]string{nil, {"f"}} {
				// Where a word can't be code, relocations count no more.
				some := pairs
				if slices.ContainsFunc(code, func(w uint32) bool { return w == 1 || w>>27 == 21 }) {
					some = pairs[:len(relocs)+1]
				}
				for _, l := range some {
					m := api.Module{Name: "m", Imports: imports, Code: code, Data: data, Relocs: l}
					if wantModel(t, m) {
						right++
						wantSafe(t, m)
					}
				}
			}
		}
	}
	if right < 1000 {
		t.Errorf("%d modules alone may be loaded", right)
	}
}

// wantSafe is P11.4 of a module that may be loaded.
func wantSafe(t *testing.T, m api.Module) {
	t.Helper()
	for at, w := range m.Code {
		line, err := isa.Decode(w)
		if err != api.OK || line.Op == api.Enter {
			t.Fatalf("%v: the word %d is no instruction", m, at)
		}
		named := slices.ContainsFunc(m.Relocs, func(r api.Reloc) bool {
			return int(r.At) == at && (r.Kind == api.CallImport || r.Kind == api.CallCode)
		})
		if line.Op == api.Call && !named {
			t.Fatalf("%v: the word %d calls without a relocation", m, at)
		}
	}
}

// TestOfChangedModules changes right modules at some of their places, by a row of numbers that goes its own way, but is the same each time.
func TestOfChangedModules(t *testing.T) {
	seed := uint32(1)
	next := func(n int) int {
		seed = seed*1664525 + 1013904223
		return int(seed>>8) % n
	}
	found := map[Fault]int{}
	for range 30000 {
		m := object.Copy(rich())
		for range next(4) {
			change(&m, next)
		}
		what, _ := slowModule(m)
		found[what]++
		if wantModel(t, m) {
			wantSafe(t, m)
		}
	}
	for what := None; what <= Loose; what++ {
		if found[what] < 100 {
			t.Errorf("the fault %d is found %d times alone", what, found[what])
		}
	}
}

// change changes one thing of a module.
func change(m *api.Module, next func(n int) int) {
	words := []uint32{0, 1, 0x08000000, 0x10000000, 0x17000000, 0x12000007, 0x88000000, 0x88000050, 0x90000000, 0xa8000000, 0xffffffff}
	texts := []string{"f", "g@3", "run", "stop", "é", "1", "", "x@0"}
	switch next(12) {
	case 0:
		m.Name = texts[next(len(texts))]
	case 1:
		m.Exports[next(len(m.Exports))] = texts[next(len(texts))]
	case 2:
		m.Imports[next(len(m.Imports))] = texts[next(len(texts))]
	case 3:
		m.Code = m.Code[:next(len(m.Code))+1]
	case 4, 5:
		m.Code[next(len(m.Code))] = words[next(len(words))]
	case 6:
		m.Data[next(len(m.Data))] = words[next(len(words))]
	case 7:
		m.Relocs[next(len(m.Relocs))].Kind = api.Kind(next(9))
	case 8:
		m.Relocs[next(len(m.Relocs))].At = uint16(next(14))
	case 9:
		m.Relocs[next(len(m.Relocs))].Which = uint16(next(14))
	case 10:
		i := next(len(m.Relocs))
		m.Relocs = slices.Delete(m.Relocs, i, i+1)
	case 11:
		i, j := next(len(m.Relocs)), next(len(m.Relocs))
		m.Relocs[i], m.Relocs[j] = m.Relocs[j], m.Relocs[i]
	}
}

// code tells the words of lines.
func code(lines string) []uint32 {
	words, at, err := asm.Assemble(lines)
	if err != api.OK {
		panic(fmt.Sprintf("the line %d of %q: %d", at, lines, int(err)))
	}
	return words
}
