package valid

import (
	"fmt"
	"slices"
	"strings"
	"testing"

	"budwood/api"
	"budwood/object"
)

// rich tells a module that may be loaded, with relocations of all kinds.
func rich() api.Module {
	return api.Module{
		Name:    "m@7",
		Exports: []string{"run", "stop"},
		Imports: []string{"f", "g@3", "run"},
		Code:    code("call 0\nli r1 0\nli r2 0\nli r7 0\ncall 0\nret\nli r3 5\njmp -1\nld r1 r1 0\nst r1 r2 0\nsafe\nhalt"),
		Data:    []uint32{0, 0, 0, 7, 0xffffffff},
		Relocs: []api.Reloc{
			{Kind: api.CallImport, At: 0, Which: 2},
			{Kind: api.LiImport, At: 1, Which: 0},
			{Kind: api.LiData, At: 2, Which: 4},
			{Kind: api.LiCode, At: 3, Which: 11},
			{Kind: api.WordImport, At: 2, Which: 1},
			{Kind: api.WordData, At: 1, Which: 0},
			{Kind: api.WordCode, At: 0, Which: 5},
			{Kind: api.CallCode, At: 4, Which: 10},
		},
	}
}

// greatest tells a module at all bounds that may be loaded.
func greatest() api.Module {
	m := api.Module{Name: strings.Repeat("\U0001f331", 24), Code: slices.Repeat(code("call 0"), 128), Data: make([]uint32, 128)}
	m.Code = append(m.Code, slices.Repeat(code("halt"), 384)...)
	for i := range 8 {
		m.Exports = append(m.Exports, strings.Repeat(string(rune('a'+i)), 24))
	}
	for i := range 16 {
		m.Imports = append(m.Imports, strings.Repeat(string(rune('a'+i)), 20)+"@999")
	}
	for i := range 128 {
		m.Relocs = append(m.Relocs, api.Reloc{Kind: api.WordCode, At: uint16(i), Which: 511}, api.Reloc{Kind: api.CallImport, At: uint16(i), Which: 15})
	}
	return m
}

// wantFault holds what Module tells of a module against a fault and its place, and Check against Module.
func wantFault(t *testing.T, what string, m api.Module, want Fault, wantAt int) {
	t.Helper()
	if got, at := Module(m); got != want || at != wantAt {
		t.Fatalf("%s: Module(%.400v) = %d, %d, want %d, %d", what, m, got, at, want, wantAt)
	}
	wantErr := api.ErrMalformed
	if want == None {
		wantErr = api.OK
	}
	if err := Check(m); err != wantErr {
		t.Fatalf("%s: Check(%.400v) = %d, want %d", what, m, int(err), int(wantErr))
	}
}

// wantChanged holds the rich module with a change against a fault and its place.
func wantChanged(t *testing.T, what string, want Fault, wantAt int, change func(m *api.Module)) {
	t.Helper()
	m := rich()
	change(&m)
	wantFault(t, what, m, want, wantAt)
}

func TestNumbersOfFaults(t *testing.T) {
	for want, f := range []Fault{None, Bounds, Names, Twice, Entries, Words, Places, Kinds, Which, Loose} {
		if int(f) != want {
			t.Errorf("the fault %d has the number %d", want, f)
		}
	}
}

func TestExamples(t *testing.T) {
	call := code("call 5")
	named := []api.Reloc{{Kind: api.CallCode}}
	wantFault(t, "a halt", api.Module{Name: "m", Code: code("halt")}, None, 0)
	wantFault(t, "no code", api.Module{Name: "m"}, Entries, 0)
	wantFault(t, "a loose call", api.Module{Name: "m", Code: call}, Loose, 0)
	wantFault(t, "a call with a number", api.Module{Name: "m", Code: call, Relocs: named}, Kinds, 0)
	wantFault(t, "the rich module", rich(), None, 0)
	wantFault(t, "the greatest module", greatest(), None, 0)
	wantFault(t, "the zero module", api.Module{}, Names, 0)
}

// TestOrder is of a module with all faults, mended one by one.
func TestOrder(t *testing.T) {
	m := api.Module{
		Name:    "1",
		Exports: []string{"a", "a"},
		Relocs: []api.Reloc{
			{Kind: api.CallCode, At: 0, Which: 1},
			{Kind: api.CallCode, At: 9, Which: 2},
			{Kind: 8},
		},
	}
	wantFault(t, "a kind beyond all", m, Bounds, 0)
	m.Relocs = m.Relocs[:2]
	wantFault(t, "no name", m, Names, 0)
	m.Name = "m"
	wantFault(t, "an export twice", m, Twice, 1)
	m.Exports[1] = "b"
	wantFault(t, "no code", m, Entries, 0)
	m.Code = code("call 1")
	wantFault(t, "one word and two exports", m, Entries, 0)
	m.Code = code("call 1\nenter 0")
	wantFault(t, "an enter", m, Words, 1)
	m.Code = code("call 1\ncall 2")
	wantFault(t, "a place beyond the code", m, Places, 1)
	m.Relocs = m.Relocs[:1]
	m.Relocs[0].Which = 2
	wantFault(t, "a call with a number", m, Kinds, 0)
	m.Code[0] = code("call 0")[0]
	wantFault(t, "the code has no third word", m, Which, 0)
	m.Relocs[0].Which = 1
	wantFault(t, "a loose call", m, Loose, 1)
	m.Code[1] = code("ret")[0]
	wantFault(t, "all is mended", m, None, 0)
}

func TestBounds(t *testing.T) {
	for what, change := range map[string]func(m *api.Module){
		"a long name":      func(m *api.Module) { m.Name = strings.Repeat("a", 97) },
		"a long export":    func(m *api.Module) { m.Exports[1] = strings.Repeat("a", 97) },
		"a long import":    func(m *api.Module) { m.Imports[2] = strings.Repeat("a", 97) },
		"nine exports":     func(m *api.Module) { m.Exports = strings.Split("abcdefghi", "") },
		"many imports":     func(m *api.Module) { m.Imports = strings.Split("abcdefghijklmnopq", "") },
		"513 words":        func(m *api.Module) { m.Code = append(m.Code, make([]uint32, 513-len(m.Code))...) },
		"129 data":         func(m *api.Module) { m.Data = append(m.Data, make([]uint32, 129-len(m.Data))...) },
		"257 relocations":  func(m *api.Module) { m.Relocs = make([]api.Reloc, 257) },
		"the kind 8":       func(m *api.Module) { m.Relocs[7].Kind = 8 },
		"the kind 255":     func(m *api.Module) { m.Relocs[0].Kind = 255 },
		"very many words":  func(m *api.Module) { m.Code = make([]uint32, 1<<17) },
		"very many relocs": func(m *api.Module) { m.Relocs = make([]api.Reloc, 1<<17) },
	} {
		wantChanged(t, what, Bounds, 0, change)
	}
}

func TestNames(t *testing.T) {
	for _, s := range []string{"", "1", "_", "a b", "a@", "a@0", "a@01", "a@1000", "a@b@1", "@1", "\xff", "a\xc3", strings.Repeat("a", 25), strings.Repeat("é", 25), strings.Repeat("a", 96)} {
		wantChanged(t, "the name", Names, 0, func(m *api.Module) { m.Name = s })
		for i := range 8 {
			wantChanged(t, "an export", Names, 1+i, func(m *api.Module) {
				m.Exports = strings.Split("abcdefgh", "")
				m.Exports[i] = s
			})
		}
		for i := range 16 {
			wantChanged(t, "an import", Names, 9+i, func(m *api.Module) {
				m.Imports = strings.Split("abcdefghijklmnop", "")
				m.Imports[i] = s
			})
		}
	}
	for _, s := range []string{"a", "Z", "é", "a_1", "a@1", "a@999", strings.Repeat("a", 24), strings.Repeat("\U0001f331", 24)} {
		wantChanged(t, "all names", None, 0, func(m *api.Module) {
			m.Name, m.Exports, m.Imports = s, []string{s, "other"}, []string{s, "another", "third"}
		})
	}
}

// TestLowestName is of modules with several wrong names.
func TestLowestName(t *testing.T) {
	m := rich()
	m.Imports = []string{"f", "", ""}
	wantFault(t, "two imports", m, Names, 10)
	m.Exports = []string{"run", "0"}
	wantFault(t, "an export, too", m, Names, 2)
	m.Exports[0] = "0"
	wantFault(t, "two exports", m, Names, 1)
	m.Name = "0"
	wantFault(t, "the name, too", m, Names, 0)
}

func TestTwice(t *testing.T) {
	for first := range 8 {
		for again := first + 1; again < 8; again++ {
			wantChanged(t, "an export", Twice, again, func(m *api.Module) {
				m.Exports = strings.Split("abcdefgh", "")
				m.Exports[again] = m.Exports[first]
			})
		}
	}
	for first := range 16 {
		for again := first + 1; again < 16; again++ {
			wantChanged(t, "an import", Twice, 8+again, func(m *api.Module) {
				m.Imports = strings.Split("abcdefghijklmnop", "")
				m.Imports[again] = m.Imports[first]
			})
		}
	}
	wantChanged(t, "both", Twice, 2, func(m *api.Module) { m.Exports, m.Imports = []string{"a", "b", "a", "b"}, []string{"c", "c"} })
	wantChanged(t, "three", Twice, 9, func(m *api.Module) { m.Imports = []string{"c", "c", "c"} })
	wantChanged(t, "others", None, 0, func(m *api.Module) {
		m.Name, m.Exports, m.Imports = "a", []string{"a", "A", "a@1", "a@2", "aa"}, []string{"a", "A", "a@1", "a@2", "é", "e"}
	})
}

func TestEntries(t *testing.T) {
	for exports := range 9 {
		for words := range 20 {
			m := api.Module{Name: "m", Exports: strings.Split("abcdefgh", "")[:exports], Code: make([]uint32, words), Data: make([]uint32, 9)}
			want := None
			if words == 0 || words < exports {
				want = Entries
			}
			wantFault(t, fmt.Sprintf("%d exports, %d words", exports, words), m, want, 0)
		}
	}
}

func TestWords(t *testing.T) {
	bad := []uint32{1, 0xffffffff, 0xb0000000, 0x90000001, 0x10200000, 0x18000008, 0x881fffff, 0xa8000040, 0x00100000}
	for slot := range uint32(64) {
		bad = append(bad, 0xa8000000+slot)
	}
	for _, w := range bad {
		for _, n := range []int{1, 2, 17, 512} {
			for _, at := range []int{0, n / 2, n - 1} {
				words := make([]uint32, n)
				words[at] = w
				wantFault(t, fmt.Sprintf("the word %08x", w), api.Module{Name: "m", Code: words}, Words, at)
			}
		}
	}
	wantChanged(t, "two words", Words, 5, func(m *api.Module) { m.Code[9], m.Code[5] = 1, 1 })
	wantFault(t, "data of no instructions", api.Module{Name: "m", Code: []uint32{0}, Data: bad}, None, 0)
	for op := range uint32(32) {
		want := None
		switch {
		case op > 20:
			want = Words
		case op == 17:
			want = Loose
		}
		wantFault(t, fmt.Sprintf("the operation %d", op), api.Module{Name: "m", Code: []uint32{op << 27}}, want, 0)
	}
}

// TestPlacesBeyond is of relocations whose words are not there.
func TestPlacesBeyond(t *testing.T) {
	for i, r := range rich().Relocs {
		most := uint16(12)
		if i == 4 || i == 5 || i == 6 {
			most = 5
		}
		for _, at := range []uint16{most, most + 1, 128, 511, 512, 65535} {
			wantChanged(t, fmt.Sprintf("the kind %d at %d", r.Kind, at), Places, i, func(m *api.Module) { m.Relocs[i].At = at })
		}
		// What stands at the end is no call, no li, and not 0.
		wantChanged(t, fmt.Sprintf("the kind %d at the end", r.Kind), Kinds, i, func(m *api.Module) { m.Relocs[i].At = most - 1 })
	}
	m := greatest()
	m.Relocs[255] = api.Reloc{Kind: api.CallCode, At: 512}
	wantFault(t, "the greatest module", m, Places, 255)
	m.Relocs[255] = api.Reloc{Kind: api.WordCode, At: 128}
	wantFault(t, "the greatest module, in data", m, Places, 255)
	m.Relocs[255] = api.Reloc{Kind: api.LiCode, At: 511}
	m.Code[511] = code("li r0 0")[0]
	wantFault(t, "the greatest module at its end", m, Loose, 127)
	wantFault(t, "no data", api.Module{Name: "m", Code: []uint32{0}, Relocs: []api.Reloc{{Kind: api.WordCode}}}, Places, 0)
	wantFault(t, "data for code", api.Module{Name: "m", Code: []uint32{0}, Data: make([]uint32, 2), Relocs: []api.Reloc{{Kind: api.LiCode, At: 1}}}, Places, 0)
	wantFault(t, "code for data", api.Module{Name: "m", Code: make([]uint32, 2), Data: []uint32{0}, Relocs: []api.Reloc{{Kind: api.WordCode, At: 1}}}, Places, 0)
}

// TestPlacesTwice is of two relocations of all kinds at all places: of the same section they may not be at the same one.
func TestPlacesTwice(t *testing.T) {
	ofData := func(k api.Kind) bool { return k >= api.WordImport && k <= api.WordCode }
	for first := range api.Kind(8) {
		for second := range api.Kind(8) {
			m := api.Module{Name: "m", Imports: []string{"f"}, Code: code("nop\nnop\nnop"), Data: []uint32{1, 1, 1}}
			for at := range uint16(3) {
				m.Relocs = []api.Reloc{{Kind: first, At: at}, {Kind: second, At: at, Which: 9}}
				want, wantAt := Kinds, 0
				if ofData(first) == ofData(second) {
					want, wantAt = Places, 1
				}
				wantFault(t, fmt.Sprintf("the kinds %d and %d at %d", first, second, at), m, want, wantAt)
				m.Relocs[1].At = (at + 1) % 3
				wantFault(t, fmt.Sprintf("the kinds %d and %d at two places", first, second), m, Kinds, 0)
			}
		}
	}
	wantChanged(t, "the first one and the last one", Places, 7, func(m *api.Module) { m.Relocs[7].At = 0 })
	wantChanged(t, "three of one place", Places, 3, func(m *api.Module) { m.Relocs[7].At, m.Relocs[3].At = 1, 1 })
	wantChanged(t, "beyond, and twice", Places, 2, func(m *api.Module) { m.Relocs[3].At, m.Relocs[2].At = 0, 12 })
	wantChanged(t, "twice, and beyond", Places, 1, func(m *api.Module) { m.Relocs[1].At, m.Relocs[2].At = 0, 12 })
}

func TestKinds(t *testing.T) {
	open := map[string][]api.Kind{
		"call 0":        {api.CallImport, api.CallCode},
		"li r0 0":       {api.LiImport, api.LiData, api.LiCode},
		"li r7 0":       {api.LiImport, api.LiData, api.LiCode},
		"call 1":        nil,
		"call 1048575":  nil,
		"li r0 1":       nil,
		"li r1 -1":      nil,
		"li r1 1048575": nil,
		"jmp 0":         nil,
		"halt":          nil,
		"nop":           nil,
		"addi r1 r1 0":  nil,
		"ret":           nil,
		"jr r1":         nil,
		"beq r0 r0 0":   nil,
	}
	for line, kinds := range open {
		for _, k := range []api.Kind{api.CallImport, api.LiImport, api.LiData, api.LiCode, api.CallCode} {
			m := api.Module{Name: "m", Imports: []string{"f"}, Code: append(code("nop"), code(line)...), Data: []uint32{0}, Relocs: []api.Reloc{{Kind: k, At: 1}}}
			want := Kinds
			if slices.Contains(kinds, k) {
				want = None
			}
			wantFault(t, fmt.Sprintf("%s for the kind %d", line, k), m, want, 0)
		}
	}
	for _, w := range []uint32{0, 1, 0x80000000, 0xffffffff, 0x88000000, 0x10000000} {
		for _, k := range []api.Kind{api.WordImport, api.WordData, api.WordCode} {
			m := api.Module{Name: "m", Imports: []string{"f"}, Code: code("nop"), Data: []uint32{3, w}, Relocs: []api.Reloc{{Kind: k, At: 1}}}
			want := None
			if w != 0 {
				want = Kinds
			}
			wantFault(t, fmt.Sprintf("%08x for the kind %d", w, k), m, want, 0)
		}
	}
	wantChanged(t, "two words", Kinds, 3, func(m *api.Module) { m.Code[3], m.Code[4] = 0, 0 })
	wantChanged(t, "code and data", Kinds, 4, func(m *api.Module) { m.Code[4], m.Data[2] = 0, 1 })
}

func TestWhich(t *testing.T) {
	counts := []int{3, 3, 5, 12, 3, 5, 12, 12}
	for i, n := range counts {
		for _, which := range []int{0, 1, 2, 3, 4, 5, 6, 8, 11, 12, 13, 16, 128, 511, 512, 65535} {
			want, wantAt := None, 0
			if which >= n {
				want, wantAt = Which, i
			}
			wantChanged(t, fmt.Sprintf("the kind %d of %d", rich().Relocs[i].Kind, which), want, wantAt, func(m *api.Module) { m.Relocs[i].Which = uint16(which) })
		}
	}
	for _, c := range []struct {
		line string
		kind api.Kind
	}{{"call 0", api.CallImport}, {"li r1 0", api.LiImport}, {"li r1 0", api.LiData}} {
		m := api.Module{Name: "m", Code: code(c.line), Relocs: []api.Reloc{{Kind: c.kind}}}
		wantFault(t, fmt.Sprintf("nothing for the kind %d", c.kind), m, Which, 0)
	}
	none := api.Module{Name: "m", Code: code("halt"), Data: []uint32{0}, Relocs: []api.Reloc{{Kind: api.WordImport}}}
	wantFault(t, "no import for a word of data", none, Which, 0)
	wantChanged(t, "two", Which, 2, func(m *api.Module) { m.Relocs[6].Which, m.Relocs[2].Which = 12, 5 })
	m := greatest()
	m.Relocs[254].Which = 512
	wantFault(t, "the greatest module", m, Which, 254)
	m.Relocs[1].Which = 16
	wantFault(t, "the greatest module, with imports", m, Which, 1)
}

func TestLoose(t *testing.T) {
	wantChanged(t, "the first call", Loose, 0, func(m *api.Module) { m.Relocs = m.Relocs[1:] })
	wantChanged(t, "the other call", Loose, 4, func(m *api.Module) { m.Relocs = m.Relocs[:7] })
	wantChanged(t, "both calls", Loose, 0, func(m *api.Module) { m.Relocs = m.Relocs[1:7] })
	wantChanged(t, "a loose li", None, 0, func(m *api.Module) { m.Relocs = slices.Delete(m.Relocs, 1, 4) })
	// A word of data at the call's place names no call.
	wantChanged(t, "a word of data", Loose, 4, func(m *api.Module) { m.Relocs[7] = api.Reloc{Kind: api.WordData, At: 4}; m.Data[4] = 0 })
	for _, n := range []int{1, 2, 100, 512} {
		for _, imm := range []uint32{0, 1, 80, 1048575} {
			words := make([]uint32, n)
			words[n-1] = 0x88000000 + imm
			words[n/2] = words[n-1]
			wantFault(t, "a call in the midst", api.Module{Name: "m", Code: words}, Loose, n/2)
		}
	}
	m := greatest()
	m.Code[511] = code("call 0")[0]
	wantFault(t, "the greatest module", m, Loose, 511)
}

// TestFarWords is of calls in long code: each is named by its whole place.
func TestFarWords(t *testing.T) {
	for _, apart := range []int{1, 2, 16, 128, 255, 256, 257, 511} {
		for at := range 512 - apart {
			far := at + apart
			m := api.Module{Name: "m", Code: make([]uint32, 512)}
			m.Code[at], m.Code[far] = 0x88000000, 0x88000000
			m.Relocs = []api.Reloc{{Kind: api.CallCode, At: uint16(far), Which: 511}, {Kind: api.CallCode, At: uint16(at)}}
			wantFault(t, "both are named", m, None, 0)
			m.Relocs = m.Relocs[:1]
			wantFault(t, "the far one is named", m, Loose, at)
			m.Relocs[0].At = uint16(at)
			wantFault(t, "the near one is named", m, Loose, far)
		}
	}
}

// TestEmptyIsNil is of lists that have nothing, and are no nil ones.
func TestEmptyIsNil(t *testing.T) {
	m := api.Module{Name: "m", Exports: []string{}, Imports: []string{}, Code: []uint32{0}, Data: []uint32{}, Relocs: []api.Reloc{}}
	wantFault(t, "empty lists", m, None, 0)
	m.Code = []uint32{}
	wantFault(t, "empty code", m, Entries, 0)
	if Patch(m, api.Module{}) != api.OK || Patch(api.Module{}, m) != api.OK {
		t.Error("empty exports are others than none")
	}
}

func TestPatch(t *testing.T) {
	all := lists([]string{"a", "A", "a@1", ""}, 3)
	for i, old := range all {
		for j, fresh := range all {
			want := api.ErrPatch
			if i == j {
				want = api.OK
			}
			if err := Patch(api.Module{Exports: old}, api.Module{Exports: slices.Clone(fresh)}); err != want {
				t.Fatalf("Patch(%q, %q) = %d, want %d", old, fresh, int(err), int(want))
			}
		}
	}
}

// TestPatchOfOtherParts is of modules with nothing the same but what they export, and of such with all the same but that.
func TestPatchOfOtherParts(t *testing.T) {
	if err := Patch(rich(), api.Module{Exports: []string{"run", "stop"}}); err != api.OK {
		t.Errorf("other parts: %d", int(err))
	}
	if err := Patch(api.Module{Exports: []string{"run", "stop"}}, rich()); err != api.OK {
		t.Errorf("other parts: %d", int(err))
	}
	for _, exports := range [][]string{nil, {"run"}, {"stop"}, {"stop", "run"}, {"run", "stop", "run"}, {"run", "stop", ""}, {"Run", "stop"}, {"run", "stop@1"}, make([]string, 100)} {
		m := rich()
		m.Exports = exports
		if Patch(rich(), m) != api.ErrPatch || Patch(m, rich()) != api.ErrPatch {
			t.Errorf("the exports %q are taken for %q", exports, rich().Exports)
		}
	}
}

// TestArgumentsStay holds modules with room behind their lists against what they were.
func TestArgumentsStay(t *testing.T) {
	for _, m := range []api.Module{rich(), greatest()} {
		wide := object.Copy(m)
		wide.Exports = append(wide.Exports, "x", "y")
		wide.Imports = append(wide.Imports, "z")
		wide.Code = append(wide.Code, 5, 6)
		wide.Data = append(wide.Data, 7)
		wide.Relocs = append(wide.Relocs, api.Reloc{Kind: 3, At: 4, Which: 5})
		kept := object.Copy(wide)
		narrow := wide
		narrow.Exports = wide.Exports[:len(m.Exports)]
		narrow.Imports = wide.Imports[:len(m.Imports)]
		narrow.Code = wide.Code[:len(m.Code)]
		narrow.Data = wide.Data[:len(m.Data)]
		narrow.Relocs = wide.Relocs[:len(m.Relocs)]
		for range 3 {
			wantFault(t, "a module with room", narrow, None, 0)
			if err := Patch(narrow, m); err != api.OK {
				t.Errorf("Patch = %d", int(err))
			}
		}
		if !object.Same(wide, kept) {
			t.Errorf("a module was changed: %.200v", wide)
		}
	}
}
