package link

import (
	"fmt"
	"math"
	"slices"
	"strings"
	"testing"

	"budwood/api"
	"budwood/asm"
	"budwood/hart"
	"budwood/layout"
	"budwood/memory"
	"budwood/object"
	"budwood/symtab"
)

// here is a place whose addresses no test takes for something else.
var here = layout.Place{Code: 1000, Data: 2000}

// someSlots are slots of three imports.
var someSlots = []uint32{5, 17, 63}

// outside has numbers that are no word's of a module with one page.
var outside = []int{math.MinInt, math.MinInt32, -65536, -17, -16, -1, 16, 17, 32, 65536, math.MaxInt32, 1 << 32, math.MaxInt}

// assemble makes words of a text.
func assemble(t *testing.T, text string) []uint32 {
	t.Helper()
	words, at, err := asm.Assemble(text)
	if err != api.OK {
		t.Fatalf("the line %d: %d", at, int(err))
	}
	return words
}

// counted makes so many words, none of them 0.
func counted(from uint32, n int) []uint32 {
	words := make([]uint32, n)
	for i := range words {
		words[i] = from + uint32(i)
	}
	return words
}

// table makes a table of two modules: m with e and f behind the gate 2, n with eight names behind the gate 7.
func table(t *testing.T) *symtab.Table {
	t.Helper()
	x := symtab.New()
	wantErr(t, "Add", x.Add("m", 2, []string{"e", "f"}), api.OK)
	wantErr(t, "Add", x.Add("n", 7, []string{"a", "a@2", "b", "c", "d", "ä", "A", "z"}), api.OK)
	wantErr(t, "Add", x.Add("none", 0, nil), api.OK)
	return x
}

func TestExample(t *testing.T) {
	x := symtab.New()
	wantErr(t, "Add", x.Add("x", 2, []string{"e", "f"}), api.OK)
	m := api.Module{Name: "m", Imports: []string{"f"}, Code: assemble(t, "call 0\nret"), Relocs: []api.Reloc{{Kind: api.CallImport}}}
	slots, err := Resolve(x, m.Imports)
	wantWords(t, "Resolve", slots, err, []uint32{17}, api.OK)
	image, err := Image(m, layout.Place{Code: 80, Data: 96}, slots)
	want := append(assemble(t, "call 17\nret"), make([]uint32, 14)...)
	wantWords(t, "Image", image, err, want, api.OK)
}

func TestResolve(t *testing.T) {
	x := table(t)
	for _, c := range []struct {
		imports []string
		want    []uint32
	}{
		{nil, nil},
		{[]string{}, nil},
		{[]string{"e"}, []uint32{16}},
		{[]string{"f"}, []uint32{17}},
		{[]string{"f", "e"}, []uint32{17, 16}},
		{[]string{"a", "a@2", "A", "ä", "z"}, []uint32{56, 57, 62, 61, 63}},
		{[]string{"z", "e", "d", "f", "a"}, []uint32{63, 16, 60, 17, 56}},
		{[]string{"e", "e", "f", "e"}, []uint32{16, 16, 17, 16}},
	} {
		slots, err := Resolve(x, c.imports)
		wantWords(t, fmt.Sprintf("Resolve(%q)", c.imports), slots, err, c.want, api.OK)
	}
}

func TestResolveRefuses(t *testing.T) {
	x := table(t)
	for _, imports := range [][]string{nil, {}, {"e"}, {"nowhere"}, {""}} {
		slots, err := Resolve(nil, imports)
		wantWords(t, fmt.Sprintf("Resolve of nil (%q)", imports), slots, err, nil, api.ErrNil)
	}
	for _, imports := range [][]string{
		{"g"}, {"g", "e"}, {"e", "g"}, {"e", "g", "f"}, {""}, {"e", ""}, {"m"}, {"n"}, {"none"}, {"E"}, {"e@1"}, {"a@1"}, {"a@3"}, {"e "}, {" e"}, {"\xff"}, {"e\x00"},
		{strings.Repeat("e", 100000)},
	} {
		slots, err := Resolve(x, imports)
		wantWords(t, fmt.Sprintf("Resolve(%.20q)", imports), slots, err, nil, api.ErrUnresolved)
	}
	slots, err := Resolve(symtab.New(), []string{"e"})
	wantWords(t, "Resolve of an empty table", slots, err, nil, api.ErrUnresolved)
	slots, err = Resolve(symtab.New(), nil)
	wantWords(t, "Resolve of nothing", slots, err, nil, api.OK)
}

// TestResolveFollowsTheTable asks the same table as it changes.
func TestResolveFollowsTheTable(t *testing.T) {
	x := table(t)
	wantErr(t, "Remove", x.Remove("m"), api.OK)
	slots, err := Resolve(x, []string{"e"})
	wantWords(t, "Resolve of what is gone", slots, err, nil, api.ErrUnresolved)
	wantErr(t, "Add", x.Add("p", 0, []string{"f", "e"}), api.OK)
	slots, err = Resolve(x, []string{"e", "f"})
	wantWords(t, "Resolve of what came", slots, err, []uint32{1, 0}, api.OK)
}

// TestResolveEachSlot has all gates with all places.
func TestResolveEachSlot(t *testing.T) {
	x := symtab.New()
	var imports []string
	for g := range 8 {
		var exports []string
		for i := range 8 {
			exports = append(exports, fmt.Sprintf("f%d_%d", g, i))
		}
		wantErr(t, "Add", x.Add(fmt.Sprintf("m%d", g), g, exports), api.OK)
		imports = append(imports, exports...)
	}
	slots, err := Resolve(x, imports)
	wantWords(t, "Resolve", slots, err, counted(0, 64), api.OK)
	many := slices.Repeat([]string{"f3_3"}, 5000)
	slots, err = Resolve(x, many)
	wantWords(t, "Resolve", slots, err, slices.Repeat([]uint32{27}, 5000), api.OK)
}

// TestResolveChangesNothing holds the table and the imports against what they were; an answer is new memory.
func TestResolveChangesNothing(t *testing.T) {
	x := table(t)
	wantErr(t, "Hold", x.Hold([]string{"e", "e", "z"}), api.OK)
	before := x.List()
	imports := []string{"e", "z", "f"}
	first, _ := Resolve(x, imports)
	for _, refused := range [][]string{{"e", "g"}, {"g"}} {
		Resolve(x, refused)
	}
	if !slices.Equal(x.List(), before) || !slices.Equal(imports, []string{"e", "z", "f"}) {
		t.Errorf("the table or the imports changed: %v, %q", x.List(), imports)
	}
	clear(first[:cap(first)])
	second, err := Resolve(x, imports)
	wantWords(t, "Resolve again", second, err, []uint32{16, 63, 17}, api.OK)
}

// TestWordOfEachKind has the kinds by their names.
func TestWordOfEachKind(t *testing.T) {
	for _, c := range []struct {
		kind api.Kind
		raw  string
		want string
	}{
		{api.CallImport, "call 0", "call 17"},
		{api.LiImport, "li r3 0", "li r3 17"},
		{api.LiData, "li r4 0", "li r4 2001"},
		{api.LiCode, "li r7 0", "li r7 1001"},
		{api.CallCode, "call 0", "call 1001"},
	} {
		m := api.Module{Code: assemble(t, "ret\n"+c.raw+"\n"+c.raw), Data: counted(7, 3), Relocs: []api.Reloc{{Kind: c.kind, At: 1, Which: 1}}}
		want := append(assemble(t, "ret\n"+c.want+"\n"+c.raw), make([]uint32, 13)...)
		want = append(append(want, 7, 8, 9), make([]uint32, 13)...)
		image, err := Image(m, here, someSlots)
		wantWords(t, fmt.Sprintf("Image of the kind %d", c.kind), image, err, want, api.OK)
	}
	for _, c := range []struct {
		kind api.Kind
		want uint32
	}{
		{api.WordImport, 17},
		{api.WordData, 2001},
		{api.WordCode, 1001},
	} {
		m := api.Module{Code: assemble(t, "ret\nhalt\nret"), Data: []uint32{7, 0, 9}, Relocs: []api.Reloc{{Kind: c.kind, At: 1, Which: 1}}}
		want := append(assemble(t, "ret\nhalt\nret"), make([]uint32, 13)...)
		want = append(append(want, 7, c.want, 9), make([]uint32, 13)...)
		image, err := Image(m, here, someSlots)
		wantWords(t, fmt.Sprintf("Image of the kind %d", c.kind), image, err, want, api.OK)
		// What the module has there counts for nothing.
		m.Data[1] = math.MaxUint32
		image, err = Image(m, here, someSlots)
		wantWords(t, fmt.Sprintf("Image of the kind %d on a full word", c.kind), image, err, want, api.OK)
	}
}

// TestFirstNamesAlone has words that several relocations name: the first one counts, whatever the others would make.
func TestFirstNamesAlone(t *testing.T) {
	call, data := api.Reloc{Kind: api.CallCode, Which: 3}, api.Reloc{Kind: api.WordData, Which: 4}
	for _, c := range []struct {
		what   string
		relocs []api.Reloc
		want   answer
		ofData answer
	}{
		{"none", nil, answer{word: callHead}, answer{word: 9}},
		{"one", []api.Reloc{call}, answer{word: callHead + 1003}, answer{word: 9}},
		{"of data alone", []api.Reloc{data}, answer{word: callHead}, answer{word: 2004}},
		{"both", []api.Reloc{data, call}, answer{word: callHead + 1003}, answer{word: 2004}},
		{"both, turned", []api.Reloc{call, data}, answer{word: callHead + 1003}, answer{word: 2004}},
		{"another one behind", []api.Reloc{call, {Kind: api.CallImport, Which: 2}}, answer{word: callHead + 1003}, answer{word: 9}},
		{"another one ahead", []api.Reloc{{Kind: api.CallImport, Which: 2}, call}, answer{word: callHead + 63}, answer{word: 9}},
		{"a wrong one behind", []api.Reloc{call, {Kind: api.LiCode}, {Kind: api.CallImport, Which: 3}}, answer{word: callHead + 1003}, answer{word: 9}},
		{"a wrong word ahead", []api.Reloc{{Kind: api.LiCode}, call}, answer{err: api.ErrWord}, answer{word: 9}},
		{"a wrong slot ahead", []api.Reloc{{Kind: api.CallImport, Which: 3}, call}, answer{err: api.ErrArg}, answer{word: 9}},
		{"others ahead", []api.Reloc{{Kind: api.CallCode, At: 1}, {Kind: api.WordCode, At: 1}, {Kind: api.CallCode, At: 65535}, call}, answer{word: callHead + 1003}, answer{word: 9}},
		{"words twice", []api.Reloc{{Kind: api.WordImport, Which: 1}, data}, answer{word: callHead}, answer{word: 17}},
		{"words twice, turned", []api.Reloc{data, {Kind: api.WordImport, Which: 1}}, answer{word: callHead}, answer{word: 2004}},
		{"a wrong slot of data", []api.Reloc{{Kind: api.WordImport, Which: 3}, data}, answer{word: callHead}, answer{err: api.ErrArg}},
		{"no kind ahead", []api.Reloc{{Kind: 8}, {Kind: 255}, call, data}, answer{word: callHead + 1003}, answer{word: 2004}},
	} {
		m := api.Module{Code: []uint32{callHead}, Data: []uint32{9}, Relocs: c.relocs}
		wantAnswer(t, "Word 0: "+c.what, answerOf(Word(m, here, someSlots, 0)), c.want)
		wantAnswer(t, "Word 16: "+c.what, answerOf(Word(m, here, someSlots, 16)), c.ofData)
	}
}

// TestWordErrors has each error of Value and Apply, and that of Value ahead.
func TestWordErrors(t *testing.T) {
	far := layout.Place{Code: 1<<20 - 1, Data: 1<<20 - 2}
	for _, c := range []struct {
		what  string
		raw   uint32
		reloc api.Reloc
		place layout.Place
		want  answer
	}{
		{"no such slot", callHead, api.Reloc{Kind: api.CallImport, Which: 3}, here, answer{err: api.ErrArg}},
		{"no such slot", liHead, api.Reloc{Kind: api.LiImport, Which: 65535}, here, answer{err: api.ErrArg}},
		{"no such slot, and a wrong word", 0, api.Reloc{Kind: api.CallImport, Which: 3}, here, answer{err: api.ErrArg}},
		{"a wrong word", 0, api.Reloc{Kind: api.CallImport}, here, answer{err: api.ErrWord}},
		{"a wrong word", liHead, api.Reloc{Kind: api.CallCode}, here, answer{err: api.ErrWord}},
		{"a wrong word", callHead, api.Reloc{Kind: api.LiData}, here, answer{err: api.ErrWord}},
		{"a word with an address", callHead + 1, api.Reloc{Kind: api.CallCode}, here, answer{err: api.ErrWord}},
		{"a word with an address", liHead + 1, api.Reloc{Kind: api.LiImport}, here, answer{err: api.ErrWord}},
		{"no instruction", math.MaxUint32, api.Reloc{Kind: api.LiCode}, here, answer{err: api.ErrWord}},
		{"the last address", callHead, api.Reloc{Kind: api.CallCode}, far, answer{word: callHead + 1<<20 - 1}},
		{"the last address", liHead, api.Reloc{Kind: api.LiData, Which: 1}, far, answer{word: liHead + 1<<20 - 1}},
		{"beyond", callHead, api.Reloc{Kind: api.CallCode, Which: 1}, far, answer{err: api.ErrReach}},
		{"beyond", liHead, api.Reloc{Kind: api.LiData, Which: 2}, far, answer{err: api.ErrReach}},
		{"beyond", liHead, api.Reloc{Kind: api.LiCode, Which: 65535}, far, answer{err: api.ErrReach}},
		{"beyond, and a wrong word", liHead + 1, api.Reloc{Kind: api.LiCode, Which: 65535}, far, answer{err: api.ErrWord}},
	} {
		m := api.Module{Code: []uint32{c.raw}, Data: []uint32{1}, Relocs: []api.Reloc{c.reloc}}
		what := fmt.Sprintf("%s (%08x, %v)", c.what, c.raw, c.reloc)
		wantAnswer(t, "Word: "+what, answerOf(Word(m, c.place, someSlots, 0)), c.want)
		image, err := Image(m, c.place, someSlots)
		wantErr(t, "Image: "+what, err, c.want.err)
		if (image == nil) != (c.want.err != api.OK) {
			t.Errorf("%s: Image = %v", what, image)
		}
	}
	// A whole word has room for each address, and the sums wrap round.
	m := api.Module{Data: []uint32{1}, Relocs: []api.Reloc{{Kind: api.WordCode, Which: 2}}}
	wantAnswer(t, "Word", answerOf(Word(m, layout.Place{Code: math.MaxUint32 - 2}, nil, 0)), answer{word: math.MaxUint32})
	wantAnswer(t, "Word", answerOf(Word(m, layout.Place{Code: math.MaxUint32}, nil, 0)), answer{word: 1})
}

// TestNoKindNamesNothing has kinds beyond the last one: the words stand as they are.
func TestNoKindNamesNothing(t *testing.T) {
	for k := 8; k < 256; k++ {
		m := api.Module{Code: []uint32{callHead}, Data: []uint32{9}, Relocs: []api.Reloc{{Kind: api.Kind(k), Which: 1}}}
		want := append(append([]uint32{callHead}, make([]uint32, 15)...), append([]uint32{9}, make([]uint32, 15)...)...)
		image, err := Image(m, here, someSlots)
		wantWords(t, fmt.Sprintf("Image with the kind %d", k), image, err, want, api.OK)
	}
}

// TestNoSuchWord asks for words beyond a module's, and names words that it has not.
func TestNoSuchWord(t *testing.T) {
	var relocs []api.Reloc
	for k := range api.Kind(9) {
		for _, at := range []uint16{1, 2, 15, 16, 17, 31, 32, 512, 65535} {
			relocs = append(relocs, api.Reloc{Kind: k, At: at, Which: 65535})
		}
	}
	m := api.Module{Code: []uint32{callHead}, Relocs: relocs}
	for _, i := range outside {
		wantAnswer(t, fmt.Sprintf("Word(%d)", i), answerOf(Word(m, here, nil, i)), answer{})
		wantAnswer(t, fmt.Sprintf("Word(%d) of nothing", i), answerOf(Word(api.Module{}, here, nil, i)), answer{})
	}
	want := append([]uint32{callHead}, make([]uint32, 15)...)
	image, err := Image(m, here, nil)
	wantWords(t, "Image", image, err, want, api.OK)
	m = api.Module{Data: []uint32{8}, Relocs: relocs}
	want[0] = 8
	image, err = Image(m, here, nil)
	wantWords(t, "Image of data alone", image, err, want, api.OK)
}

// TestImageWithoutRelocs has all words as the module has them, about the ends of pages and at the bounds.
func TestImageWithoutRelocs(t *testing.T) {
	for _, code := range []int{0, 1, 15, 16, 17, 31, 32, 33, 511, 512} {
		for _, data := range []int{0, 1, 15, 16, 17, 127, 128} {
			m := api.Module{Code: counted(1<<24, code), Data: counted(2<<24, data)}
			image, err := Image(m, here, someSlots)
			want, _ := slowImage(m, here, someSlots)
			wantWords(t, fmt.Sprintf("Image of %d and %d words", code, data), image, err, want, api.OK)
			if len(image) != layout.Words(layout.Of(m)) {
				t.Errorf("Image of %d and %d words has %d", code, data, len(image))
			}
			for i, w := range image {
				if w != layout.Raw(m, i) {
					t.Errorf("the word %d is %08x, and the module has %08x", i, w, layout.Raw(m, i))
				}
			}
		}
	}
	image, err := Image(api.Module{}, layout.Place{}, nil)
	wantWords(t, "Image of nothing", image, err, nil, api.OK)
}

func TestImageIsLong(t *testing.T) {
	wrong := []api.Reloc{{Kind: api.CallImport, Which: 9}}
	for _, c := range []struct {
		code, data, relocs int
		want               api.Errno
	}{
		{512, 128, 256, api.OK},
		{513, 0, 0, api.ErrLong},
		{0, 129, 0, api.ErrLong},
		{0, 0, 257, api.ErrLong},
		{512, 128, 257, api.ErrLong},
		{512, 129, 256, api.ErrLong},
		{513, 128, 256, api.ErrLong},
		{5000, 5000, 5000, api.ErrLong},
		{100000, 1, 1, api.ErrLong},
	} {
		m := api.Module{Code: slices.Repeat([]uint32{callHead}, c.code), Data: counted(1, c.data), Relocs: slices.Repeat([]api.Reloc{{Kind: api.CallCode}}, c.relocs)}
		image, err := Image(m, here, nil)
		what := fmt.Sprintf("Image of %d, %d and %d", c.code, c.data, c.relocs)
		wantErr(t, what, err, c.want)
		if (len(image) > 0) != (c.want == api.OK) {
			t.Errorf("%s has %d words", what, len(image))
		}
		if err := object.Check(m); err != c.want {
			t.Errorf("%s: object.Check tells %d", what, int(err))
		}
		if c.want == api.ErrLong {
			// Nothing that a word might tell stands ahead of the length.
			m.Relocs = append(slices.Clone(wrong), m.Relocs...)
			_, err = Image(m, here, nil)
			wantErr(t, what+" with a wrong slot", err, api.ErrLong)
		}
	}
}

// TestOtherBoundsAreNotAsked has a module beyond the bounds of texts and kinds: of those no word hangs.
func TestOtherBoundsAreNotAsked(t *testing.T) {
	long := strings.Repeat("a", 97)
	m := api.Module{
		Name: long, Exports: slices.Repeat([]string{long}, 9), Imports: slices.Repeat([]string{long}, 17),
		Code: []uint32{callHead}, Relocs: []api.Reloc{{Kind: api.CallImport, Which: 16}, {Kind: 200}},
	}
	want := append([]uint32{callHead + 20016}, make([]uint32, 15)...)
	image, err := Image(m, here, counted(20000, 17))
	wantWords(t, "Image", image, err, want, api.OK)
}

// TestWordOfLongModules has words beyond the bounds of Image.
func TestWordOfLongModules(t *testing.T) {
	m := api.Module{Code: slices.Repeat([]uint32{callHead}, 70000), Data: counted(1, 70000)}
	for at := range 300 {
		m.Relocs = append(m.Relocs, api.Reloc{Kind: api.CallCode, At: uint16(at), Which: 1})
	}
	m.Relocs = append(m.Relocs, api.Reloc{Kind: api.CallCode, At: 65535, Which: 2}, api.Reloc{Kind: api.WordData, At: 65535, Which: 3})
	for _, c := range []struct {
		i    int
		want uint32
	}{
		{0, callHead + 1001},
		{299, callHead + 1001},
		{300, callHead},
		{65534, callHead},
		{65535, callHead + 1002},
		// The places wrap round in no number of 16 bits.
		{65536, callHead},
		{69999, callHead},
		{70000, 1},
		{70000 + 65535, 2003},
		{70000 + 65536, 65537},
		{139999, 70000},
		{140000, 0},
	} {
		wantAnswer(t, fmt.Sprintf("Word(%d)", c.i), answerOf(Word(m, here, nil, c.i)), answer{word: c.want})
	}
}

// TestFirstError has several wrong words: the lowest one tells the error, in whatever order the relocations stand.
func TestFirstError(t *testing.T) {
	m := api.Module{Code: assemble(t, "call 0\nret\nli r1 0\ncall 0"), Data: []uint32{0}}
	wrongSlot := api.Reloc{Kind: api.CallImport, At: 0, Which: 3}
	wrongWord := api.Reloc{Kind: api.CallCode, At: 1}
	tooFar := api.Reloc{Kind: api.LiData, At: 2}
	wrongData := api.Reloc{Kind: api.WordImport, At: 0, Which: 3}
	p := layout.Place{Code: 5, Data: 1 << 20}
	for _, c := range []struct {
		relocs []api.Reloc
		want   api.Errno
	}{
		{[]api.Reloc{wrongSlot, wrongWord, tooFar, wrongData}, api.ErrArg},
		{[]api.Reloc{wrongData, tooFar, wrongWord, wrongSlot}, api.ErrArg},
		{[]api.Reloc{wrongWord, tooFar, wrongData}, api.ErrWord},
		{[]api.Reloc{wrongData, tooFar, wrongWord}, api.ErrWord},
		{[]api.Reloc{wrongData, tooFar}, api.ErrReach},
		{[]api.Reloc{tooFar, wrongData}, api.ErrReach},
		{[]api.Reloc{wrongData}, api.ErrArg},
	} {
		m.Relocs = c.relocs
		image, err := Image(m, p, someSlots)
		wantWords(t, fmt.Sprintf("Image with %v", c.relocs), image, err, nil, c.want)
	}
}

// TestArgumentsStay holds what was handed in against what it was; answers are new memory.
func TestArgumentsStay(t *testing.T) {
	m := api.Module{
		Name: "m", Exports: []string{"a"}, Imports: []string{"f"}, Code: assemble(t, "call 0\nret"), Data: []uint32{3, 0},
		Relocs: []api.Reloc{{Kind: api.CallImport}, {Kind: api.WordCode, At: 1, Which: 1}},
	}
	kept, slots := object.Copy(m), []uint32{17, 18}
	first, err := Image(m, here, slots)
	wantErr(t, "Image", err, api.OK)
	want := slices.Clone(first)
	for i := range first {
		wantAnswer(t, "Word", answerOf(Word(m, here, slots, i)), answer{word: want[i]})
	}
	clear(first[:cap(first)])
	second, err := Image(m, here, slots)
	wantWords(t, "Image again", second, err, want, api.OK)
	if !object.Same(m, kept) || !slices.Equal(slots, []uint32{17, 18}) {
		t.Errorf("the module or the slots changed: %v, %v", m, slots)
	}
}

// TestAllPairs has each pair of relocations of a small module, against the model.
func TestAllPairs(t *testing.T) {
	var relocs []api.Reloc
	for k := range api.Kind(10) {
		for at := range uint16(3) {
			for _, which := range []uint16{0, 1, 2} {
				relocs = append(relocs, api.Reloc{Kind: k, At: at, Which: which})
			}
		}
	}
	slots := []uint32{17, 1 << 20}
	for _, code := range []string{"call 0\nli r2 0", "li r0 0\nhalt", "call 3\ncall 0"} {
		m := api.Module{Code: assemble(t, code), Data: []uint32{6, 0}}
		for _, a := range relocs {
			for _, b := range relocs {
				m.Relocs = []api.Reloc{a, b}
				image, err := Image(m, here, slots)
				want, due := slowImage(m, here, slots)
				wantWords(t, fmt.Sprintf("Image of %q with %v", code, m.Relocs), image, err, want, due)
			}
		}
	}
}

// TestManyModules holds a long row of modules against the model.
func TestManyModules(t *testing.T) {
	seed := uint64(16)
	next := func(n int) int {
		seed = seed*6364136223846793005 + 1442695040888963407
		return int(seed >> 33 % uint64(n))
	}
	raws := []uint32{callHead, callHead, callHead, liHead, liHead + 5<<24, liHead + 7<<24, 18 << 27, 0, callHead + 1, liHead + 1}
	failed := 0
	for range 3000 {
		var m api.Module
		for range next(40) {
			m.Code = append(m.Code, raws[next(len(raws))])
		}
		for range next(40) {
			m.Data = append(m.Data, uint32(next(3)))
		}
		for range next(8) {
			r := api.Reloc{Kind: api.Kind(next(9)), At: uint16(next(40)), Which: uint16(next(5))}
			if next(3) > 0 && len(m.Code) > 0 {
				r.At = uint16(next(len(m.Code)))
				switch m.Code[r.At] >> 27 {
				case callHead >> 27:
					r.Kind = []api.Kind{api.CallImport, api.CallCode}[next(2)]
				case liHead >> 27:
					r.Kind = []api.Kind{api.LiData, api.LiCode, api.LiImport}[next(3)]
				}
			}
			m.Relocs = append(m.Relocs, r)
		}
		slots := counted(uint32(next(60)), 3+next(3))
		p := layout.Place{Code: uint32(80 + 16*next(256)), Data: uint32(80 + 16*next(256))}
		if next(8) == 0 {
			p.Data = 1<<20 - 2
		}
		image, err := Image(m, p, slots)
		want, due := slowImage(m, p, slots)
		wantWords(t, fmt.Sprintf("Image(%v, %v, %v)", m, p, slots), image, err, want, due)
		if due != api.OK {
			failed++
		}
		laid := slowSpots(m)
		for i := -1; i <= len(laid); i++ {
			if got, want := answerOf(Word(m, p, slots, i)), slowWord(laid, m, p, slots, i); got != want {
				t.Fatalf("Word(%v, %v, %v, %d) = %v, want %v", m, p, slots, i, got, want)
			}
		}
	}
	if failed < 300 || failed > 2700 {
		t.Errorf("of 3000 modules %d have an error", failed)
	}
}

// TestHartsRunImages lays two images into a memory, and lets a hart go from one module into the other and back.
func TestHartsRunImages(t *testing.T) {
	x, mem := symtab.New(), memory.New(8)
	callee := api.Module{
		Name: "callee", Exports: []string{"e", "f"}, Code: assemble(t, "jmp 3\njmp 0\nli r2 0\nld r3 r2 0\nret\nret"), Data: []uint32{40, 41},
		Relocs: []api.Reloc{{Kind: api.LiData, At: 2, Which: 1}},
	}
	caller := api.Module{
		Name: "caller", Imports: []string{"e", "f"}, Code: assemble(t, "call 0\ncall 0\nhalt\nli r4 0\nret"), Data: []uint32{0, 0, 0},
		Relocs: []api.Reloc{{Kind: api.CallImport, Which: 1}, {Kind: api.CallCode, At: 1, Which: 3}, {Kind: api.LiImport, At: 3, Which: 0}, {Kind: api.WordImport, At: 2, Which: 1}, {Kind: api.WordData, At: 0, Which: 2}, {Kind: api.WordCode, At: 1, Which: 4}},
	}
	laid := func(m api.Module, gate, first int, owner uint16) {
		p, err := layout.At(layout.Of(m), first)
		wantErr(t, "At", err, api.OK)
		slots, err := Resolve(x, m.Imports)
		wantErr(t, "Resolve", err, api.OK)
		image, err := Image(m, p, slots)
		wantErr(t, "Image", err, api.OK)
		wantErr(t, "Stage", mem.Pages().Stage(first, layout.Pages(layout.Of(m)), owner), api.OK)
		for i, w := range image {
			wantErr(t, "Put", mem.Put(p.Code+uint32(i), w), api.OK)
		}
		wantErr(t, "Publish", mem.Pages().Publish(owner, layout.Of(m).CodePages), api.OK)
		wantErr(t, "SetGate", mem.SetGate(gate, p.Code), api.OK)
		wantErr(t, "Add", x.Add(m.Name, gate, m.Exports), api.OK)
	}
	laid(callee, 3, 2, 9)
	laid(caller, 0, 5, 4)
	h := hart.New(160)
	for range 20 {
		h, _ = hart.Step(h, mem, 0)
	}
	if h.Why != api.Halted || h.R[2] != 129 || h.R[3] != 41 || h.R[4] != 24 || len(h.Stack) != 0 {
		t.Errorf("the hart stands so: %v", h)
	}
	for i, want := range []uint32{178, 164, 25} {
		if w := mem.Peek(176 + uint32(i)); w != want {
			t.Errorf("the word %d of Data is %d, want %d", i, w, want)
		}
	}
}
