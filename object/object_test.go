package object

import (
	"bytes"
	"fmt"
	"slices"
	"strings"
	"testing"

	"budwood/api"
)

// alike is a model of Same: it goes over all fields as a text tells them.
func alike(a, b api.Module) bool {
	tell := func(m api.Module) string {
		return fmt.Sprintf("%q %q %q %x %x %v", m.Name, m.Exports, m.Imports, m.Code, m.Data, m.Relocs)
	}
	return tell(a) == tell(b)
}

// texts tells n texts.
func texts(n, size int) []string {
	var l []string
	for i := range n {
		l = append(l, strings.Repeat(string(rune('a'+i)), size))
	}
	return l
}

// words tells n words.
func words(n int) []uint32 {
	var l []uint32
	for i := range n {
		l = append(l, uint32(i)*0x10203045)
	}
	return l
}

// relocs tells n relocations.
func relocs(n int) []api.Reloc {
	var l []api.Reloc
	for i := range n {
		l = append(l, api.Reloc{Kind: api.Kind(i % 8), At: uint16(i), Which: uint16(65535 - i)})
	}
	return l
}

// small tells a module with something in all fields.
func small() api.Module {
	return api.Module{
		Name:    "m@7",
		Exports: []string{"a", "b@2"},
		Imports: []string{"c", "", "é"},
		Code:    []uint32{0, 1 << 27, 0x89abcdef},
		Data:    []uint32{7, 0xffffffff},
		Relocs:  []api.Reloc{{Kind: api.WordCode, At: 0, Which: 300}, {Kind: api.CallCode, At: 65535, Which: 127}, {Kind: api.CallImport, At: 128, Which: 16384}},
	}
}

// greatest tells a module at all bounds, whose numbers are as long as may be.
func greatest() api.Module {
	m := api.Module{Name: strings.Repeat("n", 96), Exports: texts(8, 96), Imports: texts(16, 96), Code: words(512), Data: words(128)}
	for range 256 {
		m.Relocs = append(m.Relocs, api.Reloc{Kind: 7, At: 65535, Which: 65535})
	}
	return m
}

// sampleModules tells modules within all bounds.
func sampleModules() []api.Module {
	return []api.Module{
		{},
		small(),
		greatest(),
		{Name: "m"},
		{Name: strings.Repeat("é", 48)},
		{Name: strings.Repeat("\xff", 96)},
		{Name: "BUD1\x00\x80"},
		{Exports: []string{""}},
		{Exports: texts(8, 3), Imports: []string{"", ""}},
		{Exports: []string{"a", "a"}, Imports: []string{"a", "a"}},
		{Imports: texts(16, 1)},
		{Imports: texts(1, 96)},
		{Code: words(1)},
		{Code: words(127), Data: words(127)},
		{Code: words(128), Data: words(128)},
		{Code: []uint32{0x01020304, 0x80000000, 1}, Data: []uint32{0xfffefdfc}},
		{Data: words(5)},
		{Relocs: relocs(1)},
		{Relocs: relocs(127)},
		{Relocs: relocs(256)},
		{Relocs: []api.Reloc{{Kind: 7}, {At: 127, Which: 128}, {At: 16383, Which: 16384}, {At: 65535, Which: 65534}, {Kind: 7}}},
	}
}

// variants tells modules that each have one thing otherwise than the small one.
func variants() []api.Module {
	var l []api.Module
	vary := func(change func(m *api.Module)) {
		m := small()
		change(&m)
		l = append(l, m)
	}
	vary(func(m *api.Module) { m.Name = "m@8" })
	vary(func(m *api.Module) { m.Name = "" })
	vary(func(m *api.Module) { m.Exports[0] = "b" })
	vary(func(m *api.Module) { m.Exports[1] = "b@3" })
	vary(func(m *api.Module) { m.Exports = m.Exports[:1] })
	vary(func(m *api.Module) { m.Exports = nil })
	vary(func(m *api.Module) { m.Exports = append(m.Exports, "") })
	vary(func(m *api.Module) { slices.Reverse(m.Exports) })
	vary(func(m *api.Module) { m.Imports[0] = "C" })
	vary(func(m *api.Module) { m.Imports[2] = "e" })
	vary(func(m *api.Module) { m.Imports = m.Imports[:2] })
	vary(func(m *api.Module) { m.Imports = nil })
	vary(func(m *api.Module) { slices.Reverse(m.Imports) })
	vary(func(m *api.Module) { m.Exports, m.Imports = m.Imports, m.Exports })
	vary(func(m *api.Module) { m.Code[0] = 1 })
	vary(func(m *api.Module) { m.Code[2]++ })
	vary(func(m *api.Module) { m.Code = m.Code[:2] })
	vary(func(m *api.Module) { m.Code = nil })
	vary(func(m *api.Module) { m.Code = append(m.Code, 0) })
	vary(func(m *api.Module) { m.Data[0] = 8 })
	vary(func(m *api.Module) { m.Data[1] = 0 })
	vary(func(m *api.Module) { m.Data = m.Data[:1] })
	vary(func(m *api.Module) { m.Data = nil })
	vary(func(m *api.Module) { m.Data = append(m.Data, 0) })
	vary(func(m *api.Module) { m.Code, m.Data = m.Data, m.Code })
	vary(func(m *api.Module) { m.Relocs[0].Kind = api.WordData })
	vary(func(m *api.Module) { m.Relocs[0].At = 1 })
	vary(func(m *api.Module) { m.Relocs[0].Which = 44 })
	vary(func(m *api.Module) { m.Relocs[2].Which = 0 })
	vary(func(m *api.Module) { m.Relocs = m.Relocs[:2] })
	vary(func(m *api.Module) { m.Relocs = nil })
	vary(func(m *api.Module) { m.Relocs = append(m.Relocs, api.Reloc{}) })
	vary(func(m *api.Module) { slices.Reverse(m.Relocs) })
	return l
}

// emptied tells a module whose lists that have nothing are no nil ones.
func emptied(m api.Module) api.Module {
	m.Exports = append([]string{}, m.Exports...)
	m.Imports = append([]string{}, m.Imports...)
	m.Code = append([]uint32{}, m.Code...)
	m.Data = append([]uint32{}, m.Data...)
	m.Relocs = append([]api.Reloc{}, m.Relocs...)
	return m
}

// roomy tells a module whose lists all have some more behind their ends, and a call that tells what stands there.
func roomy(m api.Module) (api.Module, func() string) {
	m.Exports = append(slices.Clone(m.Exports), "x", "y")
	m.Imports = append(slices.Clone(m.Imports), "z")
	m.Code = append(slices.Clone(m.Code), 5, 6)
	m.Data = append(slices.Clone(m.Data), 7)
	m.Relocs = append(slices.Clone(m.Relocs), api.Reloc{Kind: 3, At: 4, Which: 5})
	whole := m
	m.Exports = m.Exports[:len(m.Exports)-2]
	m.Imports = m.Imports[:len(m.Imports)-1]
	m.Code = m.Code[:len(m.Code)-2]
	m.Data = m.Data[:len(m.Data)-1]
	m.Relocs = m.Relocs[:len(m.Relocs)-1]
	return m, func() string { return fmt.Sprintf("%v", whole) }
}

// spoil writes over all that a module's lists have, and into their spare room.
func spoil(m api.Module) {
	for i := range m.Exports[:cap(m.Exports)] {
		m.Exports[:cap(m.Exports)][i] = "spoilt"
	}
	for i := range m.Imports[:cap(m.Imports)] {
		m.Imports[:cap(m.Imports)][i] = "spoilt too"
	}
	for i := range m.Code[:cap(m.Code)] {
		m.Code[:cap(m.Code)][i] = 0xdeadbeef
	}
	for i := range m.Data[:cap(m.Data)] {
		m.Data[:cap(m.Data)][i] = 0xdeadbee
	}
	for i := range m.Relocs[:cap(m.Relocs)] {
		m.Relocs[:cap(m.Relocs)][i] = api.Reloc{Kind: 9, At: 9, Which: 9}
	}
}

// wantRefused holds what Check and Put tell of a module against an error.
func wantRefused(t *testing.T, what string, m api.Module, want api.Errno) {
	t.Helper()
	if err := Check(m); err != want {
		t.Errorf("%s: Check tells %d, want %d", what, int(err), int(want))
	}
	b, err := Put(m)
	if err != want || (want != api.OK) != (len(b) == 0) {
		t.Errorf("%s: Put tells %d bytes and %d, want %d", what, len(b), int(err), int(want))
	}
	if want != api.OK && b != nil {
		t.Errorf("%s: Put tells bytes beside an error", what)
	}
}

// wantForm holds bytes against those that no module is laid as.
func wantForm(t *testing.T, what string, b []byte) {
	t.Helper()
	if m, err := Get(b); err != api.ErrForm || !alike(m, api.Module{}) {
		t.Errorf("%s: Get tells %.200v, %d", what, m, int(err))
	}
}

func TestExamples(t *testing.T) {
	b, err := Put(api.Module{})
	if want := []byte{0x42, 0x55, 0x44, 0x31, 0, 0, 0, 0, 0, 0}; !bytes.Equal(b, want) || err != api.OK {
		t.Errorf("Put of the zero module = %x, %d", b, int(err))
	}
	wantForm(t, "BUD2", []byte("BUD2"))
}

func TestCheckOfTexts(t *testing.T) {
	for _, s := range []string{"", "m", strings.Repeat("a", 95), strings.Repeat("a", 96), strings.Repeat("é", 48), strings.Repeat("\xf0\x9f\x8c\xb1", 24), strings.Repeat("\xff", 96), strings.Repeat("\x00", 96)} {
		wantTexts(t, s, api.OK)
	}
	for _, s := range []string{strings.Repeat("a", 97), strings.Repeat("é", 49), strings.Repeat("€", 33), strings.Repeat("\xff", 97), strings.Repeat("\x00", 97), strings.Repeat("a", 256), strings.Repeat("a", 1<<16)} {
		wantTexts(t, s, api.ErrLong)
	}
}

// wantTexts holds modules that have a text at one place against an error.
func wantTexts(t *testing.T, s string, want api.Errno) {
	t.Helper()
	wantRefused(t, fmt.Sprintf("the name %.10q of %d", s, len(s)), api.Module{Name: s}, want)
	for n := 1; n <= 8; n++ {
		for i := range n {
			l := texts(n, 2)
			l[i] = s
			wantRefused(t, fmt.Sprintf("the export %d, %.10q of %d", i, s, len(s)), api.Module{Exports: l}, want)
		}
	}
	for n := 1; n <= 16; n++ {
		for i := range n {
			l := texts(n, 2)
			l[i] = s
			wantRefused(t, fmt.Sprintf("the import %d, %.10q of %d", i, s, len(s)), api.Module{Imports: l}, want)
		}
	}
}

func TestCheckOfLists(t *testing.T) {
	for n := range 2000 {
		until := func(most int) api.Errno {
			if n > most {
				return api.ErrLong
			}
			return api.OK
		}
		wantRefused(t, fmt.Sprintf("%d exports", n), api.Module{Exports: make([]string, n)}, until(8))
		wantRefused(t, fmt.Sprintf("%d imports", n), api.Module{Imports: make([]string, n)}, until(16))
		wantRefused(t, fmt.Sprintf("%d words of code", n), api.Module{Code: make([]uint32, n)}, until(512))
		wantRefused(t, fmt.Sprintf("%d words of data", n), api.Module{Data: make([]uint32, n)}, until(128))
		wantRefused(t, fmt.Sprintf("%d relocations", n), api.Module{Relocs: make([]api.Reloc, n)}, until(256))
	}
	wantRefused(t, "many words", api.Module{Code: make([]uint32, 1<<16+1)}, api.ErrLong)
	wantRefused(t, "the greatest module", greatest(), api.OK)
}

func TestCheckOfKinds(t *testing.T) {
	for kind := range 256 {
		want := api.OK
		if kind > 7 {
			want = api.ErrArg
		}
		for _, n := range []int{1, 2, 3, 256} {
			for _, i := range []int{0, n / 2, n - 1} {
				l := relocs(n)
				l[i] = api.Reloc{Kind: api.Kind(kind), At: 65535, Which: 65535}
				wantRefused(t, fmt.Sprintf("the kind %d at %d of %d", kind, i, n), api.Module{Relocs: l}, want)
			}
		}
	}
}

// TestCheckOfBoth is of modules with both errors: ErrLong stands first.
func TestCheckOfBoth(t *testing.T) {
	bad := []api.Reloc{{Kind: 8}}
	long := strings.Repeat("a", 97)
	for _, m := range []api.Module{
		{Name: long, Relocs: bad},
		{Exports: []string{"a", long}, Relocs: bad},
		{Exports: make([]string, 9), Relocs: bad},
		{Imports: []string{"a", long}, Relocs: bad},
		{Imports: make([]string, 17), Relocs: bad},
		{Code: make([]uint32, 513), Relocs: bad},
		{Data: make([]uint32, 129), Relocs: bad},
		{Relocs: append(relocs(256), bad...)},
		{Relocs: append(slices.Clone(bad), relocs(256)...)},
	} {
		wantRefused(t, fmt.Sprintf("%.100v", m), m, api.ErrLong)
	}
	m := greatest()
	m.Relocs[255].Kind = 8
	wantRefused(t, "the greatest module with a kind of 8", m, api.ErrArg)
}

// TestCheckOfLoose is of modules that can't be loaded, but laid.
func TestCheckOfLoose(t *testing.T) {
	for _, m := range []api.Module{
		{Name: "no name", Exports: []string{"1", "1"}},
		{Exports: texts(8, 1)},
		{Code: []uint32{0xffffffff}},
		{Relocs: []api.Reloc{{Kind: 0, At: 9, Which: 9}, {Kind: 0, At: 9, Which: 9}}},
	} {
		wantRefused(t, fmt.Sprintf("%v", m), m, api.OK)
	}
}

func TestPutExamples(t *testing.T) {
	for _, c := range []struct {
		m    api.Module
		want string
	}{
		{api.Module{Name: "m"}, "\x01m\x00\x00\x00\x00\x00"},
		{api.Module{Name: "\xff\x00"}, "\x02\xff\x00\x00\x00\x00\x00\x00"},
		{api.Module{Exports: []string{""}}, "\x00\x01\x00\x00\x00\x00\x00"},
		{api.Module{Exports: []string{"ab", "c"}}, "\x00\x02\x02ab\x01c\x00\x00\x00\x00"},
		{api.Module{Imports: []string{"c", "é"}}, "\x00\x00\x02\x01c\x02\xc3\xa9\x00\x00\x00"},
		{api.Module{Code: []uint32{0x12345678}}, "\x00\x00\x00\x01\x78\x56\x34\x12\x00\x00"},
		{api.Module{Data: []uint32{1, 0x80000000}}, "\x00\x00\x00\x00\x02\x01\x00\x00\x00\x00\x00\x00\x80\x00"},
		{api.Module{Relocs: []api.Reloc{{Kind: 7, At: 1, Which: 2}}}, "\x00\x00\x00\x00\x00\x01\x07\x01\x02"},
		{api.Module{Relocs: []api.Reloc{{Kind: 2, At: 300, Which: 127}, {At: 65535, Which: 128}}}, "\x00\x00\x00\x00\x00\x02\x02\xac\x02\x7f\x00\xff\xff\x03\x80\x01"},
		{api.Module{Name: "m", Exports: []string{"a"}, Imports: []string{"b"}, Code: []uint32{2}, Data: []uint32{3}, Relocs: []api.Reloc{{Kind: 4, At: 5, Which: 6}}},
			"\x01m\x01\x01a\x01\x01b\x01\x02\x00\x00\x00\x01\x03\x00\x00\x00\x01\x04\x05\x06"},
	} {
		b, err := Put(c.m)
		if string(b) != "BUD1"+c.want || err != api.OK {
			t.Errorf("Put(%v) = %x, %d, want BUD1 and %x", c.m, b, int(err), c.want)
		}
		m, err := Get(b)
		if !alike(m, c.m) || err != api.OK {
			t.Errorf("Get(%x) = %v, %d, want %v", b, m, int(err), c.m)
		}
	}
}

func TestPutOfManyModules(t *testing.T) {
	for _, m := range append(sampleModules(), variants()...) {
		for _, m := range []api.Module{m, emptied(m)} {
			b, err := Put(m)
			if want := slowLay(m); !bytes.Equal(b, want) || err != api.OK {
				t.Errorf("Put(%.200v) = %.200x, %d, want %.200x", m, b, int(err), want)
			}
		}
	}
}

func TestPutOfAllShorts(t *testing.T) {
	for n := range 65536 {
		m := api.Module{Relocs: []api.Reloc{{Kind: api.Kind(n % 8), At: uint16(n), Which: uint16(65535 - n)}}}
		b, err := Put(m)
		if !bytes.Equal(b, slowLay(m)) || err != api.OK {
			t.Fatalf("Put(%v) = %x, %d", m, b, int(err))
		}
		if got, err := Get(b); !alike(got, m) || err != api.OK {
			t.Fatalf("Get(%x) = %v, %d", b, got, int(err))
		}
	}
}

// TestGetOfPut is P10.5; that even the greatest module has at most MaxObject bytes makes it hold for all.
func TestGetOfPut(t *testing.T) {
	for _, m := range append(sampleModules(), variants()...) {
		b, err := Put(m)
		if len(b) > api.MaxObject || err != api.OK {
			t.Fatalf("Put(%.200v) tells %d bytes, %d", m, len(b), int(err))
		}
		got, err := Get(b)
		if !alike(got, m) || !Same(got, m) || err != api.OK {
			t.Errorf("Get of Put = %.200v, %d, want %.200v", got, int(err), m)
		}
	}
}

func TestGetOfLength(t *testing.T) {
	for _, n := range []int{16385, 16386, 1 << 15, 1 << 20} {
		for _, b := range [][]byte{make([]byte, n), append(slowLay(small()), make([]byte, n)...)[:n], bytes.Repeat([]byte("BUD2"), n/4+1)[:n]} {
			if m, err := Get(b); err != api.ErrLong || !alike(m, api.Module{}) {
				t.Errorf("Get(%d bytes, %.10q) = %v, %d", n, b, m, int(err))
			}
		}
	}
	for _, n := range []int{11, 4095, 16383, 16384} {
		wantForm(t, fmt.Sprintf("%d noughts", n), make([]byte, n))
		wantForm(t, fmt.Sprintf("the zero module with noughts, %d bytes in all", n), append([]byte("BUD1"), make([]byte, n-4)...))
	}
}

func TestGetOfMarks(t *testing.T) {
	laid := slowLay(small())
	for at := range 4 {
		for c := range 256 {
			b := slices.Clone(laid)
			b[at] = byte(c)
			if c != int(laid[at]) {
				wantForm(t, fmt.Sprintf("the mark %q", b[:4]), b)
			}
		}
	}
	for _, b := range [][]byte{nil, {}, []byte("B"), []byte("BUD"), []byte("BUD1"), []byte("1DUB\x00\x00\x00\x00\x00\x00"), []byte("BBUD1\x00\x00\x00\x00\x00\x00"), laid[1:], laid[4:]} {
		wantForm(t, fmt.Sprintf("%q", b), b)
	}
}

// TestGetOfCuts is of bytes that end too soon, or too late.
func TestGetOfCuts(t *testing.T) {
	for _, m := range sampleModules() {
		laid := slowLay(m)
		for n := range laid {
			wantForm(t, fmt.Sprintf("%d bytes of %d", n, len(laid)), laid[:n])
		}
		for c := range 256 {
			wantForm(t, fmt.Sprintf("%d bytes and %d", len(laid), c), append(slices.Clone(laid), byte(c)))
		}
		wantForm(t, "a module twice", append(slices.Clone(laid), laid...))
	}
}

// TestGetOfTooMuch is of bytes that are laid like a module beyond its bounds.
func TestGetOfTooMuch(t *testing.T) {
	long := strings.Repeat("a", 97)
	for _, m := range []api.Module{
		{Name: long},
		{Exports: []string{long}},
		{Exports: append(texts(7, 1), long)},
		{Imports: []string{long}},
		{Imports: append(texts(15, 1), long)},
		{Exports: make([]string, 9)},
		{Imports: make([]string, 17)},
		{Code: make([]uint32, 513)},
		{Data: make([]uint32, 129)},
		{Relocs: make([]api.Reloc, 257)},
		{Relocs: []api.Reloc{{Kind: 8}}},
		{Relocs: []api.Reloc{{Kind: 127}}},
		{Relocs: []api.Reloc{{Kind: 128}}},
		{Relocs: []api.Reloc{{Kind: 128}, {}}},
		{Relocs: []api.Reloc{{Kind: 255, At: 1}}},
		{Relocs: append(relocs(255), api.Reloc{Kind: 8})},
	} {
		wantForm(t, fmt.Sprintf("%.100v", m), slowLay(m))
	}
}

// TestGetOfOtherLays is of bytes with a module in them that is laid otherwise than Put does.
func TestGetOfOtherLays(t *testing.T) {
	for _, laid := range []string{
		"\x80\x00\x00\x00\x00\x00\x00",
		"\x81\x00m\x00\x00\x00\x00\x00",
		"\x00\x80\x00\x00\x00\x00\x00",
		"\x00\x81\x00\x00\x00\x00\x00\x00",
		"\x00\x01\x80\x00\x00\x00\x00\x00",
		"\x00\x00\x80\x00\x00\x00\x00",
		"\x00\x00\x00\x80\x00\x00\x00",
		"\x00\x00\x00\x00\x80\x80\x00\x00",
		"\x00\x00\x00\x00\x00\x80\x00",
		"\x00\x00\x00\x00\x00\x01\x07\x81\x00\x02",
		"\x00\x00\x00\x00\x00\x01\x07\x01\x82\x00",
		"\x00\x00\x00\x00\x00\x01\x87\x00\x01\x02",
		"\x00\x00\x00\x00\x00\x01\x07\x80\x80\x04\x02",
		"\x00\x00\x00\x00\x00\x01\x07\x01\x80\x80\x04",
		"\x00\x00\x00\x00\x00\x01\x07\x01\xff\xff\x07",
		"\x00\x00\x00\x00\x00\x01\x07\xff\xff\xff\xff\x0f\x02",
		"\x00\x00\x00\x00\x00\x01\x07\x81\x80\x80\x80\x10\x02",
		"\x00\x00\x00\x00\x00\x01\x07\x01\x80\x80\x80\x80\x10",
		"\xff\xff\xff\xff\x0f\x00\x00\x00\x00\x00",
		"\x80\x80\x80\x80\x10\x00\x00\x00\x00\x00",
		"\x80\x80\x80\x80\x80\x00\x00\x00\x00\x00\x00",
		"\x00\xff\xff\xff\xff\x0f\x00\x00\x00\x00",
		"\x00\x00\xff\xff\xff\xff\x0f\x00\x00\x00",
		"\x00\x00\x00\xff\xff\xff\xff\x0f\x00\x00",
		"\x00\x00\x00\x00\xff\xff\xff\xff\x0f\x00",
		"\x00\x00\x00\x00\x00\xff\xff\xff\xff\x0f",
		"\x00\x00\x00\x80\x80\x80\x80\x04\x00\x00",
	} {
		wantForm(t, fmt.Sprintf("%x", laid), []byte("BUD1"+laid))
	}
}

func TestSame(t *testing.T) {
	l := append(sampleModules(), variants()...)
	for i, a := range l {
		for j, b := range l {
			if got := Same(a, b); got != (i == j) || got != alike(a, b) {
				t.Errorf("Same(%.200v, %.200v) = %v", a, b, got)
			}
		}
		for _, b := range []api.Module{emptied(a), Copy(a)} {
			if !Same(a, b) || !Same(b, a) {
				t.Errorf("%.200v is not the same as with lists of its own", a)
			}
		}
	}
}

// TestSameBeyond is of modules beyond all bounds: they are told apart, too.
func TestSameBeyond(t *testing.T) {
	beyond := func() api.Module {
		return api.Module{Name: strings.Repeat("a", 200), Exports: texts(20, 100), Imports: texts(20, 100), Code: words(1000), Data: words(1000), Relocs: []api.Reloc{300: {Kind: 255}}}
	}
	a, b := beyond(), beyond()
	if !Same(a, b) || !Same(Copy(a), b) {
		t.Error("a great module is not the same as itself")
	}
	for _, change := range []func(){
		func() { b.Name = strings.Repeat("a", 199) + "b" },
		func() { b.Exports[19] = "" },
		func() { b.Imports[19] = "" },
		func() { b.Code[999]++ },
		func() { b.Data[999]++ },
		func() { b.Relocs[300].Kind = 254 },
		func() { b.Relocs[300].Which = 1 },
	} {
		b = beyond()
		change()
		if Same(a, b) || Same(b, a) {
			t.Errorf("great modules that differ are the same: %.50v", b)
		}
	}
}

func TestCopy(t *testing.T) {
	for _, m := range append(sampleModules(), variants()...) {
		want, err := Put(m)
		if err != api.OK {
			t.Fatalf("%.200v is no module: %d", m, int(err))
		}
		given, room := roomy(m)
		before := room()
		c := Copy(given)
		if !alike(c, m) {
			t.Errorf("Copy(%.200v) = %.200v", m, c)
		}
		again := Copy(given)
		spoil(c)
		if got := room(); got != before {
			t.Errorf("a change of the copy changes the module: %.200q, want %.200q", got, before)
		}
		spoil(given)
		if b, err := Put(again); !bytes.Equal(b, want) || err != api.OK {
			t.Errorf("a change of the module changes the copy: %.200v, want %.200v", again, m)
		}
	}
}

// TestArguments is of what the calls are given: they change nothing of it, nor what stands behind its ends.
func TestArguments(t *testing.T) {
	for _, m := range append(sampleModules(), api.Module{Exports: make([]string, 9)}, api.Module{Relocs: []api.Reloc{{Kind: 8}}}) {
		given, room := roomy(m)
		before := room()
		Check(given)
		Put(given)
		Same(given, given)
		Copy(given)
		if got := room(); got != before {
			t.Errorf("the module is %.200q, was %.200q", got, before)
		}
		laid := append(slowLay(m), 1, 2, 3)
		whole := slices.Clone(laid)
		Get(laid[:len(laid)-3])
		if !bytes.Equal(laid, whole) {
			t.Errorf("the bytes are %.200x, were %.200x", laid, whole)
		}
	}
}

// TestAnswers is of what the calls answer: it is new memory, whatever becomes of what they were given or answered earlier.
func TestAnswers(t *testing.T) {
	for _, m := range append(sampleModules(), variants()...) {
		laid := slowLay(m)
		given := slices.Clone(laid)
		first, err := Get(given)
		if err != api.OK {
			t.Fatalf("Get(%.200x) tells %d", given, int(err))
		}
		clear(given)
		second, err := Get(laid)
		if !alike(first, m) || err != api.OK {
			t.Errorf("a change of the bytes changes the module: %.200v, want %.200v", first, m)
		}
		spoil(first)
		if !alike(second, m) || !bytes.Equal(laid, slowLay(m)) {
			t.Errorf("a change of one answer changes another, or the bytes: %.200v, want %.200v", second, m)
		}
		b, _ := Put(m)
		c, _ := Put(m)
		clear(b[:cap(b)])
		if !bytes.Equal(c, laid) || !alike(m, second) {
			t.Errorf("a change of the bytes changes others, or the module: %.200x, want %.200x", c, laid)
		}
	}
}

// TestLists is of one answer's lists: none reaches into another.
func TestLists(t *testing.T) {
	m := small()
	got, err := Get(slowLay(m))
	for _, m := range []api.Module{got, Copy(m)} {
		spoil(api.Module{Exports: m.Exports, Code: m.Code})
		if err != api.OK || !slices.Equal(m.Imports, small().Imports) || !slices.Equal(m.Data, small().Data) || !slices.Equal(m.Relocs, small().Relocs) {
			t.Errorf("a change of some lists changes others: %v, %d", m, int(err))
		}
	}
}
