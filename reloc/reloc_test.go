package reloc

import (
	"fmt"
	"math"
	"slices"
	"testing"

	"budwood/api"
	"budwood/hart"
	"budwood/isa"
	"budwood/layout"
	"budwood/memory"
)

// someWords has words at both ends, about the bounds, and some between.
var someWords = []uint32{
	0, 1, 2, 3, 17, 63, 64, 79, 80, 81, 127, 128, 160, 163, 4175, 4176, 65535, 65536,
	1<<19 - 1, 1 << 19, 1<<20 - 2, 1<<20 - 1, 1 << 20, 1<<20 + 1, 1<<21 - 1, 1 << 21, 1<<21 + 1,
	1<<24 - 1, 1 << 24, 1<<31 - 1, 1 << 31, 1<<31 + 1, 1<<32 - 1<<20, 1<<32 - 2, 1<<32 - 1,
}

// allKinds tells all numbers that a Kind may have, in a row.
func allKinds() []api.Kind {
	var kinds []api.Kind
	for k := range 256 {
		kinds = append(kinds, api.Kind(k))
	}
	return kinds
}

// kindsWith tells the kinds whose words have that head.
func kindsWith(head uint32) []api.Kind {
	var kinds []api.Kind
	for k, of := range slowKinds() {
		if !of.whole && of.head == head {
			kinds = append(kinds, api.Kind(k))
		}
	}
	return kinds
}

// encode makes an instruction's word.
func encode(t *testing.T, i api.Ins) uint32 {
	t.Helper()
	w, err := isa.Encode(i)
	if err != api.OK {
		t.Fatalf("Encode(%v): %d", i, int(err))
	}
	return w
}

// countedSlots makes so many slots, no two of them the same.
func countedSlots(n int) []uint32 {
	slots := make([]uint32, n)
	for i := range slots {
		slots[i] = 1<<28 + uint32(i)
	}
	return slots
}

func TestExample(t *testing.T) {
	p := layout.Place{Code: 128, Data: 160}
	wantAnswer(t, "Value(LiData 3)", answerOf(Value(api.Reloc{Kind: api.LiData, Which: 3}, p, nil)), answer{word: 163})
	li := encode(t, api.Ins{Op: api.Li, D: 1})
	to := encode(t, api.Ins{Op: api.Li, D: 1, Imm: 163})
	wantAnswer(t, "Apply(Li r1 0)", answerOf(Apply(li, api.LiData, 163)), answer{word: to})
	call := encode(t, api.Ins{Op: api.Call})
	wantAnswer(t, "Apply(Call 0)", answerOf(Apply(call, api.CallImport, 1<<20)), answer{err: api.ErrReach})
	there := encode(t, api.Ins{Op: api.Call, Imm: 17})
	wantAnswer(t, "Undo(Call 17)", answerOf(Undo(there, api.CallImport)), answer{word: call})
}

// TestValueOfEachKind has the kinds by their names, as the document tells them.
func TestValueOfEachKind(t *testing.T) {
	p, slots := layout.Place{Code: 1000, Data: 2000}, []uint32{5, 17, 4000000000}
	for _, c := range []struct {
		kind api.Kind
		want uint32
	}{
		{api.CallImport, 4000000000},
		{api.LiImport, 4000000000},
		{api.LiData, 2002},
		{api.LiCode, 1002},
		{api.WordImport, 4000000000},
		{api.WordData, 2002},
		{api.WordCode, 1002},
		{api.CallCode, 1002},
	} {
		// At says nothing of the address.
		for _, at := range []uint16{0, 1, 2, 511, 512, 65535} {
			what := fmt.Sprintf("Value of the kind %d at %d", c.kind, at)
			wantAnswer(t, what, answerOf(Value(api.Reloc{Kind: c.kind, At: at, Which: 2}, p, slots)), answer{word: c.want})
		}
	}
}

func TestValueRefuses(t *testing.T) {
	p := layout.Place{Code: 128, Data: 160}
	for _, k := range []api.Kind{api.CallImport, api.LiImport, api.WordImport} {
		for _, n := range []int{0, 1, 2, 16} {
			for _, which := range []int{n, n + 1, n + 255, n + 256, 65535} {
				what := fmt.Sprintf("Value of the kind %d, %d of %d slots", k, which, n)
				wantAnswer(t, what, answerOf(Value(api.Reloc{Kind: k, Which: uint16(which)}, p, countedSlots(n))), answer{err: api.ErrArg})
			}
		}
	}
	for k := 8; k < 256; k++ {
		for _, which := range []uint16{0, 1, 7, 65535} {
			what := fmt.Sprintf("Value of the kind %d, %d", k, which)
			wantAnswer(t, what, answerOf(Value(api.Reloc{Kind: api.Kind(k), Which: which}, p, countedSlots(8))), answer{err: api.ErrArg})
		}
	}
}

// TestValueWrapsRound has sums beyond the greatest word.
func TestValueWrapsRound(t *testing.T) {
	for _, c := range []struct {
		from, want uint32
		which      uint16
	}{
		{math.MaxUint32, math.MaxUint32, 0},
		{math.MaxUint32, 0, 1},
		{math.MaxUint32, 65534, 65535},
		{math.MaxUint32 - 65535, math.MaxUint32, 65535},
		{math.MaxUint32 - 65534, 0, 65535},
		{1 << 31, 1<<31 + 65535, 65535},
	} {
		for _, k := range []api.Kind{api.LiData, api.WordData} {
			wantAnswer(t, "Value from Data", answerOf(Value(api.Reloc{Kind: k, Which: c.which}, layout.Place{Code: 7, Data: c.from}, nil)), answer{word: c.want})
		}
		for _, k := range []api.Kind{api.LiCode, api.WordCode, api.CallCode} {
			wantAnswer(t, "Value from Code", answerOf(Value(api.Reloc{Kind: k, Which: c.which}, layout.Place{Code: c.from, Data: 7}, nil)), answer{word: c.want})
		}
	}
}

// TestValueOfManySlots has more slots than a Which can name.
func TestValueOfManySlots(t *testing.T) {
	for _, n := range []int{65535, 65536, 65537, 70000} {
		slots := countedSlots(n)
		for _, which := range []uint16{0, 1, 255, 256, 32767, 32768, 65533, 65534, 65535} {
			for _, k := range allKinds() {
				r := api.Reloc{Kind: k, At: 9, Which: which}
				what := fmt.Sprintf("Value(%v) of %d slots", r, n)
				wantAnswer(t, what, answerOf(Value(r, layout.Place{}, slots)), slowValue(r, layout.Place{}, slots))
			}
		}
	}
}

func TestValueOfManyRelocs(t *testing.T) {
	seed := uint64(15)
	next := func(n int) uint32 {
		seed = seed*6364136223846793005 + 1442695040888963407
		return uint32(seed >> 33 % uint64(n))
	}
	word := func() uint32 {
		if next(2) == 0 {
			return someWords[next(len(someWords))]
		}
		return next(1<<31)<<1 + next(2)
	}
	for range 300000 {
		r := api.Reloc{Kind: api.Kind(next(12)), At: uint16(next(65536)), Which: uint16(next(20))}
		if next(4) == 0 {
			r.Which, r.Kind = uint16(next(65536)), api.Kind(next(256))
		}
		p := layout.Place{Code: word(), Data: word()}
		slots := make([]uint32, next(20))
		for i := range slots {
			slots[i] = word()
		}
		kept := slices.Clone(slots)
		what := fmt.Sprintf("Value(%v, %v, %v)", r, p, slots)
		wantAnswer(t, what, answerOf(Value(r, p, slots)), slowValue(r, p, slots))
		if !slices.Equal(slots, kept) {
			t.Fatalf("%s changed the slots", what)
		}
	}
}

func TestReach(t *testing.T) {
	for _, c := range []struct {
		kind api.Kind
		want uint32
	}{
		{api.CallImport, 1048575},
		{api.LiImport, 1048575},
		{api.LiData, 1048575},
		{api.LiCode, 1048575},
		{api.WordImport, 4294967295},
		{api.WordData, 4294967295},
		{api.WordCode, 4294967295},
		{api.CallCode, 1048575},
	} {
		if got := Reach(c.kind); got != c.want {
			t.Errorf("Reach(%d) = %d, want %d", c.kind, got, c.want)
		}
	}
	for k := 8; k < 256; k++ {
		if got := Reach(api.Kind(k)); got != 0 {
			t.Errorf("Reach(%d) = %d, want 0", k, got)
		}
	}
}

// TestApplyOfEachKind has the kinds by their names, with the instructions that they go to.
func TestApplyOfEachKind(t *testing.T) {
	for _, c := range []struct {
		kind api.Kind
		op   api.Op
		last uint8
	}{
		{api.CallImport, api.Call, 0},
		{api.CallCode, api.Call, 0},
		{api.LiImport, api.Li, 7},
		{api.LiData, api.Li, 7},
		{api.LiCode, api.Li, 7},
	} {
		for d := range c.last + 1 {
			w := encode(t, api.Ins{Op: c.op, D: d})
			for _, v := range []uint32{0, 1, 80, 1<<20 - 2, 1<<20 - 1} {
				what := fmt.Sprintf("Apply(%08x, %d, %d)", w, c.kind, v)
				want := encode(t, api.Ins{Op: c.op, D: d, Imm: int32(v)})
				wantAnswer(t, what, answerOf(Apply(w, c.kind, v)), answer{word: want})
				wantAnswer(t, "Undo of "+what, answerOf(Undo(want, c.kind)), answer{word: w})
			}
			for _, v := range []uint32{1 << 20, 1<<20 + 1, 1<<21 - 1, 1 << 21, 1 << 31, 1<<32 - 1<<20, 1<<32 - 1} {
				what := fmt.Sprintf("Apply(%08x, %d, %d)", w, c.kind, v)
				wantAnswer(t, what, answerOf(Apply(w, c.kind, v)), answer{err: api.ErrReach})
			}
		}
	}
	for _, k := range []api.Kind{api.WordImport, api.WordData, api.WordCode} {
		for _, w := range someWords {
			for _, v := range someWords {
				wantAnswer(t, "Apply of a whole word", answerOf(Apply(w, k, v)), answer{word: v})
			}
			wantAnswer(t, "Undo of a whole word", answerOf(Undo(w, k)), answer{})
		}
	}
}

func TestApplyAndUndoRefuse(t *testing.T) {
	for k := 8; k < 256; k++ {
		for _, w := range append(someWords, encode(t, api.Ins{Op: api.Call}), encode(t, api.Ins{Op: api.Li, D: 1})) {
			for _, v := range []uint32{0, 1, 1<<20 - 1, 1 << 20, 1<<32 - 1} {
				what := fmt.Sprintf("Apply(%08x, %d, %d)", w, k, v)
				wantAnswer(t, what, answerOf(Apply(w, api.Kind(k), v)), answer{err: api.ErrArg})
			}
			wantAnswer(t, fmt.Sprintf("Undo(%08x, %d)", w, k), answerOf(Undo(w, api.Kind(k))), answer{err: api.ErrArg})
		}
	}
	// A word that is wrong stands ahead of an address that is too great.
	call, li := uint32(17)<<27, uint32(2)<<27
	for _, c := range []struct {
		kinds []api.Kind
		w     uint32
	}{
		{kindsWith(17), 0}, {kindsWith(17), math.MaxUint32}, {kindsWith(17), li}, {kindsWith(17), li + 1<<24},
		{kindsWith(17), call + 1<<20}, {kindsWith(17), call + 1<<21 - 1}, {kindsWith(17), call + 1<<21}, {kindsWith(17), call + 1<<24},
		{kindsWith(17), encode(t, api.Ins{Op: api.Jmp})}, {kindsWith(17), encode(t, api.Ins{Op: api.Enter})}, {kindsWith(17), encode(t, api.Ins{Op: api.Ret})},
		{kindsWith(2), 0}, {kindsWith(2), math.MaxUint32}, {kindsWith(2), call}, {kindsWith(2), call + 7},
		{kindsWith(2), li + 1<<20}, {kindsWith(2), li + 1<<21 - 1}, {kindsWith(2), li + 1<<21}, {kindsWith(2), li + 7<<24 + 7<<21},
		{kindsWith(2), encode(t, api.Ins{Op: api.Addi})}, {kindsWith(2), encode(t, api.Ins{Op: api.Ld, D: 1})}, {kindsWith(2), encode(t, api.Ins{Op: api.Nop})},
	} {
		for _, k := range c.kinds {
			for _, v := range []uint32{0, 1, 1 << 20, 1<<32 - 1} {
				what := fmt.Sprintf("Apply(%08x, %d, %d)", c.w, k, v)
				wantAnswer(t, what, answerOf(Apply(c.w, k, v)), answer{err: api.ErrWord})
			}
			wantAnswer(t, fmt.Sprintf("Undo(%08x, %d)", c.w, k), answerOf(Undo(c.w, k)), answer{err: api.ErrWord})
		}
	}
}

// TestApplyOnceAlone has words that have an address already: Undo takes it away, and Apply puts no other one there.
func TestApplyOnceAlone(t *testing.T) {
	for _, head := range []uint32{17, 2} {
		for _, k := range kindsWith(head) {
			for _, imm := range []uint32{1, 2, 163, 1<<20 - 1} {
				w := head<<27 + imm
				for _, v := range []uint32{0, 1, imm, 1<<20 - 1, 1 << 20, 1<<32 - 1} {
					what := fmt.Sprintf("Apply(%08x, %d, %d)", w, k, v)
					wantAnswer(t, what, answerOf(Apply(w, k, v)), answer{err: api.ErrWord})
				}
				wantAnswer(t, fmt.Sprintf("Undo(%08x, %d)", w, k), answerOf(Undo(w, k)), answer{word: head << 27})
			}
		}
	}
}

// TestManyWords has all heads, with all registers, and some numbers.
func TestManyWords(t *testing.T) {
	lows := []uint32{0, 1, 7, 8, 163, 1<<19 + 5, 1<<20 - 1}
	addresses := []uint32{0, 1, 80, 1<<20 - 1, 1 << 20, 1<<20 + 1, 1 << 31, 1<<32 - 1<<20, 1<<32 - 1}
	for head := range uint32(4096) {
		for _, low := range lows {
			w := head<<20 + low
			for k := range api.Kind(9) {
				for _, v := range addresses {
					if got, want := answerOf(Apply(w, k, v)), slowApply(w, k, v); got != want {
						t.Fatalf("Apply(%08x, %d, %d) = %v, want %v", w, k, v, got, want)
					}
				}
				if got, want := answerOf(Undo(w, k)), slowUndo(w, k); got != want {
					t.Fatalf("Undo(%08x, %d) = %v, want %v", w, k, got, want)
				}
			}
		}
	}
}

// TestAllKindsOfSomeWords has all numbers of kinds.
func TestAllKindsOfSomeWords(t *testing.T) {
	for _, k := range allKinds() {
		if got := Reach(k); uint64(got) != slowReach(k) {
			t.Fatalf("Reach(%d) = %d, want %d", k, got, slowReach(k))
		}
		for _, head := range []uint32{0, 2 << 27, 2<<27 + 5<<24, 17 << 27, 17<<27 + 1<<24, 18 << 27} {
			for _, low := range someWords {
				w := head + low
				for _, v := range someWords {
					if got, want := answerOf(Apply(w, k, v)), slowApply(w, k, v); got != want {
						t.Fatalf("Apply(%08x, %d, %d) = %v, want %v", w, k, v, got, want)
					}
				}
				if got, want := answerOf(Undo(w, k)), slowUndo(w, k); got != want {
					t.Fatalf("Undo(%08x, %d) = %v, want %v", w, k, got, want)
				}
			}
		}
	}
}

// TestUndoLeadsBack has each address that there is room for: Undo of Apply is the word, and what is applied jumps there, or has it.
func TestUndoLeadsBack(t *testing.T) {
	for n, k := range []api.Kind{api.CallImport, api.LiImport, api.LiData, api.LiCode, api.CallCode} {
		i := api.Ins{Op: api.Call}
		if slowKinds()[k].register {
			i = api.Ins{Op: api.Li, D: uint8(n) + 3}
		}
		w := encode(t, i)
		for v := range uint32(1 << 20) {
			x, err := Apply(w, k, v)
			if want := w + v; x != want || err != api.OK {
				t.Fatalf("Apply(%08x, %d, %d) = %08x, %d", w, k, v, x, int(err))
			}
			if back, err := Undo(x, k); back != w || err != api.OK {
				t.Fatalf("Undo(%08x, %d) = %08x, %d, want %08x", x, k, back, int(err), w)
			}
		}
	}
	for _, k := range []api.Kind{api.WordImport, api.WordData, api.WordCode} {
		for _, v := range someWords {
			x, err := Apply(0, k, v)
			wantAnswer(t, "Apply(0)", answer{word: x, err: err}, answer{word: v})
			wantAnswer(t, "Undo", answerOf(Undo(x, k)), answer{})
		}
	}
}

// TestWhatIsAppliedJumps lets a hart run what was applied.
func TestWhatIsAppliedJumps(t *testing.T) {
	m := memory.New(1)
	if err := m.Pages().Stage(0, 1, 5); err != api.OK {
		t.Fatal(int(err))
	}
	addresses := []uint32{0, 1, 63, 80, 81, 95, 96, 4175, 65535, 65536, 1<<20 - 1}
	for n, v := range addresses {
		call, err := Apply(encode(t, api.Ins{Op: api.Call}), api.CallImport, v)
		wantErr(t, "Apply(Call)", err)
		for at := range uint32(3) {
			i, err := isa.Decode(call)
			wantErr(t, "Decode", err)
			if to, jumps := isa.Target(at, i); to != v || !jumps {
				t.Errorf("the applied Call goes to %d, %v, want %d", to, jumps, v)
			}
		}
		// A page takes words while it is staged alone, so each address has a memory of its own.
		fork := m.Fork()
		r := n%7 + 1 // The register 0 stays 0.
		li, err := Apply(encode(t, api.Ins{Op: api.Li, D: uint8(r)}), api.LiCode, v)
		wantErr(t, "Apply(Li)", err)
		wantErr(t, "Put", fork.Put(80, li))
		wantErr(t, "Put", fork.Put(81, call))
		wantErr(t, "Publish", fork.Pages().Publish(5, 1))
		h, _ := hart.Step(hart.New(80), fork, 0)
		if h.PC != 81 || h.R[r] != v {
			t.Errorf("behind an Li of %d: %v", v, h)
		}
		h, _ = hart.Step(h, fork, 0)
		if h.PC != v || h.Why != api.Running || !slices.Equal(h.Stack, []uint32{82}) {
			t.Errorf("behind a Call of %d: %v", v, h)
		}
	}
}

// wantErr holds an error against none.
func wantErr(t *testing.T, what string, err api.Errno) {
	t.Helper()
	if err != api.OK {
		t.Fatalf("%s: %d", what, int(err))
	}
}
