package hart

import (
	"fmt"
	"math"
	"slices"
	"testing"

	"budwood/api"
	"budwood/asm"
	"budwood/isa"
	"budwood/memory"
)

// someWords has words at both ends, around the ends of five bits and of signs, and some between.
var someWords = []uint32{
	0, 1, 2, 3, 7, 30, 31, 32, 33, 63, 64, 80, 0x55555555, 0x7ffffffe, 0x7fffffff,
	0x80000000, 0x80000001, 0xaaaaaaaa, 0xffffffe0, 0xffffffe1, 0xfffffffe, 0xffffffff,
}

// someEpochs has epochs at both ends, and some around the epoch at which a module of these tests retires.
var someEpochs = []uint64{0, 1, 4, 5, 6, api.MaxEpoch, math.MaxUint64}

// The memory of these tests: the module 1 is live, with code from 80 on and data from 96 on; so is the module 2, with code from 112 on and data from 128 on; the module 3 retires at the epoch 5, with code from 144 on and data from 160 on; the module 4 is staged, with words from 176 on; the page from 192 on is free; beyond 207 there is nothing.
const (
	liveCode, liveData         = 80, 96
	otherCode, otherData       = 112, 128
	retiringCode, retiringData = 144, 160
	staged, free, end          = 176, 192, 208
)

// gates has where the gates of these tests lead: the first one nowhere, the last one so far that a slot's number goes over the end.
var gates = [8]uint32{0, 80, 112, 96, 144, 1, 5000, 0xfffffffc}

// moduleAt tells what module has a page of these tests by its number; 0 of none.
func moduleAt(page int) uint16 {
	return []uint16{1, 1, 2, 2, 3, 3, 4, 0}[page]
}

// world tells the memory of these tests: where nothing is given, the word at an address is a thousand times the address.
func world(t *testing.T, given map[uint32]uint32) *memory.Memory {
	t.Helper()
	m := memory.New(8)
	p := m.Pages()
	var errs []api.Errno
	for i, n := range []int{2, 2, 2, 1} {
		errs = append(errs, p.Stage(2*i, n, uint16(i+1)))
	}
	for at := uint32(liveCode); at < free; at++ {
		w, ok := given[at]
		if !ok {
			w = at * 1000
		}
		errs = append(errs, m.Put(at, w))
	}
	errs = append(errs, p.Publish(1, 1), p.Publish(2, 1), p.Publish(3, 1), p.Retire(3, 5))
	for g, base := range gates {
		errs = append(errs, m.SetGate(g, base))
	}
	for _, err := range errs {
		if err != api.OK {
			t.Fatalf("the memory of these tests can't be made: %d", int(err))
		}
	}
	return m
}

// with tells the memory of these tests with the words of a text of lines from an address on.
func with(t *testing.T, at uint32, lines string) *memory.Memory {
	t.Helper()
	words, line, err := asm.Assemble(lines)
	if err != api.OK {
		t.Fatalf("%q: the line %d has the error %d", lines, line, int(err))
	}
	given := map[uint32]uint32{}
	for i, w := range words {
		given[at+uint32(i)] = w
	}
	return world(t, given)
}

// parts tells all that a hart has, as a list.
func parts(h api.Hart) []uint64 {
	l := []uint64{uint64(h.PC), uint64(h.Why), h.Epoch, uint64(h.Home)}
	for _, r := range h.R {
		l = append(l, uint64(r))
	}
	for _, s := range h.Stack {
		l = append(l, uint64(s))
	}
	return l
}

// wantStep holds what a step tells against what it should.
func wantStep(t *testing.T, what string, h api.Hart, n Note, wantH api.Hart, wantN Note) {
	t.Helper()
	if !slices.Equal(parts(h), parts(wantH)) || n != wantN {
		t.Fatalf("%s: %+v, %+v, want %+v, %+v", what, h, n, wantH, wantN)
	}
}

// words tells all words of a memory.
func words(m *memory.Memory) []uint32 {
	l := make([]uint32, m.Size())
	for at := range l {
		l[at] = m.Peek(uint32(at))
	}
	return l
}

// wantMemory holds a memory against the words that it had, gates among them, and what a note tells of a store.
func wantMemory(t *testing.T, what string, m *memory.Memory, before []uint32, n Note) {
	t.Helper()
	want := slices.Clone(before)
	if n.Stored {
		if int64(n.At) >= int64(len(want)) {
			t.Fatalf("%s: a store at %d", what, n.At)
		}
		want[n.At] = n.W
	}
	if got := words(m); !slices.Equal(got, want) {
		t.Fatalf("%s: the words are %v, want %v", what, got, want)
	}
}

// registers tells registers of which the first ones have the words that are given.
func registers(w ...uint32) [8]uint32 {
	var r [8]uint32
	copy(r[:], w)
	return r
}

// many tells a stack of n words.
func many(n int) []uint32 {
	var l []uint32
	for i := range n {
		l = append(l, uint32(500+i))
	}
	return l
}

func TestExample(t *testing.T) {
	m := memory.New(0)
	h, n := Step(New(5), m, 3)
	wantStep(t, "a slot without a module", h, n, api.Hart{PC: 5, Home: 5, Epoch: 3}, Note{Safe: true})
	h, n = Step(api.Hart{PC: 70}, m, 3)
	wantStep(t, "a PC at a gate", h, n, api.Hart{PC: 70, Why: api.BadFetch}, Note{})
}

func TestNew(t *testing.T) {
	for _, home := range someWords {
		want := api.Hart{PC: home, Home: home}
		if got := New(home); !slices.Equal(parts(got), parts(want)) || len(got.Stack) != 0 {
			t.Errorf("New(%d) = %+v", home, got)
		}
	}
}

// TestSums is of what operations put into registers: r1 and r2 are given, r3 becomes what is asked for.
func TestSums(t *testing.T) {
	for _, c := range []struct {
		line    string
		a, b, d uint32
	}{
		{"add r3 r1 r2", 5, 7, 12},
		{"add r3 r1 r2", 0xffffffff, 1, 0},
		{"add r3 r1 r2", 0x80000000, 0x80000001, 1},
		{"add r3 r1 r1", 5, 7, 10},
		{"add r3 r1 r0", 5, 7, 5},
		{"sub r3 r1 r2", 7, 5, 2},
		{"sub r3 r1 r2", 5, 7, 0xfffffffe},
		{"sub r3 r0 r2", 5, 7, 0xfffffff9},
		{"and r3 r1 r2", 12, 10, 8},
		{"and r3 r1 r2", 0xffffffff, 0x80000001, 0x80000001},
		{"or r3 r1 r2", 12, 10, 14},
		{"or r3 r1 r2", 0x80000000, 1, 0x80000001},
		{"xor r3 r1 r2", 12, 10, 6},
		{"xor r3 r1 r2", 0xffffffff, 0x80000001, 0x7ffffffe},
		{"shl r3 r1 r2", 5, 0, 5},
		{"shl r3 r1 r2", 5, 1, 10},
		{"shl r3 r1 r2", 3, 31, 0x80000000},
		{"shl r3 r1 r2", 5, 32, 5},
		{"shl r3 r1 r2", 5, 33, 10},
		{"shl r3 r1 r2", 5, 0xffffffe1, 10},
		{"shr r3 r1 r2", 5, 0, 5},
		{"shr r3 r1 r2", 5, 1, 2},
		{"shr r3 r1 r2", 0x80000000, 1, 0x40000000},
		{"shr r3 r1 r2", 0xffffffff, 31, 1},
		{"shr r3 r1 r2", 0xffffffff, 32, 0xffffffff},
		{"shr r3 r1 r2", 5, 0xffffffe1, 2},
		{"lt r3 r1 r2", 5, 7, 1},
		{"lt r3 r1 r2", 7, 5, 0},
		{"lt r3 r1 r2", 5, 5, 0},
		{"lt r3 r1 r2", 0xffffffff, 0, 1},
		{"lt r3 r1 r2", 0, 0xffffffff, 0},
		{"lt r3 r1 r2", 0x80000000, 0x7fffffff, 1},
		{"lt r3 r1 r2", 0x7fffffff, 0x80000000, 0},
		{"lt r3 r1 r2", 0x80000000, 0xffffffff, 1},
		{"addi r3 r1 5", 7, 0, 12},
		{"addi r3 r1 -5", 7, 0, 2},
		{"addi r3 r1 -8", 7, 0, 0xffffffff},
		{"addi r3 r1 1048575", 0xffffffff, 0, 1048574},
		{"addi r3 r1 -1048576", 0, 0, 0xfff00000},
		{"addi r3 r0 9", 7, 0, 9},
		{"li r3 0", 7, 0, 0},
		{"li r3 5", 7, 0, 5},
		{"li r3 -1", 7, 0, 0xffffffff},
		{"li r3 1048575", 7, 0, 1048575},
		{"li r3 -1048576", 7, 0, 0xfff00000},
	} {
		m := with(t, 80, c.line)
		before := words(m)
		start := api.Hart{PC: 80, R: registers(0, c.a, c.b, 99, 98), Stack: []uint32{5}, Epoch: 2, Home: 3}
		want := start
		want.PC, want.R[3] = 81, c.d
		what := fmt.Sprintf("%s of %d and %d", c.line, c.a, c.b)
		h, n := Step(start, m, 9)
		wantStep(t, what, h, n, want, Note{})
		wantMemory(t, what, m, before, n)
	}
}

// TestRegisterNought is of the register 0: what is put there is lost, and 0 is read, whatever a hart has there.
func TestRegisterNought(t *testing.T) {
	for _, line := range []string{"li r0 5", "add r0 r1 r2", "sub r0 r1 r2", "and r0 r1 r2", "or r0 r1 r2", "xor r0 r1 r2", "shl r0 r1 r2", "shr r0 r1 r2", "lt r0 r2 r1", "addi r0 r1 5", "ld r0 r1 8"} {
		for _, nought := range []uint32{0, 77} {
			start := api.Hart{PC: 80, R: registers(nought, 5, 3)}
			want := start
			want.PC = 81
			h, n := Step(start, with(t, 80, line), 9)
			wantStep(t, line, h, n, want, Note{})
		}
	}
	for _, c := range []struct {
		line string
		want api.Hart
		note Note
	}{
		{"add r3 r0 r0", api.Hart{PC: 81}, Note{}},
		{"addi r3 r0 0", api.Hart{PC: 81}, Note{}},
		{"beq r0 r3 5", api.Hart{PC: 86}, Note{}},
		{"bne r0 r3 5", api.Hart{PC: 81}, Note{}},
		{"beq r3 r0 5", api.Hart{PC: 86}, Note{}},
		{"jr r0", api.Hart{PC: 0}, Note{}},
		{"st r0 r0 97", api.Hart{PC: 81}, Note{Stored: true, At: 97, W: 0}},
	} {
		c.want.R = registers(77)
		h, n := Step(api.Hart{PC: 80, R: registers(77)}, with(t, 80, c.line), 9)
		wantStep(t, c.line, h, n, c.want, c.note)
	}
	h, n := Step(api.Hart{PC: 80, R: registers(77, 0, 0, 55)}, with(t, 80, "ld r3 r0 0"), 9)
	wantStep(t, "ld r3 r0 0", h, n, api.Hart{PC: 81, R: registers(77, 0, 0, 21<<27)}, Note{})
}

// TestFetch is of the words that may be run: those of slots, and of code that is live, or retires later than the hart's epoch.
func TestFetch(t *testing.T) {
	nop, _ := isa.Encode(api.Ins{Op: api.Nop})
	given := map[uint32]uint32{}
	for at := uint32(liveCode); at < free; at++ {
		given[at] = nop
	}
	m := world(t, given)
	before := words(m)
	for _, at := range []uint32{63, 64, 65, 70, 71, 72, 79, 80, 81, 95, 96, 111, 112, 127, 128, 143, 144, 159, 160, 175, 176, 191, 192, 207, 208, 5000, 1 << 31, 1<<31 + 80, 1<<32 - 16, 1<<32 - 1} {
		for _, epoch := range someEpochs {
			for _, machines := range someEpochs {
				start := api.Hart{PC: at, R: registers(0, 5), Stack: []uint32{9}, Epoch: epoch, Home: 4}
				want := start
				switch {
				case at < 64:
					want.PC = 3 // the last gate leads to 4 below the end
				case at >= liveCode && at < liveData, at >= otherCode && at < otherData, at >= retiringCode && at < retiringData && epoch < 5:
					want.PC = at + 1
				default:
					want.Why = api.BadFetch
				}
				what := fmt.Sprintf("a fetch at %d by the epoch %d", at, epoch)
				h, n := Step(start, m, machines)
				wantStep(t, what, h, n, want, Note{})
			}
		}
	}
	wantMemory(t, "behind all fetches", m, before, Note{})
}

func TestBadWord(t *testing.T) {
	for _, w := range []uint32{
		1, 0x01000000, 0x00200000, 0x08000001, 0x10200000, 0x18000008, 0x19400013, 0x70200000, 0x71000000, 0x88100000, 0x881fffff,
		0x90000001, 0x98000001, 0x99000000, 0xa0000001, 0xa8000040, 0xa81fffff, 0xa9000000, 0xb0000000, 0xf8000000, 0xffffffff,
	} {
		if _, err := isa.Decode(w); err == api.OK {
			t.Fatalf("%x is a word of an instruction", w)
		}
		for _, stack := range [][]uint32{nil, many(1), many(16)} {
			m := world(t, map[uint32]uint32{81: w})
			before := words(m)
			start := api.Hart{PC: 81, R: registers(0, 5), Stack: stack, Epoch: 2, Home: 4}
			want := start
			want.Why = api.BadWord
			what := fmt.Sprintf("the word %x", w)
			h, n := Step(start, m, 9)
			wantStep(t, what, h, n, want, Note{})
			wantMemory(t, what, m, before, n)
		}
	}
	m := world(t, map[uint32]uint32{100: 1, 180: 1})
	for _, at := range []uint32{100, 180} {
		h, n := Step(api.Hart{PC: at}, m, 0)
		wantStep(t, "a wrong word that may not be run", h, n, api.Hart{PC: at, Why: api.BadFetch}, Note{})
	}
}

func TestHaltAndNop(t *testing.T) {
	for _, stack := range [][]uint32{nil, many(1), many(16)} {
		start := api.Hart{PC: 90, R: registers(1, 2, 3, 4, 5, 6, 7, 8), Stack: stack, Epoch: 3, Home: 7}
		want := start
		want.Why = api.Halted
		h, n := Step(start, with(t, 90, "halt"), 9)
		wantStep(t, "halt", h, n, want, Note{})
		want = start
		want.PC = 91
		h, n = Step(start, with(t, 90, "nop"), 9)
		wantStep(t, "nop", h, n, want, Note{})
	}
}

// readable tells whether a hart that has announced an epoch may read at an address.
func readable(at uint32, epoch uint64) bool {
	return at < retiringCode || at >= retiringCode && at < staged && epoch < 5
}

func TestLd(t *testing.T) {
	m := with(t, 80, "ld r3 r1 0\nld r3 r1 -7\nld r3 r1 9\nld r1 r1 0\nld r0 r1 0\nld r3 r1 1048575\nld r3 r1 -1048576")
	before := words(m)
	loads := []struct {
		into   int
		offset uint32
	}{{3, 0}, {3, 0xfffffff9}, {3, 9}, {1, 0}, {0, 0}, {3, 1048575}, {3, 0xfff00000}}
	for i, load := range loads {
		for at := range uint32(end + 40) {
			wantLd(t, m, 80+uint32(i), load.into, at-load.offset, at)
		}
		for _, at := range []uint32{4175, 4176, 1 << 20, 1<<31 + 100, 1<<32 - 16, 1<<32 - 1} {
			wantLd(t, m, 80+uint32(i), load.into, at-load.offset, at)
		}
	}
	wantMemory(t, "behind all loads", m, before, Note{})
}

// wantLd holds a load at pc against what it should do: its register r1 has base, so that it reads at an address.
func wantLd(t *testing.T, m *memory.Memory, pc uint32, into int, base, at uint32) {
	t.Helper()
	for _, epoch := range someEpochs {
		for _, machines := range []uint64{0, 9} {
			start := api.Hart{PC: pc, R: registers(0, base, 2, 3), Epoch: epoch, Home: 7}
			want := start
			if readable(at, epoch) {
				want.PC++
				if into != 0 {
					want.R[into] = m.Peek(at)
				}
			} else {
				want.Why = api.BadLoad
			}
			h, n := Step(start, m, machines)
			wantStep(t, fmt.Sprintf("a load at %d by the epoch %d", at, epoch), h, n, want, Note{})
		}
	}
}

// writable tells whether a module's code, run by a hart that has announced an epoch, may write at an address.
func writable(at uint32, epoch uint64, module uint16) bool {
	switch module {
	case 1:
		return at >= liveData && at < otherCode
	case 2:
		return at >= otherData && at < retiringCode
	case 3:
		return at >= retiringData && at < staged && epoch < 5
	}
	return false
}

func TestSt(t *testing.T) {
	lines := "st r2 r1 0\nst r2 r1 -7\nst r2 r1 9\nst r1 r1 0\nst r2 r1 1048575\nst r2 r1 -1048576"
	offsets := []uint32{0, 0xfffffff9, 9, 0, 1048575, 0xfff00000}
	for _, code := range []uint32{liveCode, otherCode, retiringCode} {
		m := with(t, code, lines)
		for i, offset := range offsets {
			for at := range uint32(end + 20) {
				wantSt(t, m, code+uint32(i), at-offset, at, i == 3)
			}
			for _, at := range []uint32{4175, 4176, 1 << 20, 1<<31 + 100, 1<<32 - 16, 1<<32 - 1} {
				wantSt(t, m, code+uint32(i), at-offset, at, i == 3)
			}
		}
	}
}

// wantSt holds a store at pc against what it should do: its register r1 has base, so that it writes at an address; what it writes is r2, or the base itself.
func wantSt(t *testing.T, m *memory.Memory, pc, base, at uint32, itself bool) {
	t.Helper()
	module := moduleAt(memory.PageOf(pc))
	for _, epoch := range []uint64{0, 4, 5, 6} {
		if module == 3 && epoch >= 5 {
			continue
		}
		for _, w := range []uint32{0, at, 0xffffffff} {
			start := api.Hart{PC: pc, R: registers(77, base, w), Stack: many(2), Epoch: epoch, Home: 7}
			want, note := start, Note{}
			if itself {
				w = base
			}
			if writable(at, epoch, module) {
				want.PC++
				note = Note{Stored: true, At: at, W: w}
			} else {
				want.Why = api.BadStore
			}
			what := fmt.Sprintf("a store at %d by the epoch %d, of the module %d", at, epoch, module)
			before := words(m)
			h, n := Step(start, m, 9)
			wantStep(t, what, h, n, want, note)
			wantMemory(t, what, m, before, note)
		}
	}
}

func TestJumps(t *testing.T) {
	for _, c := range []struct {
		line string
		a, d uint32
		to   uint32
	}{
		{"jmp 0", 0, 0, 91},
		{"jmp 5", 0, 0, 96},
		{"jmp -1", 0, 0, 90},
		{"jmp -91", 0, 0, 0},
		{"jmp -92", 0, 0, 0xffffffff},
		{"jmp 1048575", 0, 0, 1048666},
		{"jmp -1048576", 0, 0, 0xfff0005b},
		{"jr r1", 5, 0, 5},
		{"jr r1", 90, 0, 90},
		{"jr r1", 0xffffffff, 0, 0xffffffff},
		{"jr r1", 0, 0, 0},
		{"jr r2", 0, 6, 6},
		{"beq r2 r1 5", 7, 7, 96},
		{"beq r2 r1 5", 7, 8, 91},
		{"beq r2 r1 5", 7, 0x80000007, 91},
		{"beq r2 r1 -1", 0xffffffff, 0xffffffff, 90},
		{"beq r2 r1 -92", 0, 0, 0xffffffff},
		{"beq r2 r0 5", 7, 0, 96},
		{"beq r1 r1 1048575", 7, 0, 1048666},
		{"bne r2 r1 5", 7, 7, 91},
		{"bne r2 r1 5", 7, 8, 96},
		{"bne r2 r1 5", 7, 0x80000007, 96},
		{"bne r2 r1 -1", 0, 0xffffffff, 90},
		{"bne r2 r1 -92", 0, 1, 0xffffffff},
		{"bne r0 r1 5", 7, 0, 96},
		{"bne r1 r1 5", 7, 0, 91},
	} {
		for _, stack := range [][]uint32{nil, many(1), many(16)} {
			start := api.Hart{PC: 90, R: registers(0, c.a, c.d), Stack: stack, Epoch: 2, Home: 4}
			want := start
			want.PC = c.to
			h, n := Step(start, with(t, 90, c.line), 9)
			wantStep(t, fmt.Sprintf("%s of %d and %d", c.line, c.a, c.d), h, n, want, Note{})
		}
	}
}

func TestCall(t *testing.T) {
	for _, to := range []uint32{0, 5, 80, 112, 5000, 1048575} {
		m := with(t, 90, fmt.Sprintf("call %d", to))
		for n := range 20 {
			start := api.Hart{PC: 90, R: registers(0, 5), Stack: many(n), Epoch: 2, Home: 4}
			want := start
			if n < 16 {
				want.PC, want.Stack = to, append(many(n), 91)
			} else {
				want.Why = api.BadStack
			}
			h, note := Step(start, m, 9)
			wantStep(t, fmt.Sprintf("call %d with a stack of %d", to, n), h, note, want, Note{})
		}
	}
}

func TestRet(t *testing.T) {
	m := with(t, 90, "ret")
	for n := 1; n < 20; n++ {
		for _, to := range someWords {
			start := api.Hart{PC: 90, R: registers(0, 5), Stack: append(many(n-1), to), Epoch: 2, Home: 4}
			want := start
			want.PC, want.Stack = to, many(n-1)
			h, note := Step(start, m, 9)
			wantStep(t, fmt.Sprintf("ret with a stack of %d", n), h, note, want, Note{})
		}
	}
}

// TestSafepoints is of the instructions by which a hart passes a safepoint, and of what they do inside a call.
func TestSafepoints(t *testing.T) {
	for _, line := range []string{"safe", "ret", "enter 0", "enter 7"} {
		m := with(t, 90, line)
		for _, home := range []uint32{0, 5, 90, 5000, 0xffffffff} {
			for _, stack := range [][]uint32{nil, {}, make([]uint32, 0, 5)} {
				for _, epoch := range someEpochs {
					for _, machines := range someEpochs {
						start := api.Hart{PC: 90, R: registers(0, 5, 6), Stack: stack, Epoch: epoch, Home: home}
						want := start
						want.PC, want.Epoch = home, machines
						h, n := Step(start, m, machines)
						wantStep(t, line, h, n, want, Note{Safe: true})
					}
				}
			}
		}
	}
	for line, why := range map[string]api.Cause{"safe": api.BadStack, "enter 0": api.BadFetch, "enter 7": api.BadFetch} {
		m := with(t, 90, line)
		for n := 1; n < 20; n++ {
			start := api.Hart{PC: 90, R: registers(0, 5, 6), Stack: many(n), Epoch: 2, Home: 4}
			want := start
			want.Why = why
			h, note := Step(start, m, 9)
			wantStep(t, fmt.Sprintf("%s with a stack of %d", line, n), h, note, want, Note{})
		}
	}
}

// TestEnter goes through all slots, from each slot itself and from code.
func TestEnter(t *testing.T) {
	for slot := range uint32(64) {
		m := with(t, 90, fmt.Sprintf("enter %d", slot))
		before := words(m)
		for _, at := range []uint32{slot, 90} {
			for _, stack := range [][]uint32{nil, many(1), many(16)} {
				start := api.Hart{PC: at, R: registers(0, 5), Stack: stack, Epoch: 2, Home: 4}
				want, note := start, Note{}
				switch base := gates[slot/8]; {
				case base != 0:
					want.PC = uint32((uint64(base) + uint64(slot%8)) % (1 << 32))
				case len(stack) == 0:
					want.PC, want.Epoch, note = 4, 9, Note{Safe: true}
				default:
					want.Why = api.BadFetch
				}
				what := fmt.Sprintf("the slot %d, from %d", slot, at)
				h, n := Step(start, m, 9)
				wantStep(t, what, h, n, want, note)
				wantMemory(t, what, m, before, n)
			}
		}
	}
}

// TestStandsStill is of harts that stand still for any cause, and of no memory: nothing is done.
func TestStandsStill(t *testing.T) {
	lines := []string{"halt", "nop", "li r1 5", "add r1 r1 r2", "ld r1 r0 96", "st r2 r0 96", "jmp 5", "beq r1 r1 5", "call 5", "ret", "jr r2", "safe", "enter 0", "enter 8", "word ffffffff"}
	for _, line := range lines {
		m := with(t, 90, line)
		before := words(m)
		for _, stack := range [][]uint32{nil, many(1), many(16)} {
			start := api.Hart{PC: 90, R: registers(77, 5, 6), Stack: stack, Epoch: 2, Home: 4}
			for why := range 256 {
				start.Why = api.Cause(why)
				h, n := Step(start, nil, 9)
				wantStep(t, "no memory: "+line, h, n, start, Note{})
				if why == 0 {
					continue
				}
				h, n = Step(start, m, 9)
				wantStep(t, fmt.Sprintf("the cause %d: %s", why, line), h, n, start, Note{})
			}
		}
		wantMemory(t, "behind what stands still: "+line, m, before, Note{})
	}
	h, n := Step(api.Hart{PC: 70, Why: api.Halted}, memory.New(0), 9)
	wantStep(t, "a halted hart where nothing is fetched", h, n, api.Hart{PC: 70, Why: api.Halted}, Note{})
}

// TestStoppedStays goes on with harts that have stopped: no later step changes them.
func TestStoppedStays(t *testing.T) {
	for line, why := range map[string]api.Cause{
		"halt": api.Halted, "jmp 200": api.BadFetch, "word ffffffff": api.BadWord, "ld r1 r0 208": api.BadLoad,
		"st r1 r0 80": api.BadStore, "call 90": api.BadStack, "enter 3": api.BadFetch,
	} {
		m := with(t, 90, line)
		h := api.Hart{PC: 90, Stack: many(15)}
		for range 3 {
			h, _ = Step(h, m, 9)
		}
		if h.Why != why {
			t.Errorf("%s: %+v", line, h)
		}
		again, n := Step(h, m, 10)
		wantStep(t, "one more step: "+line, again, n, h, Note{})
	}
}

func TestSame(t *testing.T) {
	base := func() api.Hart {
		return api.Hart{PC: 1, R: registers(2, 3, 4, 5, 6, 7, 8, 9), Stack: []uint32{10, 11}, Why: api.BadLoad, Epoch: 12, Home: 13}
	}
	if !Same(base(), base()) || !Same(api.Hart{}, api.Hart{}) {
		t.Error("a hart is not the same as itself")
	}
	others := map[string]func(h *api.Hart){
		"PC":            func(h *api.Hart) { h.PC++ },
		"PC, far":       func(h *api.Hart) { h.PC += 1 << 31 },
		"Why":           func(h *api.Hart) { h.Why = api.Running },
		"Why, far":      func(h *api.Hart) { h.Why += 128 },
		"Epoch":         func(h *api.Hart) { h.Epoch++ },
		"Epoch, far":    func(h *api.Hart) { h.Epoch += 1 << 32 },
		"Home":          func(h *api.Hart) { h.Home++ },
		"no Stack":      func(h *api.Hart) { h.Stack = nil },
		"less Stack":    func(h *api.Hart) { h.Stack = h.Stack[:1] },
		"the rest":      func(h *api.Hart) { h.Stack = h.Stack[1:] },
		"more Stack":    func(h *api.Hart) { h.Stack = append(h.Stack, 0) },
		"Stack's first": func(h *api.Hart) { h.Stack[0]++ },
		"Stack's last":  func(h *api.Hart) { h.Stack[1]++ },
		"Stack turned":  func(h *api.Hart) { h.Stack[0], h.Stack[1] = h.Stack[1], h.Stack[0] },
	}
	for i := range 8 {
		others[fmt.Sprintf("the register %d", i)] = func(h *api.Hart) { h.R[i]++ }
	}
	for name, change := range others {
		h := base()
		change(&h)
		if Same(h, base()) || Same(base(), h) {
			t.Errorf("two harts are the same that differ in %s", name)
		}
		if !Same(h, h) {
			t.Errorf("%s: a hart is not the same as itself", name)
		}
	}
	if !Same(api.Hart{}, api.Hart{Stack: []uint32{}}) || !Same(api.Hart{Stack: make([]uint32, 0, 5)}, api.Hart{}) {
		t.Error("an empty stack is not the same as none")
	}
	h := api.Hart{PC: 1, Home: 2}
	if Same(h, api.Hart{PC: 2, Home: 1}) {
		t.Error("PC and Home may change places")
	}
}

// wantOwnStack looks whether a hart that was told of another one has a stack of its own, its spare room, too.
func wantOwnStack(t *testing.T, what string, room []uint32, told api.Hart) {
	t.Helper()
	before := slices.Clone(room)
	all := told.Stack[:cap(told.Stack)]
	for i := range all {
		all[i] = 12345
	}
	_ = append(told.Stack, 23456)
	if !slices.Equal(room, before) {
		t.Errorf("%s: the stack is not the answer's own: %v, was %v", what, room, before)
	}
	for i := range room {
		room[i] = 34567
	}
	if slices.Contains(all, 34567) {
		t.Errorf("%s: the stack is not the answer's own: %v", what, told.Stack)
	}
}

func TestCopy(t *testing.T) {
	for n := range 20 {
		for _, spare := range []int{0, 1, 9} {
			room := many(n + spare)
			h := api.Hart{PC: 1, R: registers(2, 3, 4, 5, 6, 7, 8, 9), Stack: room[:n], Why: api.BadLoad, Epoch: 12, Home: 13}
			c := Copy(h)
			wantStep(t, "Copy", c, Note{}, h, Note{})
			if !slices.Equal(c.Stack, many(n)) || !Same(h, c) {
				t.Errorf("Copy(%+v) = %+v", h, c)
			}
			wantOwnStack(t, "Copy", room, c)
		}
	}
	if c := Copy(api.Hart{}); len(c.Stack) != 0 || !Same(c, api.Hart{}) {
		t.Errorf("Copy of none = %+v", c)
	}
}

// TestStepsStackIsItsOwn is of all ways in which a step may end.
func TestStepsStackIsItsOwn(t *testing.T) {
	for _, line := range []string{"halt", "nop", "li r1 5", "add r1 r1 r2", "ld r1 r0 96", "ld r1 r0 500", "st r2 r0 96", "st r2 r0 500", "jmp 5", "beq r1 r1 5", "bne r1 r1 5", "call 5", "ret", "jr r2", "safe", "enter 0", "enter 8", "word ffffffff"} {
		for _, n := range []int{0, 1, 2, 15, 16, 17} {
			for _, spare := range []int{0, 1, 9} {
				for _, why := range []api.Cause{api.Running, api.Halted} {
					m := with(t, 90, line)
					for pc, m := range map[uint32]*memory.Memory{90: m, 70: m, 91: nil} {
						room := many(n + spare)
						h, _ := Step(api.Hart{PC: pc, Stack: room[:n], Why: why}, m, 9)
						if !slices.Equal(room, many(n+spare)) {
							t.Errorf("%s changes the stack that it is given: %v", line, room)
						}
						wantOwnStack(t, line, room, h)
					}
				}
			}
		}
	}
}

// TestArgumentsStay looks whether a step leaves the hart that it is given.
func TestArgumentsStay(t *testing.T) {
	m := with(t, 80, "li r1 5\ncall 80")
	start := api.Hart{PC: 80, R: registers(1, 2), Stack: many(3), Epoch: 1, Home: 2}
	before := parts(start)
	first, _ := Step(start, m, 9)
	second, _ := Step(first, m, 9)
	if !slices.Equal(parts(start), before) || first.PC != 81 || len(first.Stack) != 3 || len(second.Stack) != 4 {
		t.Errorf("%+v, %+v, %+v", start, first, second)
	}
}

// TestProgram runs a module that adds up the numbers 1 to 5 by a call that calls itself, stores the sum, and comes home.
func TestProgram(t *testing.T) {
	m := with(t, 80, "li r1 5\nli r2 0\ncall 85\nst r2 r0 96\nret\nbeq r1 r0 3\nadd r2 r2 r1\naddi r1 r1 -1\ncall 85\nret")
	h := New(8)
	steps, safe, stores := 0, 0, 0
	for safe == 0 && steps < 100 {
		var n Note
		h, n = Step(h, m, 7)
		steps++
		if n.Safe {
			safe++
		}
		if n.Stored {
			stores++
			if n.At != 96 || n.W != 15 {
				t.Errorf("%+v", n)
			}
		}
	}
	want := api.Hart{PC: 8, R: registers(0, 0, 15), Epoch: 7, Home: 8}
	wantStep(t, "the program", h, Note{}, want, Note{})
	// Enter, two numbers and a call; four instructions for each number, and a branch; a ret for each call; a store and a ret.
	if steps != 4+5*4+1+6+2 || stores != 1 || m.Peek(96) != 15 {
		t.Errorf("%d steps, %d stores, %d", steps, stores, m.Peek(96))
	}
}

// TestDeepCalls calls itself without an end: the seventeenth call is refused.
func TestDeepCalls(t *testing.T) {
	m := with(t, 80, "addi r1 r1 1\ncall 80")
	h := api.Hart{PC: 80}
	for range 100 {
		h, _ = Step(h, m, 9)
	}
	want := api.Hart{PC: 81, R: registers(0, 17), Why: api.BadStack}
	for range 16 {
		want.Stack = append(want.Stack, 82)
	}
	wantStep(t, "calls without an end", h, Note{}, want, Note{})
}
