package hart

import (
	"fmt"
	"slices"
	"strconv"
	"strings"
	"testing"

	"budwood/api"
	"budwood/asm"
	"budwood/isa"
	"budwood/memory"
)

// slow is a hart as a model has it: numbers without ends, registers by their names.
type slow struct {
	h         api.Hart
	registers map[string]int64
}

// around brings a number into a word.
func around(n int64) uint32 {
	const all = int64(1) << 32
	return uint32((n%all + all) % all)
}

// signed tells a word as a number with a sign.
func signed(w int64) int64 {
	if w >= 1<<31 {
		return w - 1<<32
	}
	return w
}

// bitwise tells the word of whose bits each hangs on how many ones two words have at its place.
func bitwise(a, b int64, ones ...int64) int64 {
	sum := int64(0)
	for i := range 32 {
		if slices.Contains(ones, a>>i%2+b>>i%2) {
			sum += 1 << i
		}
	}
	return sum
}

// slowSum tells what an operation makes of two numbers.
func slowSum(mnemonic string, a, b int64) int64 {
	switch mnemonic {
	case "add":
		return a + b
	case "sub":
		return a - b
	case "and":
		return bitwise(a, b, 2)
	case "or":
		return bitwise(a, b, 1, 2)
	case "xor":
		return bitwise(a, b, 1)
	case "shl":
		for range b % 32 {
			a = a * 2 % (1 << 32)
		}
		return a
	case "shr":
		for range b % 32 {
			a = (a - a%2) / 2
		}
		return a
	}
	if signed(a) < signed(b) {
		return 1
	}
	return 0
}

// slowStep is a model of Step that reads instructions as lines.
func slowStep(h api.Hart, m *memory.Memory, epoch uint64) (api.Hart, Note) {
	h.Stack = slices.Clone(h.Stack)
	if m == nil || h.Why != 0 {
		return h, Note{}
	}
	w, owner, ok := m.Fetch(h.PC, h.Epoch)
	if !ok {
		h.Why = 2
		return h, Note{}
	}
	i, err := isa.Decode(w)
	if err != api.OK {
		h.Why = 3
		return h, Note{}
	}
	line, _ := asm.Print(i)
	s := slow{h, map[string]int64{}}
	for r := 1; r < 8; r++ {
		s.registers[fmt.Sprint("r", r)] = int64(h.R[r])
	}
	n := s.run(strings.Split(line, " "), m, owner, epoch)
	for r := 1; r < 8; r++ {
		s.h.R[r] = around(s.registers[fmt.Sprint("r", r)])
	}
	return s.h, n
}

// run does what a line's words say.
func (s *slow) run(words []string, m *memory.Memory, owner uint16, epoch uint64) Note {
	imm, _ := strconv.ParseInt(words[len(words)-1], 10, 64)
	var x, y, z int64
	for i, n := range []*int64{&x, &y, &z} {
		if i+1 < len(words) {
			*n = s.registers[words[i+1]]
		}
	}
	pc := s.h.PC
	s.h.PC = around(int64(pc) + 1)
	switch words[0] {
	case "halt":
		return s.trap(pc, 1)
	case "nop":
	case "li":
		s.registers[words[1]] = imm
	case "add", "sub", "and", "or", "xor", "shl", "shr", "lt":
		s.registers[words[1]] = slowSum(words[0], y, z)
	case "addi":
		s.registers[words[1]] = y + imm
	case "ld":
		w, ok := m.Load(around(y+imm), s.h.Epoch)
		if !ok {
			return s.trap(pc, 4)
		}
		s.registers[words[1]] = int64(w)
	case "st":
		if !m.Store(around(y+imm), around(x), s.h.Epoch, owner) {
			return s.trap(pc, 5)
		}
		return Note{Stored: true, At: around(y + imm), W: around(x)}
	default:
		return s.jump(words[0], x, y, imm, m, epoch)
	}
	return Note{}
}

// jump does what a line says that goes elsewhere; the PC is behind it.
func (s *slow) jump(mnemonic string, x, y, imm int64, m *memory.Memory, epoch uint64) Note {
	behind := int64(s.h.PC)
	pc := around(behind - 1)
	depth := len(s.h.Stack)
	gate := m.Gate(int(imm) / 8)
	switch {
	case mnemonic == "jmp", mnemonic == "beq" && x == y, mnemonic == "bne" && x != y:
		s.h.PC = around(behind + imm)
	case mnemonic == "call" && depth >= 16:
		return s.trap(pc, 6)
	case mnemonic == "call":
		s.h.Stack = append(s.h.Stack, around(behind))
		s.h.PC = around(imm)
	case mnemonic == "jr":
		s.h.PC = around(x)
	case mnemonic == "ret" && depth > 0:
		s.h.PC = s.h.Stack[depth-1]
		s.h.Stack = s.h.Stack[:depth-1]
	case mnemonic == "enter" && gate != 0:
		s.h.PC = around(int64(gate) + imm%8)
	case mnemonic == "enter" && depth > 0:
		return s.trap(pc, 2)
	case mnemonic == "safe" && depth > 0:
		return s.trap(pc, 6)
	case mnemonic == "ret", mnemonic == "safe", mnemonic == "enter":
		s.h.PC, s.h.Epoch = s.h.Home, epoch
		return Note{Safe: true}
	}
	return Note{}
}

// trap lets the hart stand still where it was.
func (s *slow) trap(pc uint32, why api.Cause) Note {
	s.h.PC, s.h.Why = pc, why
	return Note{}
}

// wantAsModel holds a step of a hart against the model's, in memories that are alike, and tells the hart and the note.
func wantAsModel(t *testing.T, what string, h api.Hart, m *memory.Memory, epoch uint64) (api.Hart, Note) {
	t.Helper()
	like, before := m.Fork(), words(m)
	got, n := Step(h, m, epoch)
	want, wantN := slowStep(h, like, epoch)
	wantStep(t, what, got, n, want, wantN)
	wantMemory(t, what, m, before, n)
	wantMemory(t, what, like, before, n)
	if n.Safe && len(got.Stack) > 0 || !n.Safe && got.Epoch != h.Epoch {
		t.Fatalf("%s: an epoch is announced: %+v, %+v", what, got, n)
	}
	return got, n
}

// TestAllSums is of all pairs of words, and of an operation's result in each register.
func TestAllSums(t *testing.T) {
	for op := api.Add; op <= api.Lt; op++ {
		for d := range uint8(8) {
			w, err := isa.Encode(api.Ins{Op: op, D: d, A: 5, B: 6})
			same, err2 := isa.Encode(api.Ins{Op: op, D: 3, A: d, B: d})
			if err != api.OK || err2 != api.OK {
				t.Fatalf("the operation %d has no word", op)
			}
			m := world(t, map[uint32]uint32{80: w, 81: same})
			for _, a := range someWords {
				for _, b := range someWords {
					h := api.Hart{PC: 80, R: registers(99, 1, 2, 3, 4, a, b, 7)}
					want, wantN := slowStep(h, m, 9)
					got, n := Step(h, m, 9)
					wantStep(t, fmt.Sprintf("%s of %d and %d", asm.Mnemonic(op), a, b), got, n, want, wantN)
				}
				h := api.Hart{PC: 81, R: registers(99, 1, 2, 3, 4, a, 6, 7)}
				h.R[d] = a
				want, wantN := slowStep(h, m, 9)
				got, n := Step(h, m, 9)
				wantStep(t, fmt.Sprintf("%s of %d and itself", asm.Mnemonic(op), a), got, n, want, wantN)
			}
		}
	}
}

// TestAllOperations holds steps of all operations, with many parts, against the model.
func TestAllOperations(t *testing.T) {
	imms := []int32{0, 1, -1, 7, 8, 63, 80, 96, 112, 128, 160, 176, 208, 1048575, -1048576}
	for op := api.Halt; op <= api.Enter; op++ {
		for _, d := range []uint8{0, 1, 5, 7} {
			for _, a := range []uint8{0, 5} {
				for _, imm := range imms {
					i := onlyUsed(api.Ins{Op: op, D: d, A: a, B: uint8(imm) % 8, Imm: imm})
					if w, err := isa.Encode(i); err == api.OK {
						wantInstruction(t, i, w)
					}
				}
			}
		}
	}
}

// onlyUsed tells an instruction with those parts alone that its operation uses.
func onlyUsed(i api.Ins) api.Ins {
	d, a, b, imm := isa.Uses(i.Op)
	if !d {
		i.D = 0
	}
	if !a {
		i.A = 0
	}
	if !b {
		i.B = 0
	}
	if !imm {
		i.Imm = 0
	}
	return i
}

// wantInstruction holds steps of one instruction, in each module that runs, against the model.
func wantInstruction(t *testing.T, i api.Ins, w uint32) {
	t.Helper()
	m := world(t, map[uint32]uint32{95: w, 112: w, 150: w})
	for _, pc := range []uint32{95, 112, 150} {
		for _, depth := range []int{0, 1, 16} {
			for _, epoch := range []uint64{4, 5} {
				for _, r := range [][8]uint32{{}, {99, 1, 2, 3, 4, 5, 6, 7}, {5, 100, 130, 0, 0, 170, 0, 0xffffffff}} {
					h := api.Hart{PC: pc, R: r, Stack: many(depth), Epoch: epoch, Home: 70}
					wantAsModel(t, fmt.Sprintf("%+v of %+v", i, h), h, m.Fork(), 6)
				}
			}
		}
	}
}

// luck tells numbers in an order that a short rule makes.
type luck uint64

func (l *luck) below(n int) int {
	*l = *l*6364136223846793005 + 1442695040888963407
	return int(uint64(*l>>33) % uint64(n))
}

// word tells a word: of an instruction that often does something, or any.
func (l *luck) word() uint32 {
	op := api.Op(l.below(22))
	if l.below(8) == 0 {
		op = api.St
	}
	imms := []int32{0, 1, -1, 2, -3, 8, 16, 63, int32(80 + l.below(16)), int32(96 + l.below(16)), int32(112 + l.below(64))}
	i := onlyUsed(api.Ins{Op: op, D: uint8(l.below(8)), A: uint8(l.below(8)), B: uint8(l.below(8)), Imm: imms[l.below(len(imms))]})
	w, err := isa.Encode(i)
	if err != api.OK || l.below(50) == 0 {
		return uint32(l.below(1 << 31))
	}
	return w
}

// TestLongRows runs harts through code that a short rule makes, side by side with the model.
func TestLongRows(t *testing.T) {
	l := luck(1)
	var causes [7]int
	safe, stores, deepest := 0, 0, 0
	for row := range 1000 {
		given := map[uint32]uint32{}
		for at := uint32(liveCode); at < staged; at++ {
			given[at] = l.word()
		}
		m := world(t, given)
		harts := []api.Hart{New(8), New(16), {PC: 80}, {PC: 112, Home: 32}, {PC: 150, Home: 24, Epoch: 4}}
		for step := range 60 {
			i := l.below(len(harts))
			h, n := wantAsModel(t, fmt.Sprintf("the row %d, the step %d, the hart %d", row, step, i), harts[i], m, uint64(4+step/30))
			harts[i] = h
			if n.Safe {
				safe++
			}
			if n.Stored {
				stores++
			}
			deepest = max(deepest, len(h.Stack))
		}
		for _, h := range harts {
			causes[h.Why]++
		}
	}
	// Rows in which some thing never happens would tell nothing of it.
	if slices.Contains(causes[:6], 0) || safe < 100 || stores < 100 || deepest < 4 {
		t.Errorf("causes %v, %d safepoints, %d stores, %d calls deep", causes, safe, stores, deepest)
	}
}
