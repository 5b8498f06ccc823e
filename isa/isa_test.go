package isa

import (
	"math"
	"strings"
	"testing"

	"budwood/api"
)

// uses has the parts that each operation uses, by its number: I stands for Imm.
var uses = []string{
	"", "", "DI", "DAB", "DAB", "DAB", "DAB", "DAB", "DAB", "DAB", "DAB",
	"DAI", "DAI", "DAI", "I", "DAI", "DAI", "I", "", "A", "", "I",
}

// sampleRegisters has the numbers of registers at their ends, and such as are none.
var sampleRegisters = []uint8{0, 1, 2, 3, 4, 6, 7, 8, 9, 15, 16, 128, 255}

// sampleImms has numbers at the ends of slots, of registers and of 21 bits, and such as are beyond.
var sampleImms = []int32{
	0, 1, 2, 5, 7, 8, 62, 63, 64, 65, 79, 80, 0x7ffff, 0x80000, 0xffffe, 0xfffff, 0x100000, 0x100001,
	0x1fffff, 0x200000, 0x200001, 0xffffff, 0x40000000, math.MaxInt32 - 1, math.MaxInt32,
	-1, -2, -3, -63, -64, -65, -0x80000, -0xfffff, -0x100000, -0x100001, -0x1fffff, -0x200000, -0x200001, math.MinInt32 + 1, math.MinInt32,
}

// sampleAddresses has addresses at the ends of pages and of words.
var sampleAddresses = []uint32{0, 1, 2, 10, 63, 64, 79, 80, 95, 0xfffff, 0x100000, 0x7fffffff, 0x80000000, 0xfff00000, 0xfffffffe, 0xffffffff}

// used tells whether an operation uses a part.
func used(op api.Op, part string) bool {
	return int(op) < len(uses) && strings.Contains(uses[op], part)
}

// slowCheck is a model of Check.
func slowCheck(i api.Ins) api.Errno {
	if int(i.Op) >= len(uses) {
		return api.ErrWord
	}
	for part, n := range map[string]int64{"D": int64(i.D), "A": int64(i.A), "B": int64(i.B)} {
		if n > 7 || n != 0 && !used(i.Op, part) {
			return api.ErrWord
		}
	}
	least, most := -1048576.0, 1048575.0
	switch {
	case !used(i.Op, "I"):
		if i.Imm != 0 {
			return api.ErrWord
		}
	case i.Op == 17:
		least = 0
	case i.Op == 21:
		least, most = 0, 63
	}
	if float64(i.Imm) < least || float64(i.Imm) > most {
		return api.ErrRange
	}
	return api.OK
}

// slowEncode is a model of Encode by products and sums.
func slowEncode(i api.Ins) (uint32, api.Errno) {
	if err := slowCheck(i); err != api.OK {
		return 0, err
	}
	low := int64(i.Imm)
	if low < 0 {
		low += 2097152
	}
	return uint32(((int64(i.Op)*8+int64(i.D))*8+int64(i.A))*2097152 + low + int64(i.B)), api.OK
}

// slowDecode is a model of Decode: of a word's parts, by divisions, it tries all the instructions that might have it.
func slowDecode(w uint32) (api.Ins, api.Errno) {
	i := api.Ins{Op: api.Op(w / 134217728), D: uint8(w / 16777216 % 8), A: uint8(w / 2097152 % 8)}
	low := w % 2097152
	above, below, register := i, i, i
	above.Imm = int32(low)
	below.Imm = int32(int64(low) - 2097152)
	register.B = uint8(low % 8)
	for _, guess := range []api.Ins{above, below, register} {
		if got, err := slowEncode(guess); err == api.OK && got == w {
			return guess, api.OK
		}
	}
	return api.Ins{}, api.ErrWord
}

// slowTarget is a model of Target by sums that don't wrap round.
func slowTarget(at uint32, i api.Ins) (uint32, bool) {
	sum := int64(i.Imm)
	if i.Op == 14 || i.Op == 15 || i.Op == 16 {
		sum += int64(at) + 1 + 4294967296
	} else if i.Op != 17 {
		return 0, false
	}
	if slowCheck(i) != api.OK {
		return 0, false
	}
	return uint32(sum % 4294967296), true
}

// eachIns goes over instructions of all operations, right ones and wrong ones.
func eachIns(tell func(i api.Ins)) {
	for op := range 256 {
		for _, d := range sampleRegisters {
			for _, a := range sampleRegisters {
				for _, b := range sampleRegisters {
					for _, imm := range sampleImms {
						tell(api.Ins{Op: api.Op(op), D: d, A: a, B: b, Imm: imm})
					}
				}
			}
		}
	}
}

// sampleLows has the lowest 21 bits of words: each bit alone, each bit missing, and the ends.
func sampleLows() []uint32 {
	lows := []uint32{0, 3, 5, 6, 7, 9, 15, 62, 63, 65, 72, 127, 0xfffff, 0x100001, 0x155555, 0x0aaaaa, 0x1fffff}
	for at := range 21 {
		lows = append(lows, 1<<at, 0x1fffff^1<<at, 1<<at|7)
	}
	return lows
}

// eachWord goes over words with all their upper parts.
func eachWord(tell func(w uint32)) {
	for upper := range uint32(2048) {
		for _, low := range sampleLows() {
			tell(upper<<21 | low)
		}
	}
}

func TestUsesOfEachOperation(t *testing.T) {
	for n := range 256 {
		op := api.Op(n)
		d, a, b, imm := Uses(op)
		if d != used(op, "D") || a != used(op, "A") || b != used(op, "B") || imm != used(op, "I") {
			t.Errorf("Uses(%d) = %v, %v, %v, %v", n, d, a, b, imm)
		}
	}
}

func TestUsesExamples(t *testing.T) {
	type parts struct{ d, a, b, imm bool }
	for op, want := range map[api.Op]parts{
		api.Halt:  {},
		api.Nop:   {},
		api.Li:    {d: true, imm: true},
		api.Add:   {d: true, a: true, b: true},
		api.Lt:    {d: true, a: true, b: true},
		api.Addi:  {d: true, a: true, imm: true},
		api.Ld:    {d: true, a: true, imm: true},
		api.St:    {d: true, a: true, imm: true},
		api.Jmp:   {imm: true},
		api.Beq:   {d: true, a: true, imm: true},
		api.Bne:   {d: true, a: true, imm: true},
		api.Call:  {imm: true},
		api.Ret:   {},
		api.Jr:    {a: true},
		api.Safe:  {},
		api.Enter: {imm: true},
		22:        {},
		31:        {},
		255:       {},
	} {
		d, a, b, imm := Uses(op)
		if got := (parts{d, a, b, imm}); got != want {
			t.Errorf("Uses(%d) = %v, want %v", op, got, want)
		}
	}
}

func TestWordsOfInstructions(t *testing.T) {
	for _, c := range []struct {
		i    api.Ins
		want uint32
	}{
		{api.Ins{}, 0},
		{api.Ins{Op: api.Nop}, 0x08000000},
		{api.Ins{Op: api.Li, D: 1, Imm: -1}, 0x111fffff},
		{api.Ins{Op: api.Li, D: 7, Imm: 1048575}, 0x170fffff},
		{api.Ins{Op: api.Li, Imm: -1048576}, 0x10100000},
		{api.Ins{Op: api.Add, D: 1, A: 2, B: 3}, 0x19400003},
		{api.Ins{Op: api.Sub, D: 7, A: 7, B: 7}, 0x27e00007},
		{api.Ins{Op: api.And, B: 1}, 0x28000001},
		{api.Ins{Op: api.Or, A: 1}, 0x30200000},
		{api.Ins{Op: api.Xor, D: 1}, 0x39000000},
		{api.Ins{Op: api.Shl, D: 4, A: 4, B: 4}, 0x44800004},
		{api.Ins{Op: api.Shr}, 0x48000000},
		{api.Ins{Op: api.Lt, D: 2, A: 1, B: 6}, 0x52200006},
		{api.Ins{Op: api.Addi, D: 1, A: 1, Imm: 1}, 0x59200001},
		{api.Ins{Op: api.Ld, D: 1, A: 2, Imm: -4}, 0x615ffffc},
		{api.Ins{Op: api.St, D: 3, A: 0, Imm: 80}, 0x6b000050},
		{api.Ins{Op: api.Jmp, Imm: -3}, 0x701ffffd},
		{api.Ins{Op: api.Beq, D: 1, A: 2, Imm: 5}, 0x79400005},
		{api.Ins{Op: api.Bne, D: 7, A: 7, Imm: -1}, 0x87ffffff},
		{api.Ins{Op: api.Call}, 0x88000000},
		{api.Ins{Op: api.Call, Imm: 1048575}, 0x880fffff},
		{api.Ins{Op: api.Ret}, 0x90000000},
		{api.Ins{Op: api.Jr, A: 7}, 0x98e00000},
		{api.Ins{Op: api.Safe}, 0xa0000000},
		{api.Ins{Op: api.Enter}, 0xa8000000},
		{api.Ins{Op: api.Enter, Imm: 63}, 0xa800003f},
	} {
		if err := Check(c.i); err != api.OK {
			t.Errorf("Check(%v) = %d, want 0", c.i, int(err))
		}
		if got, err := Encode(c.i); got != c.want || err != api.OK {
			t.Errorf("Encode(%v) = %08x, %d, want %08x, 0", c.i, got, int(err), c.want)
		}
		if got, err := Decode(c.want); got != c.i || err != api.OK {
			t.Errorf("Decode(%08x) = %v, %d, want %v, 0", c.want, got, int(err), c.i)
		}
	}
}

func TestCheckAndEncodeRefuse(t *testing.T) {
	for _, c := range []struct {
		i    api.Ins
		want api.Errno
	}{
		{api.Ins{Op: 22}, api.ErrWord},
		{api.Ins{Op: 31}, api.ErrWord},
		{api.Ins{Op: 32}, api.ErrWord},
		{api.Ins{Op: 255}, api.ErrWord},
		{api.Ins{Op: 22, Imm: math.MaxInt32}, api.ErrWord},
		{api.Ins{Op: api.Nop, D: 1}, api.ErrWord},
		{api.Ins{Op: api.Halt, A: 1}, api.ErrWord},
		{api.Ins{Op: api.Ret, B: 1}, api.ErrWord},
		{api.Ins{Op: api.Safe, Imm: 1}, api.ErrWord},
		{api.Ins{Op: api.Safe, Imm: -1}, api.ErrWord},
		{api.Ins{Op: api.Halt, Imm: math.MinInt32}, api.ErrWord},
		{api.Ins{Op: api.Li, D: 8}, api.ErrWord},
		{api.Ins{Op: api.Li, A: 1}, api.ErrWord},
		{api.Ins{Op: api.Li, B: 1}, api.ErrWord},
		{api.Ins{Op: api.Li, D: 8, Imm: 1 << 20}, api.ErrWord},
		{api.Ins{Op: api.Add, D: 8}, api.ErrWord},
		{api.Ins{Op: api.Add, A: 8}, api.ErrWord},
		{api.Ins{Op: api.Add, B: 8}, api.ErrWord},
		{api.Ins{Op: api.Add, B: 255}, api.ErrWord},
		{api.Ins{Op: api.Add, Imm: 1}, api.ErrWord},
		{api.Ins{Op: api.Lt, Imm: 1 << 20}, api.ErrWord},
		{api.Ins{Op: api.Ld, B: 1}, api.ErrWord},
		{api.Ins{Op: api.Beq, A: 8, Imm: 1 << 20}, api.ErrWord},
		{api.Ins{Op: api.Jmp, D: 1}, api.ErrWord},
		{api.Ins{Op: api.Call, A: 1, Imm: -1}, api.ErrWord},
		{api.Ins{Op: api.Enter, B: 1, Imm: 64}, api.ErrWord},
		{api.Ins{Op: api.Jr, D: 1}, api.ErrWord},
		{api.Ins{Op: api.Jr, A: 8}, api.ErrWord},
		{api.Ins{Op: api.Jr, A: 1, Imm: 1}, api.ErrWord},
		{api.Ins{Op: api.Li, Imm: 1 << 20}, api.ErrRange},
		{api.Ins{Op: api.Li, Imm: -1<<20 - 1}, api.ErrRange},
		{api.Ins{Op: api.Addi, Imm: math.MaxInt32}, api.ErrRange},
		{api.Ins{Op: api.St, Imm: math.MinInt32}, api.ErrRange},
		{api.Ins{Op: api.Jmp, Imm: 1 << 20}, api.ErrRange},
		{api.Ins{Op: api.Bne, Imm: -1<<20 - 1}, api.ErrRange},
		{api.Ins{Op: api.Call, Imm: -1}, api.ErrRange},
		{api.Ins{Op: api.Call, Imm: math.MinInt32}, api.ErrRange},
		{api.Ins{Op: api.Call, Imm: 1 << 20}, api.ErrRange},
		{api.Ins{Op: api.Enter, Imm: -1}, api.ErrRange},
		{api.Ins{Op: api.Enter, Imm: 64}, api.ErrRange},
		{api.Ins{Op: api.Enter, Imm: 1 << 20}, api.ErrRange},
	} {
		if err := Check(c.i); err != c.want {
			t.Errorf("Check(%v) = %d, want %d", c.i, int(err), int(c.want))
		}
		if w, err := Encode(c.i); w != 0 || err != c.want {
			t.Errorf("Encode(%v) = %08x, %d, want 0, %d", c.i, w, int(err), int(c.want))
		}
	}
}

func TestCheckAndEncodeOfManyInstructions(t *testing.T) {
	eachIns(func(i api.Ins) {
		want, wantErr := slowEncode(i)
		if err := Check(i); err != wantErr {
			t.Fatalf("Check(%v) = %d, want %d", i, int(err), int(wantErr))
		}
		if got, err := Encode(i); got != want || err != wantErr {
			t.Fatalf("Encode(%v) = %08x, %d, want %08x, %d", i, got, int(err), want, int(wantErr))
		}
	})
}

func TestDecodeRefuses(t *testing.T) {
	for _, w := range []uint32{
		0xffffffff, 0xb0000000, 0xf8000000, // no operation
		0x00000001, 0x00100000, 0x00200000, 0x01000000, 0x07ffffff, // halt with parts
		0x09000000, 0x90000001, 0x90200000, 0xa0000007, 0xa1000000,
		0x10200000, 0x10e00000, // li with A
		0x18000008, 0x18100000, 0x19500003, 0x501ffff8, // bits above B
		0x70200000, 0x71000000, // jmp with A, D
		0x88100000, 0x881fffff, 0x88200000, 0x89000000, // call below 0, with A, D
		0x98000001, 0x98100000, 0x99000000, // jr with Imm, D
		0xa8000040, 0xa8100000, 0xa81fffff, 0xa8200000, 0xa9000000, // enter beyond the slots, with A, D
	} {
		if i, err := Decode(w); i != (api.Ins{}) || err != api.ErrWord {
			t.Errorf("Decode(%08x) = %v, %d, want nothing and ErrWord", w, i, int(err))
		}
	}
}

func TestDecodeOfManyWords(t *testing.T) {
	eachWord(func(w uint32) {
		want, wantErr := slowDecode(w)
		if got, err := Decode(w); got != want || err != wantErr {
			t.Fatalf("Decode(%08x) = %v, %d, want %v, %d", w, got, int(err), want, int(wantErr))
		}
	})
}

func TestHowManyLowestBitsMayBe(t *testing.T) {
	for op, want := range map[api.Op]int{
		api.Halt: 1, api.Li: 1 << 21, api.Add: 8, api.Jmp: 1 << 21, api.Call: 1 << 20, api.Jr: 1, api.Enter: 64, api.Enter + 1: 0,
	} {
		count := 0
		for low := range uint32(1 << 21) {
			if _, err := Decode(uint32(op)<<27 | low); err == api.OK {
				count++
			}
		}
		if count != want {
			t.Errorf("operation %d: %d words, want %d", op, count, want)
		}
	}
}

func TestTargetExamples(t *testing.T) {
	for _, c := range []struct {
		at   uint32
		i    api.Ins
		want uint32
		ok   bool
	}{
		{10, api.Ins{Op: api.Jmp, Imm: -3}, 8, true},
		{10, api.Ins{Op: api.Jmp}, 11, true},
		{10, api.Ins{Op: api.Beq, D: 1, A: 2, Imm: 5}, 16, true},
		{10, api.Ins{Op: api.Bne, D: 7, Imm: -11}, 0, true},
		{0, api.Ins{Op: api.Jmp, Imm: -2}, 0xffffffff, true},
		{0xffffffff, api.Ins{Op: api.Jmp}, 0, true},
		{0xffffffff, api.Ins{Op: api.Beq, Imm: 1048575}, 0xfffff, true},
		{0, api.Ins{Op: api.Bne, Imm: -1048576}, 0xfff00001, true},
		{10, api.Ins{Op: api.Call, Imm: 80}, 80, true},
		{10, api.Ins{Op: api.Call}, 0, true},
		{0xffffffff, api.Ins{Op: api.Call, Imm: 1048575}, 1048575, true},
		{10, api.Ins{}, 0, false},
		{10, api.Ins{Op: api.Li, Imm: 5}, 0, false},
		{10, api.Ins{Op: api.Ld, Imm: 5}, 0, false},
		{10, api.Ins{Op: api.Ret}, 0, false},
		{10, api.Ins{Op: api.Jr, A: 1}, 0, false},
		{10, api.Ins{Op: api.Safe}, 0, false},
		{10, api.Ins{Op: api.Enter, Imm: 5}, 0, false},
		{10, api.Ins{Op: 22}, 0, false},
		{10, api.Ins{Op: api.Jmp, D: 1}, 0, false},
		{10, api.Ins{Op: api.Jmp, Imm: 1 << 20}, 0, false},
		{10, api.Ins{Op: api.Beq, B: 1}, 0, false},
		{10, api.Ins{Op: api.Bne, A: 8}, 0, false},
		{10, api.Ins{Op: api.Call, Imm: -1}, 0, false},
		{10, api.Ins{Op: api.Call, A: 1, Imm: 80}, 0, false},
	} {
		if got, ok := Target(c.at, c.i); got != c.want || ok != c.ok {
			t.Errorf("Target(%d, %v) = %d, %v, want %d, %v", c.at, c.i, got, ok, c.want, c.ok)
		}
	}
}

func TestTargetOfManyInstructions(t *testing.T) {
	for op := range 256 {
		for _, imm := range sampleImms {
			for _, register := range []uint8{0, 7, 8} {
				i := api.Ins{Op: api.Op(op), D: register, Imm: imm}
				for _, at := range sampleAddresses {
					want, wantOK := slowTarget(at, i)
					if got, ok := Target(at, i); got != want || ok != wantOK {
						t.Fatalf("Target(%d, %v) = %d, %v, want %d, %v", at, i, got, ok, want, wantOK)
					}
				}
			}
		}
	}
}

func TestDecodeOfEncodeIsTheInstruction(t *testing.T) {
	right := 0
	eachIns(func(i api.Ins) {
		w, err := Encode(i)
		if err != api.OK {
			return
		}
		right++
		if got, err := Decode(w); got != i || err != api.OK {
			t.Fatalf("Decode(Encode(%v)) = %v, %d", i, got, int(err))
		}
	})
	if right < 1000 {
		t.Errorf("only %d instructions were tried", right)
	}
}

func TestOneWordForEachInstruction(t *testing.T) {
	words := map[api.Ins]uint32{}
	eachWord(func(w uint32) {
		i, err := Decode(w)
		if err != api.OK {
			return
		}
		if other, there := words[i]; there && other != w {
			t.Fatalf("%v is told of %08x and of %08x", i, other, w)
		}
		words[i] = w
		if got, err := Encode(i); got != w || err != api.OK {
			t.Fatalf("Encode(Decode(%08x)) = %08x, %d", w, got, int(err))
		}
	})
	if len(words) < 1000 {
		t.Errorf("only %d words were tried", len(words))
	}
}
