package asm

import (
	"fmt"
	"math"
	"math/big"
	"regexp"
	"slices"
	"strings"
	"testing"

	"budwood/api"
	"budwood/isa"
	"budwood/word"
)

// names has the operations' names and the parts that they use, by their numbers: I stands for Imm.
var names = []struct{ mnemonic, parts string }{
	{"halt", ""}, {"nop", ""}, {"li", "DI"},
	{"add", "DAB"}, {"sub", "DAB"}, {"and", "DAB"}, {"or", "DAB"}, {"xor", "DAB"}, {"shl", "DAB"}, {"shr", "DAB"}, {"lt", "DAB"},
	{"addi", "DAI"}, {"ld", "DAI"}, {"st", "DAI"}, {"jmp", "I"}, {"beq", "DAI"}, {"bne", "DAI"},
	{"call", "I"}, {"ret", ""}, {"jr", "A"}, {"safe", ""}, {"enter", "I"},
}

// sampleRegisters has the numbers of registers at their ends, and such as are none.
var sampleRegisters = []uint8{0, 1, 2, 6, 7, 8, 9, 10, 255}

// sampleImms has numbers at the ends of digits, of slots and of 21 bits, and such as are beyond.
var sampleImms = []int32{
	0, 1, 7, 8, 9, 10, 11, 62, 63, 64, 80, 99, 100, 4096, 0xffffe, 0xfffff, 0x100000, 0x1fffff, 0x200000, math.MaxInt32,
	-1, -4, -9, -10, -63, -64, -100, -0xfffff, -0x100000, -0x100001, -0x200000, math.MinInt32,
}

var (
	registerForm = regexp.MustCompile(`\Ar[0-7]\z`)
	numberForm   = regexp.MustCompile(`\A(0|-?[1-9][0-9]*)\z`)
	rawForm      = regexp.MustCompile(`\Aword ([0-9a-f]{8})\z`)
)

// slowPrint is a model of Print by formats.
func slowPrint(i api.Ins) (string, api.Errno) {
	if err := isa.Check(i); err != api.OK {
		return "", err
	}
	line := names[i.Op].mnemonic
	for _, part := range names[i.Op].parts {
		switch part {
		case 'D':
			line += fmt.Sprintf(" r%d", i.D)
		case 'A':
			line += fmt.Sprintf(" r%d", i.A)
		case 'B':
			line += fmt.Sprintf(" r%d", i.B)
		default:
			line += fmt.Sprintf(" %d", i.Imm)
		}
	}
	return line, api.OK
}

// slowParse is a model of Parse: a line is cut at its blanks, and each piece is held against a form.
func slowParse(s string) (api.Ins, api.Errno) {
	pieces := strings.Split(s, " ")
	for op, name := range names {
		if name.mnemonic == pieces[0] && len(name.parts) == len(pieces)-1 {
			return slowParts(api.Op(op), pieces[1:])
		}
	}
	return api.Ins{}, api.ErrLine
}

// slowParts reads an operation's parts.
func slowParts(op api.Op, pieces []string) (api.Ins, api.Errno) {
	i := api.Ins{Op: op}
	for n, part := range names[op].parts {
		form := registerForm
		if part == 'I' {
			form = numberForm
		}
		if !form.MatchString(pieces[n]) {
			return api.Ins{}, api.ErrLine
		}
		value, _ := new(big.Int).SetString(strings.TrimPrefix(pieces[n], "r"), 10)
		if value.CmpAbs(big.NewInt(math.MaxInt32)) > 0 {
			return api.Ins{}, api.ErrLine
		}
		switch part {
		case 'D':
			i.D = uint8(value.Int64())
		case 'A':
			i.A = uint8(value.Int64())
		case 'B':
			i.B = uint8(value.Int64())
		default:
			i.Imm = int32(value.Int64())
		}
	}
	if isa.Check(i) != api.OK {
		return api.Ins{}, api.ErrLine
	}
	return i, api.OK
}

// slowAssemble is a model of Assemble over the list of all lines.
func slowAssemble(text string) ([]uint32, int, api.Errno) {
	var words []uint32
	for n, line := range strings.Split(text, "\n") {
		for strings.HasPrefix(line, " ") {
			line = line[1:]
		}
		for strings.HasSuffix(line, " ") {
			line = line[:len(line)-1]
		}
		if line == "" || line[0] == ';' {
			continue
		}
		w := uint32(0)
		if raw := rawForm.FindStringSubmatch(line); raw != nil {
			w, _ = word.Parse(raw[1])
		} else if i, err := slowParse(line); err == api.OK {
			w, _ = isa.Encode(i)
		} else {
			return nil, n, api.ErrLine
		}
		if words = append(words, w); len(words) > 512 {
			return nil, n, api.ErrLong
		}
	}
	return words, 0, api.OK
}

// eachIns goes over instructions of all operations, right ones and wrong ones.
func eachIns(tell func(i api.Ins)) {
	for op := range 256 {
		for _, d := range sampleRegisters {
			for _, a := range sampleRegisters {
				for _, b := range sampleRegisters {
					for _, imm := range sampleImms {
						tell(api.Ins{Op: api.Op(op), D: d, A: a, B: b, Imm: imm})
					}
				}
			}
		}
	}
}

// wantParse holds what Parse tells of a line against the model.
func wantParse(t *testing.T, s string) {
	t.Helper()
	want, wantErr := slowParse(s)
	if got, err := Parse(s); got != want || err != wantErr {
		t.Fatalf("Parse(%q) = %v, %d, want %v, %d", s, got, int(err), want, int(wantErr))
	}
}

// wantWords holds what Assemble tells of a text against what is wanted.
func wantWords(t *testing.T, text string, want []uint32, wantLine int, wantErr api.Errno) {
	t.Helper()
	got, line, err := Assemble(text)
	if !slices.Equal(got, want) || line != wantLine || err != wantErr {
		t.Errorf("Assemble(%.80q) = %.80s, %d, %d, want %.80s, %d, %d", text, fmt.Sprintf("%x", got), line, int(err), fmt.Sprintf("%x", want), wantLine, int(wantErr))
	}
}

// lineOf tells an instruction's line, of one that may be.
func lineOf(t *testing.T, i api.Ins) string {
	t.Helper()
	line, err := Print(i)
	if err != api.OK {
		t.Fatalf("Print(%v): error %d", i, int(err))
	}
	return line
}

func TestMnemonicOfEachOperation(t *testing.T) {
	for n := range 256 {
		want := ""
		if n < len(names) {
			want = names[n].mnemonic
		}
		if got := Mnemonic(api.Op(n)); got != want {
			t.Errorf("Mnemonic(%d) = %q, want %q", n, got, want)
		}
	}
}

func TestLinesOfInstructions(t *testing.T) {
	for _, c := range []struct {
		i    api.Ins
		want string
	}{
		{api.Ins{}, "halt"},
		{api.Ins{Op: api.Nop}, "nop"},
		{api.Ins{Op: api.Li, D: 1, Imm: 5}, "li r1 5"},
		{api.Ins{Op: api.Li}, "li r0 0"},
		{api.Ins{Op: api.Li, D: 7, Imm: 1048575}, "li r7 1048575"},
		{api.Ins{Op: api.Li, D: 7, Imm: -1048576}, "li r7 -1048576"},
		{api.Ins{Op: api.Add, D: 1, A: 2, B: 3}, "add r1 r2 r3"},
		{api.Ins{Op: api.Sub, D: 7, A: 6, B: 5}, "sub r7 r6 r5"},
		{api.Ins{Op: api.And}, "and r0 r0 r0"},
		{api.Ins{Op: api.Or, B: 1}, "or r0 r0 r1"},
		{api.Ins{Op: api.Xor, A: 1}, "xor r0 r1 r0"},
		{api.Ins{Op: api.Shl, D: 1}, "shl r1 r0 r0"},
		{api.Ins{Op: api.Shr, D: 4, A: 4, B: 4}, "shr r4 r4 r4"},
		{api.Ins{Op: api.Lt, D: 2, A: 1, B: 6}, "lt r2 r1 r6"},
		{api.Ins{Op: api.Addi, D: 1, A: 1, Imm: 1}, "addi r1 r1 1"},
		{api.Ins{Op: api.Ld, D: 1, A: 2, Imm: -4}, "ld r1 r2 -4"},
		{api.Ins{Op: api.St, D: 3, Imm: 80}, "st r3 r0 80"},
		{api.Ins{Op: api.Jmp, Imm: -3}, "jmp -3"},
		{api.Ins{Op: api.Jmp}, "jmp 0"},
		{api.Ins{Op: api.Beq, D: 1, A: 2, Imm: 10}, "beq r1 r2 10"},
		{api.Ins{Op: api.Bne, D: 7, A: 7, Imm: -1}, "bne r7 r7 -1"},
		{api.Ins{Op: api.Call, Imm: 80}, "call 80"},
		{api.Ins{Op: api.Call, Imm: 1048575}, "call 1048575"},
		{api.Ins{Op: api.Ret}, "ret"},
		{api.Ins{Op: api.Jr, A: 7}, "jr r7"},
		{api.Ins{Op: api.Safe}, "safe"},
		{api.Ins{Op: api.Enter}, "enter 0"},
		{api.Ins{Op: api.Enter, Imm: 63}, "enter 63"},
	} {
		if got, err := Print(c.i); got != c.want || err != api.OK {
			t.Errorf("Print(%v) = %q, %d, want %q, 0", c.i, got, int(err), c.want)
		}
		if got, err := Parse(c.want); got != c.i || err != api.OK {
			t.Errorf("Parse(%q) = %v, %d, want %v, 0", c.want, got, int(err), c.i)
		}
	}
}

func TestPrintRefuses(t *testing.T) {
	for _, c := range []struct {
		i    api.Ins
		want api.Errno
	}{
		{api.Ins{Op: 22}, api.ErrWord},
		{api.Ins{Op: 255, Imm: math.MaxInt32}, api.ErrWord},
		{api.Ins{Op: api.Halt, D: 1}, api.ErrWord},
		{api.Ins{Op: api.Ret, Imm: 1}, api.ErrWord},
		{api.Ins{Op: api.Li, D: 8}, api.ErrWord},
		{api.Ins{Op: api.Li, A: 1, Imm: 1 << 20}, api.ErrWord},
		{api.Ins{Op: api.Add, B: 8}, api.ErrWord},
		{api.Ins{Op: api.Add, Imm: -1}, api.ErrWord},
		{api.Ins{Op: api.Jr, D: 1}, api.ErrWord},
		{api.Ins{Op: api.Li, Imm: 1 << 20}, api.ErrRange},
		{api.Ins{Op: api.Jmp, Imm: -1<<20 - 1}, api.ErrRange},
		{api.Ins{Op: api.Call, Imm: -1}, api.ErrRange},
		{api.Ins{Op: api.Enter, Imm: -1}, api.ErrRange},
		{api.Ins{Op: api.Enter, Imm: 64}, api.ErrRange},
	} {
		if got, err := Print(c.i); got != "" || err != c.want {
			t.Errorf("Print(%v) = %q, %d, want nothing and %d", c.i, got, int(err), int(c.want))
		}
	}
}

func TestPrintOfManyInstructions(t *testing.T) {
	eachIns(func(i api.Ins) {
		want, wantErr := slowPrint(i)
		if got, err := Print(i); got != want || err != wantErr {
			t.Fatalf("Print(%v) = %q, %d, want %q, %d", i, got, int(err), want, int(wantErr))
		}
	})
}

func TestParseRefuses(t *testing.T) {
	for _, s := range []string{
		"", " ", "oops", "r1", "5", "word", "word 00000007", ";", "; halt", "halt\n", "halt\nhalt", "\nhalt",
		"Halt", "HALT", "hal", "haltt", " halt", "halt ", "halt\t", "halt\r", "halt;", "halt r0", "halt 0", "nop ", "nop  ", "ret 0",
		"li", "li ", "li r1", "li r1 ", "li  r1 5", "li r1  5", "li r1 5 ", " li r1 5", "li r1 5 6", "li 5 r1", "li 1 5", "li r1 r5", "li\tr1\t5", "li r1,5", "li r1 5;",
		"li r8 1", "li r9 1", "li r-1 1", "li r01 1", "li r10 1", "li R1 1", "li r 1", "li r 1 1", "li rr1 1", "li 1r 1", "li r/ 1", "li r: 1", "li r\x00 1", "li r\xff 1",
		"li r1 05", "li r1 00", "li r1 -0", "li r1 -05", "li r1 +1", "li r1 --1", "li r1 -", "li r1 - 1", "li r1 1-", "li r1 1.0", "li r1 1e3", "li r1 1_000", "li r1 0x1", "li r1 a", "li r1 ٠",
		"li r1 1048576", "li r1 -1048577", "li r1 2147483647", "li r1 2147483648", "li r1 -2147483648", "li r1 -2147483649",
		"li r1 4294967296", "li r1 4294967301", "li r1 -4294967295", "li r1 18446744073709551616", "li r1 18446744073709551621", "li r1 " + strings.Repeat("9", 4096),
		"add r1 r2", "add r1 r2 ", "add r1 r2 r8", "add r1 r8 r2", "add r8 r1 r2", "add r1 r2 3", "add r1 r2 r3 0", "add r1 r2 r3 r4",
		"ld r1 -4", "ld r1 r2", "ld r1 r2 r3", "ld r1 -4 r2", "ld r1 -4(r2)", "st r1 r2 1048576",
		"jmp", "jmp ", "jmp r1", "jmp 1 2", "jmp -1048577", "beq r1 5", "bne r1 r2", "jr", "jr 1", "jr r8", "jr r1 r2", "jr r1 0",
		"call", "call -1", "call 1048576", "call r1", "enter", "enter -1", "enter 64", "enter r1", "enter 0 1", "enter 4294967296",
	} {
		if i, err := Parse(s); i != (api.Ins{}) || err != api.ErrLine {
			t.Errorf("Parse(%.80q) = %v, %d, want nothing and ErrLine", s, i, int(err))
		}
		wantParse(t, s)
	}
}

func TestParseOfLinesThatAreNearlyRight(t *testing.T) {
	lines := []string{"li r1 -1048576", "ld r7 r2 10", "enter 63", "call 1048575", "jr r0"}
	for op, name := range names {
		i := api.Ins{Op: api.Op(op)}
		if strings.Contains(name.parts, "A") {
			i.A = 3
		}
		lines = append(lines, lineOf(t, i))
	}
	for _, line := range lines {
		for at := range len(line) + 1 {
			wantParse(t, line[:at])
			wantParse(t, line[at:])
			for c := range 256 {
				wantParse(t, line[:at]+string([]byte{byte(c)})+line[at:])
				if at < len(line) {
					wantParse(t, line[:at]+string([]byte{byte(c)})+line[at+1:])
				}
			}
		}
		for at := range len(line) {
			wantParse(t, line[:at]+line[at+1:])
		}
	}
}

func TestParseOfAllPiecesTogether(t *testing.T) {
	pieces := []string{"", "r0", "r7", "r8", "0", "-1", "1", "63", "64", "007", "1048575", "1048576", "-1048576", "-1048577", "x"}
	for _, name := range names {
		wantParse(t, name.mnemonic)
		for _, first := range pieces {
			wantParse(t, name.mnemonic+" "+first)
			for _, second := range pieces {
				wantParse(t, name.mnemonic+" "+first+" "+second)
				for _, third := range pieces {
					wantParse(t, name.mnemonic+" "+first+" "+second+" "+third)
					wantParse(t, name.mnemonic+" "+first+" "+second+" "+third+" r1")
				}
			}
		}
	}
}

func TestParseOfPrintIsTheInstruction(t *testing.T) {
	right := 0
	eachIns(func(i api.Ins) {
		line, err := Print(i)
		if err != api.OK {
			return
		}
		right++
		if got, err := Parse(line); got != i || err != api.OK {
			t.Fatalf("Parse(Print(%v)) = %v, %d", i, got, int(err))
		}
	})
	if right < 1000 {
		t.Errorf("only %d instructions were tried", right)
	}
}

func TestAssembleExamples(t *testing.T) {
	for _, c := range []struct {
		text string
		want []uint32
	}{
		{"; x\nhalt\nword 00000007", []uint32{0, 7}},
		{"; x\nhalt\nword 00000007\n", []uint32{0, 7}},
		{"; x\n halt\nword 00000007 \n", []uint32{0, 7}},
		{"", nil},
		{" ", nil},
		{"\n", nil},
		{"\n \n   \n\n", nil},
		{";", nil},
		{"   ;   oops", nil},
		{";halt\n;;\n; word 0000000g\n;\x00\xff\t\r", nil},
		{"halt", []uint32{0}},
		{"\n\nnop\n\n", []uint32{0x08000000}},
		{"   li r1 -1   ", []uint32{0x111fffff}},
		{"li r1 -1\nadd r1 r2 r3\n  ; between\nld r1 r2 -4\nenter 63\njr r7", []uint32{0x111fffff, 0x19400003, 0x615ffffc, 0xa800003f, 0x98e00000}},
		{"word 00000000\nword ffffffff\nword 0000000a", []uint32{0, 0xffffffff, 10}},
		{"  word deadbeef  \nword 111fffff", []uint32{0xdeadbeef, 0x111fffff}},
	} {
		wantWords(t, c.text, c.want, 0, api.OK)
	}
}

func TestAssembleRefuses(t *testing.T) {
	for _, c := range []struct {
		text string
		line int
	}{
		{"oops", 0},
		{"nop\n\noops", 2},
		{"nop\n\noops\noops", 2},
		{"; x\n\n  \nhalt\nli r1 05\n", 4},
		{"halt\r\nhalt", 0},
		{"halt\n\t\nhalt", 1},
		{"\thalt", 0},
		{"halt\t", 0},
		{"\t; x", 0},
		{"\u00a0halt", 0},
		{"\u00a0", 0},
		{"\x00", 0},
		{"halt\x00", 0},
		{"halt\vhalt", 0},
		{"halt ; x", 0},
		{"halt;", 0},
		{"halt halt", 0},
		{"li  r1 5", 0},
		{"li r1\n5", 0},
		{"li r8 5", 0},
		{"enter 64", 0},
		{"Halt", 0},
		{"word", 0},
		{"word ", 0},
		{"word7", 0},
		{"word 7", 0},
		{"word 0000007", 0},
		{"word 000000007", 0},
		{"word  00000007", 0},
		{"word  0000007", 0},
		{"word 0000000A", 0},
		{"word 0000000g", 0},
		{"word 0x000007", 0},
		{"word 00000007 x", 0},
		{"word 00000007;", 0},
		{"word\t00000007", 0},
		{"word00000007", 0},
		{"Word 00000007", 0},
		{"word\n00000007", 0},
		{"halt\n00000007", 1},
		{"halt\n\xff", 1},
	} {
		wantWords(t, c.text, nil, c.line, api.ErrLine)
	}
}

func TestAssembleAtTheMostWords(t *testing.T) {
	full := strings.Repeat("nop\n", 512)
	words := slices.Repeat([]uint32{0x08000000}, 512)
	wantWords(t, full, words, 0, api.OK)
	wantWords(t, strings.TrimSuffix(full, "\n"), words, 0, api.OK)
	wantWords(t, "; x\n\n"+full+"\n  \n; y\n", words, 0, api.OK)
	wantWords(t, full+"halt", nil, 512, api.ErrLong)
	wantWords(t, full+"word 00000007\n", nil, 512, api.ErrLong)
	wantWords(t, full+"\n; x\n halt ", nil, 514, api.ErrLong)
	wantWords(t, "; x\n"+full+"halt\nhalt\nhalt", nil, 513, api.ErrLong)
	wantWords(t, full+"oops", nil, 512, api.ErrLine)
	wantWords(t, full+"word 7\nhalt", nil, 512, api.ErrLine)
	wantWords(t, full+"halt\noops", nil, 512, api.ErrLong)
	wantWords(t, full+"\noops\nhalt", nil, 513, api.ErrLine)
	wantWords(t, "oops\n"+full+full, nil, 0, api.ErrLine)
	wantWords(t, strings.Repeat("; x\n\n", 20000)+full, words, 0, api.OK)
	wantWords(t, strings.Repeat("; x\n\n", 20000)+full+"nop", nil, 40512, api.ErrLong)
	wantWords(t, strings.Repeat(" ", 1<<20)+"halt"+strings.Repeat(" ", 1<<20), []uint32{0}, 0, api.OK)
	wantWords(t, "halt\nli r1 "+strings.Repeat("1", 1<<20), nil, 1, api.ErrLine)
}

func TestAssembleOfManyTexts(t *testing.T) {
	lines := []string{
		"", " ", "  ", ";", " ; x", ";halt", "halt", " nop", "li r1 5 ", "  ld r1 r2 -4  ", "word 00000007", " word ffffffff ",
		"oops", "word 7", "li r1 05", "halt\t", "\rhalt", "halt ;", "word  00000007",
	}
	for _, a := range lines {
		for _, b := range lines {
			for _, c := range lines {
				for _, text := range []string{a + "\n" + b + "\n" + c, a + b + "\n" + c, a + "\n" + b + " " + c + "\n"} {
					want, wantLine, wantErr := slowAssemble(text)
					wantWords(t, text, want, wantLine, wantErr)
				}
			}
		}
	}
}

func TestListExamples(t *testing.T) {
	for _, c := range []struct {
		l    []uint32
		want string
	}{
		{nil, ""},
		{[]uint32{}, ""},
		{[]uint32{7}, "word 00000007\n"},
		{[]uint32{0, 7}, "halt\nword 00000007\n"},
		{[]uint32{0x111fffff, 0x19400003, 0x615ffffc}, "li r1 -1\nadd r1 r2 r3\nld r1 r2 -4\n"},
		{[]uint32{0xffffffff, 0xb0000000, 0xa8000040, 0xa800003f}, "word ffffffff\nword b0000000\nword a8000040\nenter 63\n"},
		{[]uint32{0x88100000, 0x880fffff, 0x18000008, 0xdeadbeef}, "word 88100000\ncall 1048575\nword 18000008\nword deadbeef\n"},
	} {
		if got := List(c.l); got != c.want {
			t.Errorf("List(%x) = %q, want %q", c.l, got, c.want)
		}
	}
}

func TestListIsALineOfEachWord(t *testing.T) {
	var words []uint32
	want := ""
	for upper := range uint32(2048) {
		for _, low := range []uint32{0, 1, 7, 8, 63, 64, 0xfffff, 0x100000, 0x1ffff8, 0x1fffff} {
			w := upper<<21 | low
			words = append(words, w)
			line := fmt.Sprintf("word %08x", w)
			if i, err := isa.Decode(w); err == api.OK {
				line, _ = slowPrint(i)
			}
			if got := List([]uint32{w}); got != line+"\n" {
				t.Fatalf("List(%08x) = %q, want %q", w, got, line+"\n")
			}
			want += line + "\n"
		}
	}
	if got := List(words); got != want {
		t.Errorf("List of %d words isn't their lines", len(words))
	}
}

func TestAssembleOfListIsTheWords(t *testing.T) {
	w, words := uint32(1), []uint32(nil)
	for len(words) < 100*512 {
		// A step that goes through all words makes them of all operations.
		w = w*1664525 + 1013904223
		words = append(words, w, w&0xffe00007, w&0xf8000000, w&0xff0fffff)
	}
	for size := range 513 {
		wantWords(t, List(words[:size]), words[:size], 0, api.OK)
	}
	for part := range slices.Chunk(words, 512) {
		wantWords(t, List(part), part, 0, api.OK)
	}
	wantWords(t, List(words[:513]), nil, 512, api.ErrLong)
}

func TestAnswersAreNewMemory(t *testing.T) {
	words := []uint32{0, 7, 9}
	first, _, _ := Assemble("halt\nword 00000007\nnop")
	second, _, _ := Assemble("halt\nword 00000007\nnop")
	first = first[:cap(first)]
	for i := range first {
		first[i] = 77
	}
	if want := []uint32{0, 7, 0x08000000}; !slices.Equal(second, want) {
		t.Errorf("the answers share memory: %x", second)
	}
	if again, _, _ := Assemble("halt\nword 00000007\nnop"); !slices.Equal(again, second) {
		t.Errorf("Assemble tells other words the second time: %x", again)
	}
	List(words[:2])
	if !slices.Equal(words, []uint32{0, 7, 9}) {
		t.Errorf("the argument is changed: %x", words)
	}
}
