package wire

import (
	"bytes"
	"math"
	"slices"
	"strings"
	"testing"

	"budwood/api"
)

// farMost is a bound above all numbers whose lowest 32 bits are noughts.
const farMost = math.MaxInt &^ math.MaxUint32

// sampleNumbers has numbers at the ends of each length, and others.
var sampleNumbers = []uint32{
	0, 1, 2, 5, 0x40, 0x7e, 0x7f, 0x80, 0x81, 0xff, 0x100, 300, 0x3fff, 0x4000, 0x4001, 0x8000, 0xffff, 0x10000,
	0x1fffff, 0x200000, 0x200001, 0xfffffff, 0x10000000, 0x10000001, 0x12345678, 0x7fffffff, 0x80000000,
	0x80000001, 0x89abcdef, 0xdeadbeef, 0xf0000000, 0xfffffffe, 0xffffffff,
}

// sampleBounds has bounds of texts and lists, from below 0 on.
var sampleBounds = []int{math.MinInt, math.MinInt32, -1, 0, 1, 2, 3, 127, 128, math.MaxInt32, math.MaxUint32, farMost, math.MaxInt}

// edgeBytes has what numbers end with, go on with, and hold too much with.
var edgeBytes = []byte{0x00, 0x01, 0x02, 0x0f, 0x10, 0x7f, 0x80, 0x81, 0x8f, 0xff}

// slowVar lays a number by divisions alone.
func slowVar(n uint64) []byte {
	if n/128 == 0 {
		return []byte{byte(n)}
	}
	return append([]byte{byte(n%128 + 128)}, slowVar(n/128)...)
}

// slowWord lays a word by divisions alone.
func slowWord(w uint32) []byte {
	return []byte{byte(w % 256), byte(w / 256 % 256), byte(w / 65536 % 256), byte(w / 16777216)}
}

// slowReadVar is a model of a reader's Var; it tells the number's length, too.
func slowReadVar(b []byte, most float64) (uint32, int, api.Errno) {
	size := 0
	for size < len(b) && b[size] >= 128 {
		size++
	}
	if size >= 5 {
		return 0, 0, api.ErrForm
	}
	if size == len(b) {
		return 0, 0, api.ErrCut
	}
	sum := 0.0
	for i, c := range b[:size+1] {
		sum += float64(c%128) * math.Pow(128, float64(i))
	}
	if sum > 4294967295 || !bytes.Equal(slowVar(uint64(sum)), b[:size+1]) {
		return 0, 0, api.ErrForm
	}
	if sum > most {
		return 0, 0, api.ErrLong
	}
	return uint32(sum), size + 1, api.OK
}

// slowReadText is a model of a reader's Text; it tells how many bytes are read, too.
func slowReadText(b []byte, most int) (string, int, api.Errno) {
	n, size, err := slowReadVar(b, math.Max(float64(most), 0))
	if err != api.OK {
		return "", 0, err
	}
	text := ""
	for i := range int(n) {
		if size+i == len(b) {
			return "", 0, api.ErrCut
		}
		text += string(b[size+i : size+i+1])
	}
	return text, size + int(n), api.OK
}

// slowReadWords is a model of a reader's Words; it tells how many bytes are read, too.
func slowReadWords(b []byte, most int) ([]uint32, int, api.Errno) {
	n, size, err := slowReadVar(b, math.Max(float64(most), 0))
	if err != api.OK {
		return nil, 0, err
	}
	var words []uint32
	for range n {
		if len(b)-size < 4 {
			return nil, 0, api.ErrCut
		}
		sum := 0.0
		for i, c := range b[size : size+4] {
			sum += float64(c) * math.Pow(256, float64(i))
		}
		words = append(words, uint32(sum))
		size += 4
	}
	return words, size, api.OK
}

// allBytes tells all lists of at most n of the edge bytes.
func allBytes(n int) [][]byte {
	lists := [][]byte{nil}
	for from := 0; n > 0; n-- {
		to := len(lists)
		for _, b := range lists[from:to] {
			for _, c := range edgeBytes {
				lists = append(lists, append(slices.Clone(b), c))
			}
		}
		from = to
	}
	return lists
}

// wantState holds a reader's error, and how many bytes are left, against what they should be.
func wantState(t *testing.T, what string, r *Reader, left int, err api.Errno) {
	t.Helper()
	if r.Left() != left || r.Err() != err {
		t.Errorf("%.80q: %d left, error %d, want %d and %d", what, r.Left(), int(r.Err()), left, int(err))
	}
}

// wantNothing calls all that reads, and holds it against nothing.
func wantNothing(t *testing.T, what string, r *Reader, err api.Errno) {
	t.Helper()
	for range 2 {
		wantState(t, what, r, 0, err)
		if n := r.Var(math.MaxUint32); n != 0 {
			t.Errorf("%s: Var = %d", what, n)
		}
		wantState(t, what+", Var", r, 0, err)
		if n := r.Var(0); n != 0 {
			t.Errorf("%s: Var(0) = %d", what, n)
		}
		wantState(t, what+", Var(0)", r, 0, err)
		if s := r.Text(math.MaxInt); s != "" {
			t.Errorf("%s: Text = %q", what, s)
		}
		wantState(t, what+", Text", r, 0, err)
		if w := r.Word(); w != 0 {
			t.Errorf("%s: Word = %x", what, w)
		}
		wantState(t, what+", Word", r, 0, err)
		if l := r.Words(math.MaxInt); len(l) != 0 {
			t.Errorf("%s: Words = %x", what, l)
		}
		wantState(t, what+", Words", r, 0, err)
	}
}

func TestVarExamples(t *testing.T) {
	for _, c := range []struct {
		n    uint32
		want string
	}{
		{0, "\x00"},
		{1, "\x01"},
		{127, "\x7f"},
		{128, "\x80\x01"},
		{129, "\x81\x01"},
		{255, "\xff\x01"},
		{300, "\xac\x02"},
		{16383, "\xff\x7f"},
		{16384, "\x80\x80\x01"},
		{2097151, "\xff\xff\x7f"},
		{2097152, "\x80\x80\x80\x01"},
		{268435455, "\xff\xff\xff\x7f"},
		{268435456, "\x80\x80\x80\x80\x01"},
		{1 << 31, "\x80\x80\x80\x80\x08"},
		{1<<32 - 1, "\xff\xff\xff\xff\x0f"},
	} {
		if got := Var(c.n); string(got) != c.want {
			t.Errorf("Var(%d) = %x, want %x", c.n, got, c.want)
		}
	}
}

func TestVarOfManyNumbers(t *testing.T) {
	numbers := slices.Clone(sampleNumbers)
	for n := range uint32(70000) {
		numbers = append(numbers, n, n<<7, n<<14, n<<16, math.MaxUint32-n)
	}
	for _, n := range numbers {
		if got, want := Var(n), slowVar(uint64(n)); !bytes.Equal(got, want) {
			t.Fatalf("Var(%d) = %x, want %x", n, got, want)
		}
	}
}

func TestWordExamples(t *testing.T) {
	for _, c := range []struct {
		w    uint32
		want string
	}{
		{0, "\x00\x00\x00\x00"},
		{1, "\x01\x00\x00\x00"},
		{0x100, "\x00\x01\x00\x00"},
		{0x12345678, "\x78\x56\x34\x12"},
		{0x80000000, "\x00\x00\x00\x80"},
		{0xffffffff, "\xff\xff\xff\xff"},
	} {
		if got := Word(c.w); string(got) != c.want {
			t.Errorf("Word(%x) = %x, want %x", c.w, got, c.want)
		}
	}
	for _, w := range sampleNumbers {
		for at := range 32 {
			v := w ^ 1<<at
			if got, want := Word(v), slowWord(v); !bytes.Equal(got, want) {
				t.Fatalf("Word(%x) = %x, want %x", v, got, want)
			}
		}
	}
}

func TestTextExamples(t *testing.T) {
	for _, c := range []struct{ s, want string }{
		{"", "\x00"},
		{"ab", "\x02ab"},
		{"é", "\x02\xc3\xa9"},
		{"\x00", "\x01\x00"},
		{"\xff\x80", "\x02\xff\x80"},
		{strings.Repeat("a", 127), "\x7f" + strings.Repeat("a", 127)},
		{strings.Repeat("a", 128), "\x80\x01" + strings.Repeat("a", 128)},
		{strings.Repeat("é", 150), "\xac\x02" + strings.Repeat("é", 150)},
		{strings.Repeat("\x00", 1<<21), "\x80\x80\x80\x01" + strings.Repeat("\x00", 1<<21)},
	} {
		if got := Text(c.s); string(got) != c.want {
			t.Errorf("Text(%.40q) = %.40x, want %.40x", c.s, got, c.want)
		}
	}
}

func TestWordsExamples(t *testing.T) {
	for _, c := range []struct {
		l    []uint32
		want string
	}{
		{nil, "\x00"},
		{[]uint32{}, "\x00"},
		{[]uint32{1}, "\x01\x01\x00\x00\x00"},
		{[]uint32{0}, "\x01\x00\x00\x00\x00"},
		{[]uint32{0x12345678, 0xfedcba98}, "\x02\x78\x56\x34\x12\x98\xba\xdc\xfe"},
		{make([]uint32, 127), "\x7f" + strings.Repeat("\x00", 4*127)},
		{make([]uint32, 128), "\x80\x01" + strings.Repeat("\x00", 4*128)},
		{make([]uint32, 300), "\xac\x02" + strings.Repeat("\x00", 4*300)},
	} {
		if got := Words(c.l); string(got) != c.want {
			t.Errorf("Words(%x) = %x, want %x", c.l, got, c.want)
		}
	}
	want := slowVar(uint64(len(sampleNumbers)))
	for _, w := range sampleNumbers {
		want = append(want, slowWord(w)...)
	}
	if got := Words(sampleNumbers); !bytes.Equal(got, want) {
		t.Errorf("Words(%x) = %x, want %x", sampleNumbers, got, want)
	}
}

func TestReaderVarExamples(t *testing.T) {
	for _, c := range []struct {
		b    string
		most uint32
		want uint32
		left int
		err  api.Errno
	}{
		{"\x05", 5, 5, 0, api.OK},
		{"\x05", 4, 0, 0, api.ErrLong},
		{"\x05x", 9, 5, 1, api.OK},
		{"\x00", 0, 0, 0, api.OK},
		{"\x00\x80", 0, 0, 1, api.OK},
		{"\x01", 0, 0, 0, api.ErrLong},
		{"\x7f", 127, 127, 0, api.OK},
		{"\x80\x01", 128, 128, 0, api.OK},
		{"\x80\x01", 127, 0, 0, api.ErrLong},
		{"\xac\x02xyz", 300, 300, 3, api.OK},
		{"\xff\xff\xff\xff\x0f", 1<<32 - 1, 1<<32 - 1, 0, api.OK},
		{"\xff\xff\xff\xff\x0f\xff", 1<<32 - 1, 1<<32 - 1, 1, api.OK},
		{"\xff\xff\xff\xff\x0f", 1<<32 - 2, 0, 0, api.ErrLong},
		{"\x80\x80\x80\x80\x08", 1 << 31, 1 << 31, 0, api.OK},
		{"", 9, 0, 0, api.ErrCut},
		{"\x80", 9, 0, 0, api.ErrCut},
		{"\xff\xff", 0, 0, 0, api.ErrCut},
		{"\x80\x80\x80", 9, 0, 0, api.ErrCut},
		{"\xff\xff\xff\xff", 9, 0, 0, api.ErrCut},
		{"\x80\x80\x80\x80\x80", 9, 0, 0, api.ErrForm},
		{"\xff\xff\xff\xff\xff", 1<<32 - 1, 0, 0, api.ErrForm},
		{"\x80\x80\x80\x80\x80\x00", 9, 0, 0, api.ErrForm},
		{"\x81\x80\x80\x80\x80\x01", 9, 0, 0, api.ErrForm},
		{"\x80\x80\x80\x80\x80\x80\x80\x80\x80\x80\x80", 9, 0, 0, api.ErrForm},
		{"\x80\x00", 9, 0, 0, api.ErrForm},
		{"\x80\x00", 0, 0, 0, api.ErrForm},
		{"\x85\x00", 4, 0, 0, api.ErrForm},
		{"\x85\x80\x00", 9, 0, 0, api.ErrForm},
		{"\x80\x80\x80\x80\x00", 9, 0, 0, api.ErrForm},
		{"\xff\xff\xff\xff\x00", 1<<32 - 1, 0, 0, api.ErrForm},
		{"\x80\x80\x80\x80\x10", 1<<32 - 1, 0, 0, api.ErrForm},
		{"\xff\xff\xff\xff\x10", 0, 0, 0, api.ErrForm},
		{"\x80\x80\x80\x80\x20", 1<<32 - 1, 0, 0, api.ErrForm},
		{"\xff\xff\xff\xff\x7f", 1<<32 - 1, 0, 0, api.ErrForm},
	} {
		r := New([]byte(c.b))
		if got := r.Var(c.most); got != c.want {
			t.Errorf("New(%x).Var(%d) = %d, want %d", c.b, c.most, got, c.want)
		}
		wantState(t, "New("+c.b+").Var", r, c.left, c.err)
	}
}

func TestReaderVarOfAllShortBytes(t *testing.T) {
	for _, b := range allBytes(6) {
		for _, most := range []uint32{0, 127, 1 << 21, math.MaxUint32} {
			want, size, wantErr := slowReadVar(b, float64(most))
			left := 0
			if wantErr == api.OK {
				left = len(b) - size
			}
			r := New(b)
			if got := r.Var(most); got != want || r.Left() != left || r.Err() != wantErr {
				t.Fatalf("New(%x).Var(%d) = %d, %d left, error %d, want %d, %d and %d", b, most, got, r.Left(), int(r.Err()), want, left, int(wantErr))
			}
		}
	}
}

func TestReaderVarAtAllBounds(t *testing.T) {
	for _, n := range sampleNumbers {
		for _, most := range append(slices.Clone(sampleNumbers), n-1, n, n+1) {
			r := New(slowVar(uint64(n)))
			want, wantErr := n, api.OK
			if n > most {
				want, wantErr = 0, api.ErrLong
			}
			if got := r.Var(most); got != want || r.Err() != wantErr {
				t.Errorf("Var(%d) at %d = %d, error %d, want %d and %d", most, n, got, int(r.Err()), want, int(wantErr))
			}
		}
	}
}

func TestReaderTextExamples(t *testing.T) {
	long := strings.Repeat("é", 150)
	for _, c := range []struct {
		b    string
		most int
		want string
		left int
		err  api.Errno
	}{
		{"\x02ab", 5, "ab", 0, api.OK},
		{"\x02ab", 2, "ab", 0, api.OK},
		{"\x02ab", 1, "", 0, api.ErrLong},
		{"\x02abc", 2, "ab", 1, api.OK},
		{"\x02a", 2, "", 0, api.ErrCut},
		{"\x02", 2, "", 0, api.ErrCut},
		{"\x02", 1, "", 0, api.ErrLong},
		{"\x01\xff", 1, "\xff", 0, api.OK},
		{"\x03\x00é", 3, "\x00é", 0, api.OK},
		{"", 2, "", 0, api.ErrCut},
		{"\x80", 2, "", 0, api.ErrCut},
		{"\x82\x00ab", 2, "", 0, api.ErrForm},
		{"\x80\x80\x80\x80\x80ab", 2, "", 0, api.ErrForm},
		{"\x00", 0, "", 0, api.OK},
		{"\x00ab", 0, "", 2, api.OK},
		{"\x00", -1, "", 0, api.OK},
		{"\x00ab", math.MinInt, "", 2, api.OK},
		{"\x01a", -1, "", 0, api.ErrLong},
		{"\x01a", math.MinInt, "", 0, api.ErrLong},
		{"\x01a", farMost, "a", 0, api.OK},
		{"\x01a", math.MaxInt, "a", 0, api.OK},
		{"\xac\x02" + long, 300, long, 0, api.OK},
		{"\xac\x02" + long, 299, "", 0, api.ErrLong},
		{"\xac\x02" + long[:299], 300, "", 0, api.ErrCut},
		{"\xff\xff\xff\xff\x0fab", math.MaxInt, "", 0, api.ErrCut},
		{"\xff\xff\xff\xff\x0fab", math.MaxUint32, "", 0, api.ErrCut},
		{"\xff\xff\xff\xff\x0fab", math.MaxUint32 - 1, "", 0, api.ErrLong},
		{"\xff\xff\xff\xff\x10ab", math.MaxInt, "", 0, api.ErrForm},
	} {
		r := New([]byte(c.b))
		if got := r.Text(c.most); got != c.want {
			t.Errorf("New(%.40x).Text(%d) = %.40q, want %.40q", c.b, c.most, got, c.want)
		}
		wantState(t, "New("+c.b+").Text", r, c.left, c.err)
	}
}

func TestReaderTextOfAllShortBytes(t *testing.T) {
	for _, b := range allBytes(4) {
		for _, most := range sampleBounds {
			want, size, wantErr := slowReadText(b, most)
			left := 0
			if wantErr == api.OK {
				left = len(b) - size
			}
			r := New(b)
			if got := r.Text(most); got != want || r.Left() != left || r.Err() != wantErr {
				t.Fatalf("New(%x).Text(%d) = %q, %d left, error %d, want %q, %d and %d", b, most, got, r.Left(), int(r.Err()), want, left, int(wantErr))
			}
		}
	}
}

func TestReaderWordExamples(t *testing.T) {
	for _, c := range []struct {
		b    string
		want uint32
		left int
		err  api.Errno
	}{
		{"\x78\x56\x34\x12", 0x12345678, 0, api.OK},
		{"\x00\x00\x00\x80x", 0x80000000, 1, api.OK},
		{"\xff\xff\xff\xff\xff", 0xffffffff, 1, api.OK},
		{"\x00\x00\x00\x00", 0, 0, api.OK},
		{"\x01\x00\x00\x00\x02\x00\x00\x00", 1, 4, api.OK},
		{"", 0, 0, api.ErrCut},
		{"\x01", 0, 0, api.ErrCut},
		{"\x01\x02", 0, 0, api.ErrCut},
		{"\x01\x02\x03", 0, 0, api.ErrCut},
	} {
		r := New([]byte(c.b))
		if got := r.Word(); got != c.want {
			t.Errorf("New(%x).Word() = %x, want %x", c.b, got, c.want)
		}
		wantState(t, "New("+c.b+").Word", r, c.left, c.err)
	}
}

func TestReaderWordsExamples(t *testing.T) {
	for _, c := range []struct {
		b    string
		most int
		want []uint32
		left int
		err  api.Errno
	}{
		{"\x01\x09\x00\x00\x00", 3, []uint32{9}, 0, api.OK},
		{"\x01\x09\x00\x00\x00\x07", 1, []uint32{9}, 1, api.OK},
		{"\x02\x78\x56\x34\x12\x98\xba\xdc\xfe", 2, []uint32{0x12345678, 0xfedcba98}, 0, api.OK},
		{"\x02\x78\x56\x34\x12\x98\xba\xdc\xfe", 1, nil, 0, api.ErrLong},
		{"\x02\x78\x56\x34\x12\x98\xba\xdc", 2, nil, 0, api.ErrCut},
		{"\x02\x78\x56\x34\x12", 2, nil, 0, api.ErrCut},
		{"\x01\x78\x56\x34", 2, nil, 0, api.ErrCut},
		{"\x01", 2, nil, 0, api.ErrCut},
		{"\x03", 2, nil, 0, api.ErrLong},
		{"", 2, nil, 0, api.ErrCut},
		{"\x80", 2, nil, 0, api.ErrCut},
		{"\x81\x00\x01\x00\x00\x00", 2, nil, 0, api.ErrForm},
		{"\x00", 0, nil, 0, api.OK},
		{"\x00\x01\x00\x00\x00", -1, nil, 4, api.OK},
		{"\x00", math.MinInt, nil, 0, api.OK},
		{"\x01\x01\x00\x00\x00", -1, nil, 0, api.ErrLong},
		{"\x01\x01\x00\x00\x00", math.MinInt, nil, 0, api.ErrLong},
		{"\x01\x01\x00\x00\x00", farMost, []uint32{1}, 0, api.OK},
		{"\x01\x01\x00\x00\x00", math.MaxInt, []uint32{1}, 0, api.OK},
		{"\x80\x80\x80\x80\x04", math.MaxInt, nil, 0, api.ErrCut},
		{"\x81\x80\x80\x80\x04\x01\x00\x00\x00", math.MaxInt, nil, 0, api.ErrCut},
		{"\x80\x80\x80\x80\x08\x01\x00\x00\x00", math.MaxInt, nil, 0, api.ErrCut},
		{"\xff\xff\xff\xff\x0f\x01\x00\x00\x00", math.MaxInt, nil, 0, api.ErrCut},
		{"\xff\xff\xff\xff\x0f\x01\x00\x00\x00", math.MaxUint32 - 1, nil, 0, api.ErrLong},
	} {
		r := New([]byte(c.b))
		if got := r.Words(c.most); !slices.Equal(got, c.want) {
			t.Errorf("New(%x).Words(%d) = %x, want %x", c.b, c.most, got, c.want)
		}
		wantState(t, "New("+c.b+").Words", r, c.left, c.err)
	}
}

func TestReaderWordsOfAllShortBytes(t *testing.T) {
	lists := allBytes(3)
	for _, b := range allBytes(2) {
		for n := range 12 {
			lists = append(lists, append(slices.Clone(b), "\x01\x02\x03\x04\x85\x86\x87\x88\x00\x00\x00\xff"[:n]...))
		}
	}
	for _, b := range lists {
		for _, most := range sampleBounds {
			want, size, wantErr := slowReadWords(b, most)
			left := 0
			if wantErr == api.OK {
				left = len(b) - size
			}
			r := New(b)
			if got := r.Words(most); !slices.Equal(got, want) || r.Left() != left || r.Err() != wantErr {
				t.Fatalf("New(%x).Words(%d) = %x, %d left, error %d, want %x, %d and %d", b, most, got, r.Left(), int(r.Err()), want, left, int(wantErr))
			}
		}
	}
}

func TestReaderOfManyThings(t *testing.T) {
	r := New([]byte("\x02ab\x01\x09\x00\x00\x00\xac\x02\x00\x00\x04\x03\x02\x01\x07"))
	wantState(t, "ahead of all", r, 17, api.OK)
	if s := r.Text(5); s != "ab" {
		t.Errorf("Text = %q", s)
	}
	wantState(t, "behind a text", r, 14, api.OK)
	if l := r.Words(3); !slices.Equal(l, []uint32{9}) {
		t.Errorf("Words = %x", l)
	}
	wantState(t, "behind words", r, 9, api.OK)
	if n := r.Var(1000); n != 300 {
		t.Errorf("Var = %d", n)
	}
	wantState(t, "behind a number", r, 7, api.OK)
	if s, l := r.Text(0), r.Words(0); s != "" || len(l) != 0 {
		t.Errorf("Text = %q, Words = %x", s, l)
	}
	wantState(t, "behind what is empty", r, 5, api.OK)
	if w := r.Word(); w != 0x01020304 {
		t.Errorf("Word = %x", w)
	}
	wantState(t, "behind a word", r, 1, api.OK)
	if w := r.Word(); w != 0 {
		t.Errorf("Word = %x", w)
	}
	wantNothing(t, "behind an error", r, api.ErrCut)
}

func TestFirstErrorStays(t *testing.T) {
	// What stands behind the fault would be read well, or with other errors.
	const rest = "\x00\x01a\x80\x00\x80\x80\x80\x80\x80\x05"
	for _, c := range []struct {
		what string
		b    string
		read func(r *Reader)
		want api.Errno
	}{
		{"Var cut", "\x80", func(r *Reader) { r.Var(9) }, api.ErrCut},
		{"Var without end", "\x80\x80\x80\x80\x80" + rest, func(r *Reader) { r.Var(9) }, api.ErrForm},
		{"Var beyond a word", "\xff\xff\xff\xff\x1f" + rest, func(r *Reader) { r.Var(9) }, api.ErrForm},
		{"Var with bytes to spare", "\x80\x00" + rest, func(r *Reader) { r.Var(9) }, api.ErrForm},
		{"Var too great", "\x05" + rest, func(r *Reader) { r.Var(4) }, api.ErrLong},
		{"Text cut", "\x20" + rest, func(r *Reader) { r.Text(99) }, api.ErrCut},
		{"Text's number cut", "\x80", func(r *Reader) { r.Text(99) }, api.ErrCut},
		{"Text's number in a wrong form", "\x80\x00" + rest, func(r *Reader) { r.Text(99) }, api.ErrForm},
		{"Text too long", "\x02" + rest, func(r *Reader) { r.Text(1) }, api.ErrLong},
		{"Word cut", "\x00\x00\x00", func(r *Reader) { r.Word() }, api.ErrCut},
		{"Words cut", "\x03" + rest, func(r *Reader) { r.Words(99) }, api.ErrCut},
		{"Words' number in a wrong form", "\x80\x00" + rest, func(r *Reader) { r.Words(99) }, api.ErrForm},
		{"too many Words", "\x02" + rest, func(r *Reader) { r.Words(1) }, api.ErrLong},
	} {
		r := New([]byte(c.b))
		c.read(r)
		wantNothing(t, c.what, r, c.want)
	}
}

func TestNilReader(t *testing.T) {
	var r *Reader
	wantNothing(t, "nil", r, api.ErrNil)
}

func TestReaderOfNothing(t *testing.T) {
	for _, b := range [][]byte{nil, {}} {
		r := New(b)
		if r == nil {
			t.Fatal("New tells no reader")
		}
		wantState(t, "ahead of nothing", r, 0, api.OK)
		r.Var(9)
		wantNothing(t, "behind nothing", r, api.ErrCut)
	}
}

func TestReaderDoesNotKeepItsBytes(t *testing.T) {
	b := []byte("\x02ab\x01\x09\x00\x00\x00")
	r := New(b)
	clear(b)
	if s, l := r.Text(9), r.Words(9); s != "ab" || !slices.Equal(l, []uint32{9}) {
		t.Errorf("what is read hangs on bytes that came later: %q, %x", s, l)
	}
	wantState(t, "at the end", r, 0, api.OK)
}

func TestReadersHaveNothingInCommon(t *testing.T) {
	b := []byte("\x02ab\x01\x09\x00\x00\x00\x80\x00")
	first, second := New(b), New(b)
	first.Text(9)
	first.Words(9)
	first.Var(9)
	wantState(t, "the first one", first, 0, api.ErrForm)
	wantState(t, "the second one", second, len(b), api.OK)
	if s := second.Text(9); s != "ab" {
		t.Errorf("Text = %q", s)
	}
	if string(b) != "\x02ab\x01\x09\x00\x00\x00\x80\x00" {
		t.Errorf("the bytes are changed: %x", b)
	}
}

func TestAnswersAreNewMemory(t *testing.T) {
	spoil := func(b []byte) {
		b = b[:cap(b)]
		for i := range b {
			b[i] ^= 0xff
		}
	}
	lay := func() [][]byte {
		return [][]byte{Var(300), Text("ab"), Word(0x12345678), Words([]uint32{1, 2})}
	}
	for i := range lay() {
		laid := lay()
		spoil(laid[i])
		for j, b := range lay() {
			if j != i && !bytes.Equal(laid[j], b) || !bytes.Equal(b, lay()[j]) {
				t.Errorf("the answers %d and %d share memory", i, j)
			}
		}
	}
	r := New([]byte("\x01\x01\x00\x00\x00\x01\x02\x00\x00\x00"))
	words := r.Words(9)
	words = words[:cap(words)]
	for i := range words {
		words[i] = 77
	}
	if l := r.Words(9); !slices.Equal(l, []uint32{2}) {
		t.Errorf("Words = %x", l)
	}
	list := []uint32{1, 2, 3}
	spoil(Words(list[:2]))
	if !slices.Equal(list, []uint32{1, 2, 3}) {
		t.Errorf("the argument is changed: %x", list)
	}
}

func TestWhatIsLaidIsReadAgain(t *testing.T) {
	texts := []string{"", "a", "é", "\x00\xff", strings.Repeat("b", 127), strings.Repeat("b", 128), strings.Repeat("\x80", 20000)}
	for i, n := range sampleNumbers {
		s, l := texts[i%len(texts)], sampleNumbers[:i]
		laid := slices.Concat(Var(n), Text(s), Word(n), Words(l), Text(s), Var(n))
		r := New(laid)
		if got := r.Var(n); got != n {
			t.Errorf("Var(%d) is read as %d", n, got)
		}
		if got := r.Text(len(s)); got != s {
			t.Errorf("Text(%.40q) is read as %.40q", s, got)
		}
		if got := r.Word(); got != n {
			t.Errorf("Word(%x) is read as %x", n, got)
		}
		if got := r.Words(len(l)); !slices.Equal(got, l) {
			t.Errorf("Words(%x) is read as %x", l, got)
		}
		if got := r.Text(math.MaxInt); got != s {
			t.Errorf("Text(%.40q) is read as %.40q", s, got)
		}
		if got := r.Var(math.MaxUint32); got != n {
			t.Errorf("Var(%d) is read as %d", n, got)
		}
		wantState(t, "behind all", r, 0, api.OK)
	}
}

func TestWhatIsLaidCannotBeCut(t *testing.T) {
	for _, n := range sampleNumbers {
		for _, c := range []struct {
			what string
			laid []byte
			read func(r *Reader)
		}{
			{"Var", Var(n), func(r *Reader) { r.Var(n) }},
			{"Text", Text("abc"), func(r *Reader) { r.Text(3) }},
			{"Word", Word(n), func(r *Reader) { r.Word() }},
			{"Words", Words([]uint32{n, n}), func(r *Reader) { r.Words(2) }},
		} {
			for size := range len(c.laid) {
				r := New(c.laid[:size])
				c.read(r)
				wantState(t, c.what+" cut", r, 0, api.ErrCut)
			}
		}
	}
}

func TestOneWayAloneToLay(t *testing.T) {
	read := 0
	for _, b := range allBytes(5) {
		for i, again := range []func(r *Reader) []byte{
			func(r *Reader) []byte { return Var(r.Var(math.MaxUint32)) },
			func(r *Reader) []byte { return Text(r.Text(math.MaxInt)) },
			func(r *Reader) []byte { return Word(r.Word()) },
			func(r *Reader) []byte { return Words(r.Words(math.MaxInt)) },
		} {
			r := New(b)
			laid := again(r)
			if r.Err() != api.OK {
				continue
			}
			read++
			if !bytes.Equal(laid, b[:len(b)-r.Left()]) {
				t.Fatalf("way %d: %x is read, and laid again as %x", i, b, laid)
			}
		}
	}
	if read < 1000 {
		t.Errorf("only %d were read", read)
	}
}
