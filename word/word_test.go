package word

import (
	"math"
	"strings"
	"testing"

	"budwood/api"
)

// sampleWords has words whose bits differ at the ends, in the middle and all over.
var sampleWords = []uint32{
	0, 1, 2, 7, 0x0f, 0x80, 0xffff, 0x10000, 0x12345678, 0x55555555, 0x7fffffff,
	0x80000000, 0x80000001, 0x89abcdef, 0xaaaaaaaa, 0xdeadbeef, 0xf0000001, 0xfffffffe, 0xffffffff,
}

// sampleBounds has places and widths from below 0 to beyond 32, and such as wrap round when they are added up.
func sampleBounds() []int {
	l := []int{math.MinInt, math.MinInt + 1, math.MinInt32, math.MaxInt32, math.MaxInt - 31, math.MaxInt - 1, math.MaxInt}
	for i := -34; i <= 66; i++ {
		l = append(l, i)
	}
	return l
}

// partMayBe tells it by floats, which don't wrap round.
func partMayBe(at, n int) bool {
	return at >= 0 && n >= 0 && float64(at)+float64(n) <= 32
}

// bit tells one bit of a word by divisions alone.
func bit(w uint32, i int) uint32 {
	for range i {
		w /= 2
	}
	return w % 2
}

// slowBits reads a part bit by bit.
func slowBits(w uint32, at, n int) uint32 {
	sum, worth := uint32(0), uint32(1)
	for i := range n {
		sum += bit(w, at+i) * worth
		worth *= 2
	}
	return sum
}

// slowWith puts a part bit by bit.
func slowWith(w uint32, at, n int, v uint32) uint32 {
	sum, worth := uint32(0), uint32(1)
	for i := range 32 {
		b := bit(w, i)
		if i >= at && i < at+n {
			b = bit(v, i-at)
		}
		sum += b * worth
		worth *= 2
	}
	return sum
}

func TestBitsExamples(t *testing.T) {
	for _, c := range []struct {
		w     uint32
		at, n int
		want  uint32
	}{
		{0xf0000001, 28, 4, 15},
		{0xf0000001, 0, 4, 1},
		{0x12345678, 0, 32, 0x12345678},
		{0x12345678, 8, 8, 0x56},
		{0x80000000, 31, 1, 1},
		{0xffffffff, 31, 2, 0},
		{0xffffffff, 1, 32, 0},
		{0xffffffff, 0, 33, 0},
		{0xffffffff, 32, 0, 0},
		{0xffffffff, 33, 0, 0},
		{0xffffffff, -1, 4, 0},
		{0xffffffff, 4, -1, 0},
		{0xffffffff, math.MaxInt, math.MaxInt, 0},
		{0xffffffff, math.MaxInt, 1, 0},
		{0xffffffff, 1, math.MaxInt, 0},
	} {
		if got := Bits(c.w, c.at, c.n); got != c.want {
			t.Errorf("Bits(%x, %d, %d) = %x, want %x", c.w, c.at, c.n, got, c.want)
		}
	}
}

func TestWithExamples(t *testing.T) {
	for _, c := range []struct {
		w     uint32
		at, n int
		v     uint32
		want  uint32
	}{
		{0, 4, 4, 31, 240},
		{0xffffffff, 4, 4, 0, 0xffffff0f},
		{0xffffffff, 28, 4, 0x12, 0x2fffffff},
		{0x12345678, 0, 32, 0xdeadbeef, 0xdeadbeef},
		{7, 3, 0, 31, 7},
		{7, 32, 0, 31, 7},
		{7, 33, 0, 31, 7},
		{7, -1, 4, 31, 7},
		{7, 4, -1, 31, 7},
		{7, 29, 4, 31, 7},
		{7, 0, 33, 31, 7},
		{7, math.MaxInt, math.MaxInt, 31, 7},
		{7, math.MaxInt, 1, 31, 7},
		{7, 1, math.MaxInt, 31, 7},
	} {
		if got := With(c.w, c.at, c.n, c.v); got != c.want {
			t.Errorf("With(%x, %d, %d, %x) = %x, want %x", c.w, c.at, c.n, c.v, got, c.want)
		}
	}
}

func TestBitsAtAllBounds(t *testing.T) {
	for _, w := range sampleWords {
		for _, at := range sampleBounds() {
			for _, n := range sampleBounds() {
				want := uint32(0)
				if partMayBe(at, n) {
					want = slowBits(w, at, n)
				}
				if got := Bits(w, at, n); got != want {
					t.Fatalf("Bits(%x, %d, %d) = %x, want %x", w, at, n, got, want)
				}
			}
		}
	}
}

func TestWithAtAllBounds(t *testing.T) {
	for i, w := range sampleWords {
		v := sampleWords[len(sampleWords)-1-i]
		for _, at := range sampleBounds() {
			for _, n := range sampleBounds() {
				want := w
				if partMayBe(at, n) {
					want = slowWith(w, at, n, v)
				}
				if got := With(w, at, n, v); got != want {
					t.Fatalf("With(%x, %d, %d, %x) = %x, want %x", w, at, n, v, got, want)
				}
			}
		}
	}
}

func TestSignedExamples(t *testing.T) {
	for _, c := range []struct {
		v    uint32
		n    int
		want int32
	}{
		{15, 4, -1},
		{7, 4, 7},
		{8, 4, -8},
		{0x17, 4, 7},
		{0xfffffff7, 4, 7},
		{0, 1, 0},
		{1, 1, -1},
		{0x1fffff, 21, -1},
		{0x100000, 21, -1048576},
		{0x7fffffff, 32, math.MaxInt32},
		{0x80000000, 32, math.MinInt32},
		{0xffffffff, 32, -1},
		{0xffffffff, 31, -1},
		{15, 0, 0},
		{15, -1, 0},
		{15, 33, 0},
		{15, 64, 0},
		{15, math.MinInt, 0},
		{15, math.MaxInt, 0},
	} {
		if got := Signed(c.v, c.n); got != c.want {
			t.Errorf("Signed(%x, %d) = %d, want %d", c.v, c.n, got, c.want)
		}
	}
}

func TestSignedAtAllWidths(t *testing.T) {
	for _, v := range sampleWords {
		for _, n := range sampleBounds() {
			want := int64(0)
			if n >= 1 && n <= 32 {
				want = int64(slowBits(v, 0, n))
				if bit(v, n-1) == 1 {
					want -= int64(math.Pow(2, float64(n)))
				}
			}
			if got := Signed(v, n); int64(got) != want {
				t.Fatalf("Signed(%x, %d) = %d, want %d", v, n, got, want)
			}
		}
	}
}

func TestFitsExamples(t *testing.T) {
	for _, c := range []struct {
		v    int64
		n    int
		want bool
	}{
		{8, 4, false},
		{7, 4, true},
		{-8, 4, true},
		{-9, 4, false},
		{0, 1, true},
		{-1, 1, true},
		{1, 1, false},
		{-2, 1, false},
		{1<<31 - 1, 32, true},
		{1 << 31, 32, false},
		{-1 << 31, 32, true},
		{-1<<31 - 1, 32, false},
		{math.MaxInt64, 32, false},
		{math.MinInt64, 32, false},
		{0, 0, false},
		{0, -1, false},
		{0, 33, false},
		{0, 64, false},
		{0, math.MinInt, false},
		{0, math.MaxInt, false},
	} {
		if got := Fits(c.v, c.n); got != c.want {
			t.Errorf("Fits(%d, %d) = %v, want %v", c.v, c.n, got, c.want)
		}
	}
}

func TestFitsAtAllWidths(t *testing.T) {
	for _, n := range sampleBounds() {
		if n < 1 || n > 32 {
			if Fits(0, n) || Fits(-1, n) || Fits(1, n) {
				t.Errorf("Fits with n = %d", n)
			}
			continue
		}
		half := int64(math.Pow(2, float64(n-1)))
		if !Fits(half-1, n) || !Fits(-half, n) || Fits(half, n) || Fits(-half-1, n) {
			t.Errorf("Fits at the ends of %d bits", n)
		}
	}
}

func TestCutExamples(t *testing.T) {
	for _, c := range []struct {
		v    int32
		n    int
		want uint32
	}{
		{-1, 3, 7},
		{-1, 1, 1},
		{-1, 31, 0x7fffffff},
		{-1, 32, 0xffffffff},
		{-1, 33, 0xffffffff},
		{-2, math.MaxInt, 0xfffffffe},
		{-1, 0, 0},
		{-1, -1, 0},
		{-1, math.MinInt, 0},
		{9, 3, 1},
		{-4, 21, 0x1ffffc},
		{math.MinInt32, 32, 0x80000000},
		{math.MinInt32, 31, 0},
		{math.MaxInt32, 64, 0x7fffffff},
	} {
		if got := Cut(c.v, c.n); got != c.want {
			t.Errorf("Cut(%d, %d) = %x, want %x", c.v, c.n, got, c.want)
		}
	}
}

func TestCutAtAllWidths(t *testing.T) {
	for _, w := range sampleWords {
		for _, n := range sampleBounds() {
			want := slowBits(w, 0, min(max(n, 0), 32))
			if got := Cut(int32(w), n); got != want {
				t.Fatalf("Cut(%d, %d) = %x, want %x", int32(w), n, got, want)
			}
		}
	}
}

func TestHexAndParseExamples(t *testing.T) {
	for _, c := range []struct {
		w    uint32
		text string
	}{
		{0, "00000000"},
		{10, "0000000a"},
		{0x01234567, "01234567"},
		{0x89abcdef, "89abcdef"},
		{0xfedcba98, "fedcba98"},
		{0xdeadbeef, "deadbeef"},
		{0x7fffffff, "7fffffff"},
		{0x80000000, "80000000"},
		{0xa0000000, "a0000000"},
		{0xffffffff, "ffffffff"},
	} {
		if got := Hex(c.w); got != c.text {
			t.Errorf("Hex(%d) = %q, want %q", c.w, got, c.text)
		}
		if got, err := Parse(c.text); got != c.w || err != api.OK {
			t.Errorf("Parse(%q) = %d, %d, want %d, 0", c.text, got, int(err), c.w)
		}
	}
}

func TestParseRefuses(t *testing.T) {
	texts := []string{
		"", "0", "a", "000000a", "00000000a", "000000000", "0000000000000000",
		"A0000000", "0000000A", "DEADBEEF", "g0000000", "0000000g", "G0000000",
		"-0000001", "+0000001", " 0000001", "0000001 ", "0x000001", "0000_001", "0000001\n",
		"000000é", "00000000é", "\x00\x00\x00\x00\x00\x00\x00\x00", "\xff0000000", "0000000\x80",
		"٠٠٠٠", "0000000٠", strings.Repeat("0", 4096),
	}
	for _, s := range texts {
		if w, err := Parse(s); w != 0 || err != api.ErrForm {
			t.Errorf("Parse(%q) = %x, %d, want 0, ErrForm", s, w, int(err))
		}
	}
}

func TestParseOfEachByteAtEachPlace(t *testing.T) {
	for place := range 8 {
		for c := range 256 {
			text := []byte("12345678")
			text[place] = byte(c)
			d := strings.IndexByte("0123456789abcdef", byte(c))
			want, wantErr := slowWith(0x12345678, 28-4*place, 4, uint32(max(d, 0))), api.OK
			if d < 0 {
				want, wantErr = 0, api.ErrForm
			}
			if got, err := Parse(string(text)); got != want || err != wantErr {
				t.Errorf("Parse(%q) = %x, %d, want %x, %d", text, got, int(err), want, int(wantErr))
			}
		}
	}
}

func TestWhatWasPutIsRead(t *testing.T) {
	for _, w := range sampleWords {
		for _, v := range sampleWords {
			for at := 0; at <= 32; at++ {
				for n := 0; n <= 32-at; n++ {
					put := With(w, at, n, v)
					if got := Bits(put, at, n); got != Bits(v, 0, n) {
						t.Fatalf("With(%x, %d, %d, %x): %x is read", w, at, n, v, got)
					}
					if Bits(put, 0, at) != Bits(w, 0, at) || Bits(put, at+n, 32-at-n) != Bits(w, at+n, 32-at-n) {
						t.Fatalf("With(%x, %d, %d, %x) = %x: more than the part is changed", w, at, n, v, put)
					}
				}
			}
		}
	}
}

func TestNumberThatFitsIsTheOneOfItsBits(t *testing.T) {
	for _, w := range sampleWords {
		for n := 1; n <= 32; n++ {
			v := int32(w)
			same := Signed(Cut(v, n), n) == v
			if fits := Fits(int64(v), n); fits != same {
				t.Fatalf("Fits(%d, %d) = %v, but Signed of Cut is it: %v", v, n, fits, same)
			}
			if s := Signed(w, n); !Fits(int64(s), n) || Cut(s, n) != Bits(w, 0, n) {
				t.Fatalf("Signed(%x, %d) = %d doesn't lead back", w, n, s)
			}
		}
	}
}

func TestParseOfHexIsTheWord(t *testing.T) {
	for _, w := range sampleWords {
		for at := range 32 {
			v := w ^ 1<<at
			if got, err := Parse(Hex(v)); got != v || err != api.OK {
				t.Fatalf("Parse(Hex(%x)) = %x, %d", v, got, int(err))
			}
		}
	}
}
