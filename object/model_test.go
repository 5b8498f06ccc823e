package object

import (
	"bytes"
	"slices"
	"testing"

	"budwood/api"
)

// edgeBytes has what numbers end with, go on with, and hold too much with: around the bounds of kinds, of lists, and of texts.
var edgeBytes = []byte{0x00, 0x01, 0x02, 0x03, 0x04, 0x07, 0x08, 0x09, 0x10, 0x11, 0x60, 0x61, 0x7f, 0x80, 0x81, 0x82, 0x84, 0xff}

// slowNumber lays a number by divisions alone.
func slowNumber(n int) []byte {
	if n/128 == 0 {
		return []byte{byte(n)}
	}
	return append([]byte{byte(n%128 + 128)}, slowNumber(n/128)...)
}

// slowTexts lays a list of texts.
func slowTexts(l []string) []byte {
	laid := slowNumber(len(l))
	for _, s := range l {
		laid = append(append(laid, slowNumber(len(s))...), s...)
	}
	return laid
}

// slowWords lays a list of words by divisions alone.
func slowWords(l []uint32) []byte {
	laid := slowNumber(len(l))
	for _, w := range l {
		laid = append(laid, byte(w%256), byte(w/256%256), byte(w/65536%256), byte(w/16777216))
	}
	return laid
}

// slowLay lays a module, whatever its bounds.
func slowLay(m api.Module) []byte {
	laid := []byte{0x42, 0x55, 0x44, 0x31}
	laid = append(append(laid, slowNumber(len(m.Name))...), m.Name...)
	laid = append(laid, slowTexts(m.Exports)...)
	laid = append(laid, slowTexts(m.Imports)...)
	laid = append(laid, slowWords(m.Code)...)
	laid = append(laid, slowWords(m.Data)...)
	laid = append(laid, slowNumber(len(m.Relocs))...)
	for _, r := range m.Relocs {
		laid = append(laid, byte(r.Kind))
		laid = append(laid, slowNumber(int(r.At))...)
		laid = append(laid, slowNumber(int(r.Which))...)
	}
	return laid
}

// slowCheck is a model of Check: all sizes beside their bounds.
func slowCheck(m api.Module) api.Errno {
	sizes := [][2]int{{len(m.Name), 96}, {len(m.Exports), 8}, {len(m.Imports), 16}, {len(m.Code), 512}, {len(m.Data), 128}, {len(m.Relocs), 256}}
	for _, s := range append(slices.Clone(m.Exports), m.Imports...) {
		sizes = append(sizes, [2]int{len(s), 96})
	}
	for _, s := range sizes {
		if s[0] > s[1] {
			return api.ErrLong
		}
	}
	for _, r := range m.Relocs {
		if r.Kind > 7 {
			return api.ErrArg
		}
	}
	return api.OK
}

// slowReader cuts bytes from the front; it knows no bounds, and stops at the end alone.
type slowReader struct {
	rest []byte
	bad  bool
}

// cut reads so many bytes.
func (r *slowReader) cut(n int) []byte {
	if r.bad || n > len(r.rest) {
		r.bad = true
		return nil
	}
	b := r.rest[:n]
	r.rest = r.rest[n:]
	return b
}

// number reads a number, in whatever way it is laid.
func (r *slowReader) number() int {
	sum, factor := 0, 1
	for b := r.cut(1); !r.bad; b = r.cut(1) {
		sum += int(b[0]%128) * factor
		factor *= 128
		if b[0] < 128 {
			return sum
		}
		if factor > 1<<28 {
			r.bad = true
		}
	}
	return 0
}

// short reads a number of at most 16 bits.
func (r *slowReader) short() uint16 {
	n := r.number()
	r.bad = r.bad || n >= 65536
	return uint16(n)
}

// texts reads a list of texts.
func (r *slowReader) texts() []string {
	var l []string
	for n := r.number(); n > 0 && !r.bad; n-- {
		l = append(l, string(r.cut(r.number())))
	}
	return l
}

// words reads a list of words.
func (r *slowReader) words() []uint32 {
	var l []uint32
	for n := r.number(); n > 0 && !r.bad; n-- {
		w := uint32(0)
		for _, b := range slices.Backward(r.cut(4)) {
			w = w*256 + uint32(b)
		}
		l = append(l, w)
	}
	return l
}

// relocs reads a list of relocations.
func (r *slowReader) relocs() []api.Reloc {
	var l []api.Reloc
	for n := r.number(); n > 0 && !r.bad; n-- {
		kind := r.cut(1)
		at, which := r.short(), r.short()
		if !r.bad {
			l = append(l, api.Reloc{Kind: api.Kind(kind[0]), At: at, Which: which})
		}
	}
	return l
}

// slowGet is a model of Get: it reads what may be there in whatever way, and holds the bytes against what the model lays of it.
func slowGet(b []byte) (api.Module, api.Errno) {
	if len(b) > 16384 {
		return api.Module{}, api.ErrLong
	}
	r := &slowReader{rest: b}
	r.cut(4)
	m := api.Module{Name: string(r.cut(r.number())), Exports: r.texts(), Imports: r.texts(), Code: r.words(), Data: r.words(), Relocs: r.relocs()}
	if r.bad || slowCheck(m) != api.OK || !bytes.Equal(slowLay(m), b) {
		return api.Module{}, api.ErrForm
	}
	return m, api.OK
}

// wantGet holds what Get tells against the model; it tells whether there is a module.
func wantGet(t *testing.T, b []byte) bool {
	t.Helper()
	want, wantErr := slowGet(b)
	got, err := Get(b)
	if err != wantErr || !alike(got, want) {
		t.Fatalf("Get(%.200x) = %.200v, %d, want %.200v, %d", b, got, int(err), want, int(wantErr))
	}
	return err == api.OK
}

// allBytes tells all lists of at most n of some bytes.
func allBytes(some []byte, n int) [][]byte {
	lists := [][]byte{nil}
	for from := 0; n > 0; n-- {
		to := len(lists)
		for _, b := range lists[from:to] {
			for _, c := range some {
				lists = append(lists, append(slices.Clone(b), c))
			}
		}
		from = to
	}
	return lists
}

func TestGetOfAllShortBytes(t *testing.T) {
	modules := 0
	for ahead := range 6 {
		for _, b := range allBytes(edgeBytes, 3) {
			for behind := range 8 {
				laid := slices.Concat([]byte("BUD1"), make([]byte, ahead), b, make([]byte, behind))
				if wantGet(t, laid) {
					modules++
				}
			}
		}
	}
	if modules < 300 {
		t.Errorf("%d modules alone", modules)
	}
}

func TestGetOfAllShortRelocs(t *testing.T) {
	for _, b := range allBytes([]byte{0, 1, 3, 4, 7, 8, 0x7f, 0x80, 0xff}, 5) {
		for _, count := range []byte{1, 2} {
			wantGet(t, append([]byte("BUD1\x00\x00\x00\x00\x00"), append([]byte{count}, b...)...))
		}
	}
}

func TestGetOfChangedBytes(t *testing.T) {
	for _, m := range sampleModules() {
		laid := slowLay(m)
		step := 1 + len(laid)/120
		for at := 0; at <= len(laid); at += step {
			wantGet(t, laid[:at])
			for _, c := range edgeBytes {
				wantGet(t, slices.Insert(slices.Clone(laid), at, c))
			}
			if at == len(laid) {
				break
			}
			wantGet(t, slices.Delete(slices.Clone(laid), at, at+1))
			for _, c := range append([]byte{laid[at] - 1, laid[at] + 1}, edgeBytes...) {
				changed := slices.Clone(laid)
				changed[at] = c
				wantGet(t, changed)
			}
		}
	}
}

// TestGetOfAnyBytes takes bytes from a row of numbers that goes its own way, but is the same each time.
func TestGetOfAnyBytes(t *testing.T) {
	seed := uint32(1)
	next := func(n int) int {
		seed = seed*1664525 + 1013904223
		return int(seed>>8) % n
	}
	for range 100000 {
		b := []byte("BUD1")
		for range next(24) {
			b = append(b, byte(next(5)))
		}
		if next(4) == 0 {
			b[next(len(b))] = byte(next(256))
		}
		wantGet(t, b)
	}
}
