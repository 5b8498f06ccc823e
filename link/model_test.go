package link

import (
	"slices"
	"testing"

	"budwood/api"
	"budwood/layout"
)

// Heads of the words that addresses go to: the bits 27 to 31.
const (
	callHead = uint32(17) << 27
	liHead   = uint32(2) << 27
)

// answer is a word and an error.
type answer struct {
	word uint32
	err  api.Errno
}

// answerOf takes what a call answers.
func answerOf(w uint32, err api.Errno) answer {
	return answer{word: w, err: err}
}

// slowSpot is a word of a module, and where it stands; of what fills a page up at is -1.
type slowSpot struct {
	word uint32
	data bool
	at   int
}

// slowSpots lays all words of a module, one behind the other, up to the end of its pages.
func slowSpots(m api.Module) []slowSpot {
	var laid []slowSpot
	for _, data := range []bool{false, true} {
		section := m.Code
		if data {
			section = m.Data
		}
		for at, w := range section {
			laid = append(laid, slowSpot{word: w, data: data, at: at})
		}
		for len(laid)%16 != 0 {
			laid = append(laid, slowSpot{data: data, at: -1})
		}
	}
	return laid
}

// slowValue tells the address of a relocation, of a kind up to 7.
func slowValue(r api.Reloc, p layout.Place, slots []uint32) answer {
	switch r.Kind {
	case 2, 5:
		return answer{word: p.Data + uint32(r.Which)}
	case 3, 6, 7:
		return answer{word: p.Code + uint32(r.Which)}
	}
	if int(r.Which) >= len(slots) {
		return answer{err: api.ErrArg}
	}
	return answer{word: slots[r.Which]}
}

// slowApply adds an address to a word of a kind up to 7.
func slowApply(w uint32, k api.Kind, v uint32) answer {
	isCall, isLi := w == callHead, w>>27 == 2 && w<<8 == 0
	switch {
	case k >= 4 && k <= 6:
		return answer{word: v}
	case (k == 0 || k == 7) && !isCall, k >= 1 && k <= 3 && !isLi:
		return answer{err: api.ErrWord}
	case v >= 1<<20:
		return answer{err: api.ErrReach}
	}
	return answer{word: w + v}
}

// slowWord tells a word of a module that is laid so; it goes over all relocations from the last one to the first, so that the first one that names a word stays.
func slowWord(laid []slowSpot, m api.Module, p layout.Place, slots []uint32, i int) answer {
	if i < 0 || i >= len(laid) {
		return answer{}
	}
	told := answer{word: laid[i].word}
	for n := len(m.Relocs) - 1; n >= 0; n-- {
		r := m.Relocs[n]
		ofData := r.Kind >= 4 && r.Kind <= 6
		if r.Kind > 7 || ofData != laid[i].data || int(r.At) != laid[i].at {
			continue
		}
		told = slowValue(r, p, slots)
		if told.err == api.OK {
			told = slowApply(laid[i].word, r.Kind, told.word)
		}
	}
	return told
}

// slowImage takes all words, and looks for the first error behind that.
func slowImage(m api.Module, p layout.Place, slots []uint32) ([]uint32, api.Errno) {
	if len(m.Code) > 512 || len(m.Data) > 128 || len(m.Relocs) > 256 {
		return nil, api.ErrLong
	}
	var words []uint32
	var errs []api.Errno
	laid := slowSpots(m)
	for i := range laid {
		told := slowWord(laid, m, p, slots, i)
		words, errs = append(words, told.word), append(errs, told.err)
	}
	if bad := slices.IndexFunc(errs, func(e api.Errno) bool { return e != api.OK }); bad >= 0 {
		return nil, errs[bad]
	}
	return words, api.OK
}

// wantErr holds an error against the one that is due.
func wantErr(t *testing.T, what string, got, want api.Errno) {
	t.Helper()
	if got != want {
		t.Fatalf("%s: %d, want %d", what, int(got), int(want))
	}
}

// wantAnswer holds an answer against the one that is due.
func wantAnswer(t *testing.T, what string, got, want answer) {
	t.Helper()
	if got != want {
		t.Fatalf("%s = %08x, %d, want %08x, %d", what, got.word, int(got.err), want.word, int(want.err))
	}
}

// wantWords holds words and an error against those that are due.
func wantWords(t *testing.T, what string, got []uint32, err api.Errno, want []uint32, due api.Errno) {
	t.Helper()
	if !slices.Equal(got, want) || err != due {
		t.Fatalf("%s = %08x, %d, want %08x, %d", what, got, int(err), want, int(due))
	}
}
