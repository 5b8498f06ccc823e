package reloc

import (
	"testing"

	"budwood/api"
	"budwood/layout"
)

// slowKind is what the document says of a kind, bit by bit; of what is no kind there is none.
type slowKind struct {
	// from is where its addresses are counted from.
	from byte
	// head has the bits 27 to 31 of its words; whole words have no head.
	head  uint32
	whole bool
	// register tells whether the bits 24 to 26 may be other than 0.
	register bool
}

// The places that addresses are counted from.
const (
	fromSlots = 's'
	fromData  = 'd'
	fromCode  = 'c'
)

// slowKinds tells of each kind, by its number, what the document says.
func slowKinds() []slowKind {
	return []slowKind{
		{from: fromSlots, head: 17},
		{from: fromSlots, head: 2, register: true},
		{from: fromData, head: 2, register: true},
		{from: fromCode, head: 2, register: true},
		{from: fromSlots, whole: true},
		{from: fromData, whole: true},
		{from: fromCode, whole: true},
		{from: fromCode, head: 17},
	}
}

// answer is a word or an address, and an error.
type answer struct {
	word uint32
	err  api.Errno
}

// answerOf takes what a call answers.
func answerOf(w uint32, err api.Errno) answer {
	return answer{word: w, err: err}
}

// slowValue counts up from where a kind's addresses begin, in 64 bits.
func slowValue(r api.Reloc, p layout.Place, slots []uint32) answer {
	kinds := slowKinds()
	if int(r.Kind) >= len(kinds) {
		return answer{err: api.ErrArg}
	}
	from := uint64(p.Code)
	switch kinds[r.Kind].from {
	case fromSlots:
		for at, slot := range slots {
			if at == int(r.Which) {
				return answer{word: slot}
			}
		}
		return answer{err: api.ErrArg}
	case fromData:
		from = uint64(p.Data)
	}
	return answer{word: uint32((from + uint64(r.Which)) % (1 << 32))}
}

// slowReach tells how much room a kind's words have.
func slowReach(k api.Kind) uint64 {
	kinds := slowKinds()
	switch {
	case int(k) >= len(kinds):
		return 0
	case kinds[k].whole:
		return 1<<32 - 1
	}
	return 1<<20 - 1
}

// slowMayBe tells whether a word is a kind's instruction whose address is at least 0: its head, its register, and noughts down to the bit 20.
func slowMayBe(w uint32, of slowKind) bool {
	register := w >> 24 % 8
	return w>>27 == of.head && (register == 0 || of.register) && w>>20%16 == 0
}

// slowApply lays the address beside the head.
func slowApply(w uint32, k api.Kind, v uint32) answer {
	kinds := slowKinds()
	switch {
	case int(k) >= len(kinds):
		return answer{err: api.ErrArg}
	case kinds[k].whole:
		return answer{word: v}
	case !slowMayBe(w, kinds[k]), w<<12 != 0:
		return answer{err: api.ErrWord}
	case uint64(v) > slowReach(k):
		return answer{err: api.ErrReach}
	}
	return answer{word: w + v}
}

// slowUndo takes the address away.
func slowUndo(w uint32, k api.Kind) answer {
	kinds := slowKinds()
	switch {
	case int(k) >= len(kinds):
		return answer{err: api.ErrArg}
	case kinds[k].whole:
		return answer{}
	case !slowMayBe(w, kinds[k]):
		return answer{err: api.ErrWord}
	}
	return answer{word: w - w%(1<<20)}
}

// wantAnswer holds an answer against the one that is due.
func wantAnswer(t *testing.T, what string, got, want answer) {
	t.Helper()
	if got != want {
		t.Fatalf("%s = %08x, %d, want %08x, %d", what, got.word, int(got.err), want.word, int(want.err))
	}
}
