package queue

import (
	"bytes"
	"slices"
	"testing"

	"budwood/api"
)

// slowQueue is a model of a queue: all that ever waited, of these how many left, and how many came. A call tells another queue.
type slowQueue struct {
	items []Item
	left  int
	came  int
}

// push is Push.
func (s slowQueue) push(r api.Request) (slowQueue, int, api.Errno) {
	number := s.came
	s.came++
	if len(s.items)-s.left > 7 {
		return s, number, api.ErrQueue
	}
	r.Object = slices.Clone(r.Object)
	s.items = append(slices.Clone(s.items), Item{number, r})
	return s, number, api.OK
}

// peek is Peek.
func (s slowQueue) peek() (Item, bool) {
	if s.left == len(s.items) {
		return Item{}, false
	}
	return s.items[s.left], true
}

// pop is Pop.
func (s slowQueue) pop() (slowQueue, Item, bool) {
	item, waits := s.peek()
	if waits {
		s.left++
	}
	return s, item, waits
}

// slowSame is Same, byte by byte.
func slowSame(a, b api.Request) bool {
	if a.Kind != b.Kind || len(a.Name) != len(b.Name) || len(a.Object) != len(b.Object) {
		return false
	}
	for i := range len(a.Name) {
		if a.Name[i] != b.Name[i] {
			return false
		}
	}
	for i := range a.Object {
		if a.Object[i] != b.Object[i] {
			return false
		}
	}
	return true
}

// sameItem tells whether two items are one; it leans on nothing of the package.
func sameItem(a, b Item) bool {
	return a.Number == b.Number && slowSame(a.Request, b.Request)
}

// request makes a request that no other number makes, below 2^16.
func request(i int) api.Request {
	return api.Request{Kind: uint8(i % 3), Name: string(rune('a' + i%26)), Object: []byte{byte(i >> 8), byte(i)}}
}

// spoil writes over a request's bytes, and over their spare room.
func spoil(r api.Request) {
	whole := r.Object[:cap(r.Object)]
	for i := range whole {
		whole[i] ^= 0xff
	}
}

// wantPush pushes a request on a queue and on its model, holds the answers against one another, and tells the model from then on. Behind the call, what was pushed is spoilt.
func wantPush(t *testing.T, q *Queue, s slowQueue, r api.Request) slowQueue {
	t.Helper()
	s, want, wantErr := s.push(r)
	had := bytes.Clone(r.Object)
	n, err := q.Push(r)
	if n != want || err != wantErr {
		t.Fatalf("Push(%v) = %d, %d, want %d, %d", r, n, int(err), want, int(wantErr))
	}
	if !bytes.Equal(had, r.Object) {
		t.Fatalf("Push changed %v into %v", had, r.Object)
	}
	spoil(r)
	return s
}

// wantPop is wantPush for Pop; what was answered is spoilt.
func wantPop(t *testing.T, q *Queue, s slowQueue) slowQueue {
	t.Helper()
	s, want, wantWaits := s.pop()
	item, waits := q.Pop()
	if !sameItem(item, want) || waits != wantWaits {
		t.Fatalf("Pop() = %v, %t, want %v, %t", item, waits, want, wantWaits)
	}
	spoil(item.Request)
	return s
}

// wantLooks holds all looks at a queue against a model of it; what Peek answers is spoilt.
func wantLooks(t *testing.T, what string, q *Queue, s slowQueue) {
	t.Helper()
	if got, want := q.Len(), len(s.items)-s.left; got != want {
		t.Fatalf("%s: Len() = %d, want %d", what, got, want)
	}
	if got := q.Came(); got != s.came {
		t.Fatalf("%s: Came() = %d, want %d", what, got, s.came)
	}
	want, wantWaits := s.peek()
	for range 2 {
		item, waits := q.Peek()
		if !sameItem(item, want) || waits != wantWaits {
			t.Fatalf("%s: Peek() = %v, %t, want %v, %t", what, item, waits, want, wantWaits)
		}
		spoil(item.Request)
	}
}

// wantQueue holds a queue against a model of it, with all that waits: forks are emptied.
func wantQueue(t *testing.T, what string, q *Queue, s slowQueue) {
	t.Helper()
	f := q.Fork()
	for s.left < len(s.items) {
		wantLooks(t, what, f, s)
		s = wantPop(t, f, s)
	}
	wantLooks(t, what, f, s)
	wantPop(t, f, s)
	wantLooks(t, what+", popped once more", f, s)
}

// filled tells a queue in which length wait, behind turns that came and left.
func filled(t *testing.T, turns, length int) (*Queue, slowQueue) {
	t.Helper()
	q, s := New(), slowQueue{}
	for i := range turns {
		s = wantPush(t, q, s, request(i))
		s = wantPop(t, q, s)
	}
	for i := range length {
		s = wantPush(t, q, s, request(turns+i))
	}
	return q, s
}
