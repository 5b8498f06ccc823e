package queue

import (
	"bytes"
	"fmt"
	"runtime"
	"strings"
	"testing"
	"unsafe"
	"weak"

	"budwood/api"
)

// someRequests has requests, of which some are alike, and some are none that a loader knows.
var someRequests = []api.Request{
	{},
	{Kind: api.Unload},
	{Kind: api.Replace},
	{Kind: 3},
	{Kind: 255},
	{Name: "m"},
	{Name: "M"},
	{Name: "n"},
	{Name: "mm"},
	{Name: "m\x00"},
	{Name: "\xff"},
	{Name: "m", Object: []byte("m")},
	{Object: []byte("m")},
	{Object: []byte{0}},
	{Object: []byte{0, 0}},
	{Object: []byte{0, 1}},
	{Object: []byte{1, 0}},
	{Object: []byte{255}},
	{Kind: api.Replace, Name: "m", Object: []byte("m")},
	{Kind: api.Replace, Name: "m", Object: []byte("n")},
	{Name: strings.Repeat("m", 1000)},
	{Object: bytes.Repeat([]byte{7}, api.MaxObject)},
	{Object: bytes.Repeat([]byte{7}, api.MaxObject+1)},
}

// copyOf tells a request with bytes of its own, and spare room behind them.
func copyOf(r api.Request) api.Request {
	return api.Request{Kind: r.Kind, Name: r.Name, Object: append(make([]byte, 0, len(r.Object)+9), r.Object...)}
}

// TestExample is the chapter's example.
func TestExample(t *testing.T) {
	q := New()
	a, b, c := request(0), request(1), request(2)
	push := func(r api.Request, want int, wantErr api.Errno) {
		t.Helper()
		if n, err := q.Push(r); n != want || err != wantErr {
			t.Fatalf("Push(%v) = %d, %d, want %d, %d", r, n, int(err), want, int(wantErr))
		}
	}
	push(a, 0, api.OK)
	push(b, 1, api.OK)
	if item, waits := q.Pop(); !sameItem(item, Item{0, a}) || !waits {
		t.Fatalf("Pop() = %v, %t", item, waits)
	}
	push(c, 2, api.OK)
	for i := 3; q.Len() < 8; i++ {
		push(request(i), i, api.OK)
	}
	push(a, 9, api.ErrQueue)
	push(a, 10, api.ErrQueue)
	if item, waits := q.Pop(); !sameItem(item, Item{1, b}) || !waits {
		t.Fatalf("Pop() = %v, %t", item, waits)
	}
	push(a, 11, api.OK)
	push(a, 12, api.ErrQueue)
}

// TestNil: P19.1 to P19.3, a nil queue.
func TestNil(t *testing.T) {
	var q *Queue
	for _, r := range someRequests {
		if n, err := q.Push(r); n != 0 || err != api.ErrNil {
			t.Errorf("Push = %d, %d", n, int(err))
		}
	}
	if item, waits := q.Pop(); !sameItem(item, Item{}) || waits {
		t.Errorf("Pop() = %v, %t", item, waits)
	}
	if item, waits := q.Peek(); !sameItem(item, Item{}) || waits {
		t.Errorf("Peek() = %v, %t", item, waits)
	}
	if q.Len() != 0 || q.Came() != 0 {
		t.Errorf("Len() = %d, Came() = %d", q.Len(), q.Came())
	}
	if q.Fork() != nil {
		t.Error("Fork() is a queue")
	}
}

// TestNew: P19.3, none waits, none came; and no queue has what another one has.
func TestNew(t *testing.T) {
	p, q := New(), New()
	if p == nil || q == nil {
		t.Fatal("New() = nil")
	}
	wantQueue(t, "new", p, slowQueue{})
	s := wantPush(t, p, slowQueue{}, request(0))
	wantQueue(t, "another one", q, slowQueue{})
	u := wantPush(t, q, slowQueue{}, request(1))
	u = wantPush(t, q, u, request(2))
	wantQueue(t, "a queue", p, s)
	wantQueue(t, "another one", q, u)
	wantQueue(t, "a new one", New(), slowQueue{})
}

// TestPushOfAll: P19.1, no request is refused for what it is; P19.2, it leaves as it came.
func TestPushOfAll(t *testing.T) {
	q, s := New(), slowQueue{}
	for _, r := range someRequests {
		s = wantPush(t, q, s, copyOf(r))
		wantQueue(t, "pushed", q, s)
		item, waits := q.Pop()
		if !waits || item.Request.Kind != r.Kind || item.Request.Name != r.Name || !bytes.Equal(item.Request.Object, r.Object) {
			t.Fatalf("Pop() = %v, %t, want %v", item, waits, r)
		}
		s, _, _ = s.pop()
		wantQueue(t, "popped", q, s)
	}
}

// TestPushOfTheSame: P19.1, the same request may wait more than once, each time with a number of its own.
func TestPushOfTheSame(t *testing.T) {
	q, s := New(), slowQueue{}
	for range 9 {
		s = wantPush(t, q, s, request(5))
		wantQueue(t, "the same again", q, s)
	}
	for i := range 8 {
		if item, waits := q.Pop(); !sameItem(item, Item{i, request(5)}) || !waits {
			t.Fatalf("Pop() = %v, %t, want %d", item, waits, i)
		}
	}
}

// TestRing: P19.1, P19.2 and P19.4, each length from each place of the ring: it is filled up, some are refused, and all leave.
func TestRing(t *testing.T) {
	for turns := range 20 {
		for length := range 9 {
			q, s := filled(t, turns, length)
			wantQueue(t, "filled", q, s)
			for i := range 12 - length {
				s = wantPush(t, q, s, request(100+i))
				wantQueue(t, "full", q, s)
			}
			if got := q.Came(); got != turns+12 {
				t.Fatalf("Came() = %d", got)
			}
			for range 10 {
				s = wantPop(t, q, s)
				wantQueue(t, "emptied", q, s)
			}
			s = wantPush(t, q, s, request(200))
			wantQueue(t, "behind that", q, s)
			if item, waits := q.Pop(); !sameItem(item, Item{turns + 12, request(200)}) || !waits {
				t.Fatalf("Pop() = %v, %t", item, waits)
			}
		}
	}
}

// TestRefused: P19.1, what is refused counts, does not wait, and changes nothing else.
func TestRefused(t *testing.T) {
	for turns := range 9 {
		q, s := filled(t, turns, 8)
		for i := range 100 {
			if n, err := q.Push(request(300 + i)); n != turns+8+i || err != api.ErrQueue {
				t.Fatalf("Push = %d, %d", n, int(err))
			}
			s.came++
			wantQueue(t, "refused", q, s)
		}
		s = wantPop(t, q, s)
		s = wantPush(t, q, s, request(500))
		wantQueue(t, "behind the refused ones", q, s)
	}
}

// TestEmpty: P19.2, of none nothing is taken, however often.
func TestEmpty(t *testing.T) {
	for turns := range 9 {
		q, s := filled(t, turns, 0)
		for range 20 {
			s = wantPop(t, q, s)
			wantQueue(t, "empty", q, s)
		}
		s = wantPush(t, q, s, request(50))
		wantQueue(t, "behind the empty ones", q, s)
	}
}

// TestPeek: P19.2, looks change nothing, and each answer is the asker's own, with its spare room.
func TestPeek(t *testing.T) {
	q, _ := filled(t, 3, 5)
	one, _ := q.Peek()
	two, _ := q.Peek()
	spoil(one.Request)
	if !sameItem(two, Item{3, request(3)}) {
		t.Fatalf("another Peek() = %v", two)
	}
	three, _ := q.Pop()
	if !sameItem(three, Item{3, request(3)}) {
		t.Fatalf("Pop() = %v", three)
	}
	spoil(three.Request)
	if !sameItem(two, Item{3, request(3)}) {
		t.Fatalf("a Peek() ahead of Pop = %v", two)
	}
	_ = append(two.Request.Object, 1, 2, 3)
	for want := 4; want < 8; want++ {
		if item, waits := q.Pop(); !sameItem(item, Item{want, request(want)}) || !waits {
			t.Fatalf("Pop() = %v, %t, want %d", item, waits, want)
		}
	}
}

// TestFork: P19.3, a fork is as the queue, and then goes its own way.
func TestFork(t *testing.T) {
	wantQueue(t, "a fork of an empty one", New().Fork(), slowQueue{})
	for turns := range 9 {
		for length := range 9 {
			q, s := filled(t, turns, length)
			one, two := q.Fork(), q.Fork()
			wantQueue(t, "a fork", one, s)
			ones := wantPop(t, one, s)
			ones = wantPush(t, one, ones, request(100))
			twos := wantPush(t, two, s, request(200))
			twos = wantPush(t, two, twos, request(201))
			wantQueue(t, "the queue", q, s)
			wantQueue(t, "a fork", one, ones)
			wantQueue(t, "another fork", two, twos)
			wantQueue(t, "a fork of a fork", two.Fork(), twos)
			s = wantPop(t, q, s)
			s = wantPop(t, q, s)
			s = wantPush(t, q, s, request(300))
			wantQueue(t, "the queue", q, s)
			wantQueue(t, "a fork", one, ones)
			wantQueue(t, "another fork", two, twos)
		}
	}
}

// TestForkHasBytesOfItsOwn: P19.3, what a queue hands out is none of its fork's, and the other way round.
func TestForkHasBytesOfItsOwn(t *testing.T) {
	for turns := range 9 {
		q, _ := filled(t, turns, 8)
		f := q.Fork()
		for i := range 8 {
			want := Item{turns + i, request(turns + i)}
			first, other := q, f
			if i%2 == 1 {
				first, other = f, q
			}
			item, _ := first.Pop()
			spoil(item.Request)
			if item, _ := other.Pop(); !sameItem(item, want) {
				t.Fatalf("Pop() of the other = %v, want %v", item, want)
			}
		}
	}
}

// TestSame: P19.3, the same Kind, Name and Object; an empty Object and nil are the same.
func TestSame(t *testing.T) {
	for i, a := range someRequests {
		for k, b := range someRequests {
			if got := Same(copyOf(a), copyOf(b)); got != (i == k) || got != slowSame(a, b) {
				t.Errorf("Same of %d and %d = %t", i, k, got)
			}
		}
	}
	for kind := range 256 {
		for other := range 256 {
			if got := Same(api.Request{Kind: uint8(kind)}, api.Request{Kind: uint8(other)}); got != (kind == other) {
				t.Errorf("Same of the Kinds %d and %d = %t", kind, other, got)
			}
		}
	}
	full, empty := api.Request{Object: []byte{1}}, api.Request{Object: []byte{}}
	if !Same(empty, api.Request{}) || !Same(api.Request{}, empty) || Same(full, empty) || Same(empty, full) {
		t.Error("an empty Object is not as nil")
	}
	long := api.Request{Object: bytes.Repeat([]byte{7}, 5000)}
	for _, at := range []int{0, 1, 2499, 4998, 4999} {
		other := copyOf(long)
		other.Object[at]++
		if Same(long, other) || Same(other, long) {
			t.Errorf("Same, though the byte %d is another one", at)
		}
	}
	if part := (api.Request{Object: long.Object[:4999]}); Same(long, part) || Same(part, long) {
		t.Error("Same as a part")
	}
}

// TestSameChangesNothing: what is held against one another stays.
func TestSameChangesNothing(t *testing.T) {
	a, b := request(7), request(8)
	Same(a, b)
	if !slowSame(a, request(7)) || !slowSame(b, request(8)) {
		t.Errorf("behind Same: %v, %v", a, b)
	}
}

// TestTextsAreNotKept: what a text is cut from may change behind a call.
func TestTextsAreNotKept(t *testing.T) {
	q := New()
	b := []byte("m")
	if _, err := q.Push(api.Request{Name: unsafe.String(&b[0], len(b))}); err != api.OK {
		t.Fatal(int(err))
	}
	b[0] = 'n'
	f := q.Fork()
	for _, x := range []*Queue{q, f} {
		if item, _ := x.Peek(); item.Request.Name != "m" {
			t.Fatalf("Peek() = %v", item)
		}
		if item, _ := x.Pop(); item.Request.Name != "m" {
			t.Fatalf("Pop() = %v", item)
		}
	}
}

// TestArgumentsAreLetGo: no argument is kept, not even by a list without items that is cut from a long one.
func TestArgumentsAreLetGo(t *testing.T) {
	q := New()
	var watched []weak.Pointer[byte]
	for _, length := range []int{0, 1, 1 << 16} {
		b := make([]byte, 1<<16)
		watched = append(watched, weak.Make(&b[0]))
		q.Push(api.Request{Object: b[:length]})
	}
	wantGone(t, "Push", watched)
	runtime.KeepAlive(q)
}

// TestWhatLeftIsLetGo: P19.2, what was popped waits no more, and is kept no more; nor is what was refused.
func TestWhatLeftIsLetGo(t *testing.T) {
	q := New()
	var watched []weak.Pointer[byte]
	for range 8 {
		q.Push(api.Request{Object: make([]byte, 1<<16)})
	}
	refused := make([]byte, 1<<16)
	watched = append(watched, weak.Make(&refused[0]))
	q.Push(api.Request{Object: refused})
	for range 8 {
		item, _ := q.Peek()
		watched = append(watched, weak.Make(&item.Request.Object[0]))
		item, _ = q.Pop()
		watched = append(watched, weak.Make(&item.Request.Object[0]))
	}
	wantGone(t, "Pop", watched)
	runtime.KeepAlive(q)
}

// wantGone looks whether nobody holds these bytes any more.
func wantGone(t *testing.T, what string, watched []weak.Pointer[byte]) {
	t.Helper()
	runtime.GC()
	for i, w := range watched {
		if w.Value() != nil {
			t.Errorf("behind %s: the bytes %d are kept", what, i)
		}
	}
}

// TestRowOfDeeds plays long rows of deeds on queues, forks and models of them.
func TestRowOfDeeds(t *testing.T) {
	seed := uint64(19)
	next := func(n uint64) uint64 {
		seed = seed*6364136223846793005 + 1442695040888963407
		return seed >> 33 % n
	}
	queues, models := []*Queue{New(), New(), New()}, make([]slowQueue, 3)
	done := map[string]int{}
	for deed := range 20000 {
		i := next(3)
		q, s := queues[i], models[i]
		// Now and then more come than leave, and now and then fewer.
		switch next(10) + uint64(deed/500%2)*3 {
		case 0, 1, 2, 3, 4, 5:
			_, _, err := s.push(request(0))
			done[fmt.Sprint("push ", int(err))]++
			models[i] = wantPush(t, q, s, request(int(next(1<<16))))
		case 9:
			k := next(3)
			queues[k], models[k] = q.Fork(), s
			done["fork"]++
		default:
			_, waits := s.peek()
			done[fmt.Sprint("pop ", waits)]++
			models[i] = wantPop(t, q, s)
		}
		// A model is cut to what waits, so that it stays short.
		models[i].items, models[i].left = models[i].items[models[i].left:], 0
		for k := range queues {
			wantQueue(t, "a row of deeds", queues[k], models[k])
		}
	}
	for _, deed := range []string{"push 0", "push 31", "pop true", "pop false", "fork"} {
		if done[deed] < 100 {
			t.Errorf("%s: %d times", deed, done[deed])
		}
	}
}

// TestOrder: P19.4, of many that come and leave in turn, each that waited leaves once, in the order in which they came.
func TestOrder(t *testing.T) {
	q, last, left, waited := New(), -1, 0, 0
	for round := range 5000 {
		for range round % 11 {
			if n, err := q.Push(request(q.Came() % 1000)); err == api.OK {
				waited++
			} else if n != q.Came()-1 {
				t.Fatalf("refused as %d of %d", n, q.Came())
			}
		}
		for range round % 7 {
			item, waits := q.Pop()
			if !waits {
				break
			}
			if item.Number <= last || !sameItem(item, Item{item.Number, request(item.Number % 1000)}) {
				t.Fatalf("Pop() = %v behind %d", item, last)
			}
			last = item.Number
			left++
		}
	}
	if waited != left+q.Len() || left < 5000 {
		t.Fatalf("%d waited, %d left, %d wait", waited, left, q.Len())
	}
}
