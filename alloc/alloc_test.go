package alloc

import (
	"fmt"
	"math"
	"slices"
	"strings"
	"testing"

	"budwood/api"
)

// row makes a row of places from a text: a point is a free one, an x a used one.
func row(s string) []bool {
	used := make([]bool, len(s))
	for i := range s {
		used[i] = s[i] == 'x'
	}
	return used
}

// tell tells a row as a text.
func tell(used []bool) string {
	var s strings.Builder
	for _, u := range used {
		s.WriteString(map[bool]string{false: ".", true: "x"}[u])
	}
	return s.String()
}

// eachRow goes over all rows of at most so many places.
func eachRow(most int, look func(used []bool)) {
	for n := range most + 1 {
		for bits := range 1 << n {
			used := make([]bool, n)
			for i := range used {
				used[i] = bits>>i&1 == 1
			}
			look(used)
		}
	}
}

// allFree tells whether there are the n places from from on, and all are free.
func allFree(used []bool, from, n int) bool {
	return from >= 0 && n >= 0 && from <= len(used)-n && !slices.Contains(used[from:from+n], true)
}

// slowFind looks at every place.
func slowFind(used []bool, n int) (int, api.Errno) {
	if n < 1 {
		return 0, api.ErrArg
	}
	for from := range used {
		if allFree(used, from, n) {
			return from, api.OK
		}
	}
	return 0, api.ErrFull
}

// slowRuns looks at every place and every length.
func slowRuns(used []bool) [][2]int {
	var all [][2]int
	for from := range used {
		for n := 1; from+n <= len(used); n++ {
			ahead := from == 0 || used[from-1]
			behind := from+n == len(used) || used[from+n]
			if ahead && behind && allFree(used, from, n) {
				all = append(all, [2]int{from, n})
			}
		}
	}
	return all
}

// slowFits finds one behind the other, and uses what it finds.
func slowFits(used []bool, sizes []int) bool {
	used = slices.Clone(used)
	for _, n := range sizes {
		from, err := slowFind(used, n)
		if err != api.OK {
			return false
		}
		for i := range n {
			used[from+i] = true
		}
	}
	return true
}

// wantFind holds Find against its answer.
func wantFind(t *testing.T, used []bool, n, want int, wantErr api.Errno) {
	t.Helper()
	if got, err := Find(used, n); got != want || err != wantErr {
		t.Fatalf("Find(%s, %d) = %d, %d, want %d, %d", tell(used), n, got, int(err), want, int(wantErr))
	}
}

// wantFits holds Fits against its answer, and what it was given against what that was.
func wantFits(t *testing.T, used []bool, sizes []int, want bool) {
	t.Helper()
	wasUsed, wereSizes := slices.Clone(used), slices.Clone(sizes)
	if got := Fits(used, sizes...); got != want {
		t.Fatalf("Fits(%s, %v) = %v, want %v", tell(used), sizes, got, want)
	}
	if !slices.Equal(used, wasUsed) || !slices.Equal(sizes, wereSizes) {
		t.Fatalf("Fits(%s, %v) has changed what it was given to %s, %v", tell(wasUsed), wereSizes, tell(used), sizes)
	}
}

// wantLooks holds Longest, Free and Runs against their answers.
func wantLooks(t *testing.T, used []bool, longest, free int, runs [][2]int) {
	t.Helper()
	if got := Longest(used); got != longest {
		t.Fatalf("Longest(%s) = %d, want %d", tell(used), got, longest)
	}
	if got := Free(used); got != free {
		t.Fatalf("Free(%s) = %d, want %d", tell(used), got, free)
	}
	if got := Runs(used); !slices.Equal(got, runs) {
		t.Fatalf("Runs(%s) = %v, want %v", tell(used), got, runs)
	}
}

func TestExample(t *testing.T) {
	used := row(".x..")
	wantFind(t, used, 2, 2, api.OK)
	wantFind(t, used, 1, 0, api.OK)
	wantFind(t, used, 3, 0, api.ErrFull)
	wantLooks(t, used, 2, 3, [][2]int{{0, 1}, {2, 2}})
	wantFits(t, used, []int{1, 2}, true)
	wantFits(t, used, []int{2, 2}, false)
}

func TestFind(t *testing.T) {
	for _, c := range []struct {
		used string
		n    int
		want int
		err  api.Errno
	}{
		{"", 1, 0, api.ErrFull},
		{".", 1, 0, api.OK},
		{"x", 1, 0, api.ErrFull},
		{"x.", 1, 1, api.OK},
		{".x", 1, 0, api.OK},
		{"..", 2, 0, api.OK},
		{"..", 3, 0, api.ErrFull},
		{".x.x.", 2, 0, api.ErrFull},
		{"x..x..", 2, 1, api.OK},
		{"..x...x....", 3, 3, api.OK},
		{"..x...x....", 4, 7, api.OK},
		{"..x...x....", 5, 0, api.ErrFull},
		{"x....x....", 4, 1, api.OK},
		{"xxxx", 4, 0, api.ErrFull},
		{"....", 4, 0, api.OK},
		{"....", math.MaxInt32, 0, api.ErrFull},
		{"....", math.MaxInt - 1, 0, api.ErrFull},
		{"x...", math.MaxInt, 0, api.ErrFull},
	} {
		wantFind(t, row(c.used), c.n, c.want, c.err)
	}
}

func TestFindOfNoPlaces(t *testing.T) {
	for _, n := range []int{0, -1, -2, math.MinInt32, math.MinInt} {
		for _, used := range []string{"", ".", "x", "..", "x..", "xx"} {
			wantFind(t, row(used), n, 0, api.ErrArg)
		}
		wantFind(t, nil, n, 0, api.ErrArg)
	}
	wantFind(t, nil, 1, 0, api.ErrFull)
}

func TestLooks(t *testing.T) {
	for _, c := range []struct {
		used          string
		longest, free int
		runs          [][2]int
	}{
		{"", 0, 0, nil},
		{"x", 0, 0, nil},
		{"xxx", 0, 0, nil},
		{".", 1, 1, [][2]int{{0, 1}}},
		{"...", 3, 3, [][2]int{{0, 3}}},
		{"x..", 2, 2, [][2]int{{1, 2}}},
		{"..x", 2, 2, [][2]int{{0, 2}}},
		{"..xx.", 2, 3, [][2]int{{0, 2}, {4, 1}}},
		{".x.x.", 1, 3, [][2]int{{0, 1}, {2, 1}, {4, 1}}},
		{"x.xx...x..x", 3, 6, [][2]int{{1, 1}, {4, 3}, {8, 2}}},
	} {
		wantLooks(t, row(c.used), c.longest, c.free, c.runs)
	}
	wantLooks(t, nil, 0, 0, nil)
}

func TestFits(t *testing.T) {
	for _, c := range []struct {
		used  string
		sizes []int
		want  bool
	}{
		{"", nil, true},
		{"xx", nil, true},
		{"..", nil, true},
		{"", []int{1}, false},
		{"x", []int{1}, false},
		{".", []int{1}, true},
		{".", []int{1, 1}, false},
		{"..", []int{1, 1}, true},
		{"..", []int{2}, true},
		{"..", []int{3}, false},
		// The first run with room is taken, not the one that it fills.
		{"...x..", []int{2, 3}, false},
		{"...x..", []int{3, 2}, true},
		{"..x...", []int{2, 3}, true},
		{"..x...", []int{1, 3, 1}, true},
		{"..x...", []int{1, 2, 1, 1}, true},
		{"..x...", []int{1, 2, 2}, false},
		// What is left of a run is one run still.
		{"xx....", []int{1, 3}, true},
		{"xx....", []int{1, 1, 2}, true},
		{"xx....", []int{1, 1, 1, 1}, true},
		{"xx....", []int{1, 1, 1, 1, 1}, false},
		{".x.x.x.x.", []int{1, 1, 1, 1, 1}, true},
		{".x.x.x.x.", []int{1, 1, 1, 1, 1, 1}, false},
		{".x.x.x.x.", []int{2}, false},
		{".x.x.x.x..", []int{2, 1, 1, 1, 1}, true},
		{"....", []int{0}, false},
		{"....", []int{-1}, false},
		{"....", []int{1, 0}, false},
		{"....", []int{0, 1}, false},
		{"....", []int{4, 0}, false},
		{"....", []int{2, -2, 2}, false},
		{"....", []int{2, -2, 4}, false},
		{"....", []int{math.MinInt}, false},
		{"....", []int{math.MaxInt}, false},
		{"....", []int{4, math.MaxInt}, false},
		{"....", []int{math.MaxInt, math.MaxInt, 2}, false},
	} {
		wantFits(t, row(c.used), c.sizes, c.want)
	}
	wantFits(t, nil, nil, true)
	wantFits(t, nil, []int{1}, false)
}

func TestAllShortRows(t *testing.T) {
	eachRow(12, func(used []bool) {
		was := slices.Clone(used)
		runs, longest, free := slowRuns(used), 0, 0
		for _, r := range runs {
			longest = max(longest, r[1])
		}
		for _, u := range used {
			if !u {
				free++
			}
		}
		wantLooks(t, used, longest, free, runs)
		for n := -2; n <= len(used)+2; n++ {
			want, err := slowFind(used, n)
			wantFind(t, used, n, want, err)
		}
		if !slices.Equal(used, was) {
			t.Fatalf("%s has become %s", tell(was), tell(used))
		}
	})
}

// TestFindWhereTheLongestRunHasRoom is the promise P7.4, without a model.
func TestFindWhereTheLongestRunHasRoom(t *testing.T) {
	eachRow(12, func(used []bool) {
		longest := Longest(used)
		for n := 1; n <= len(used)+2; n++ {
			from, err := Find(used, n)
			if (err == api.OK) != (n <= longest) || (err == api.ErrFull) != (n > longest) {
				t.Fatalf("Find(%s, %d) = %d, %d; the longest run has %d", tell(used), n, from, int(err), longest)
			}
			if err == api.OK && !allFree(used, from, n) {
				t.Fatalf("Find(%s, %d) = %d: not all free", tell(used), n, from)
			}
		}
	})
}

func TestFitsOfAllShortRows(t *testing.T) {
	var lists [][]int
	var fill func(sizes []int, left int)
	fill = func(sizes []int, left int) {
		lists = append(lists, slices.Clone(sizes))
		if left == 0 {
			return
		}
		for n := range 5 {
			fill(append(slices.Clip(sizes), n), left-1)
		}
	}
	fill(nil, 4)
	eachRow(9, func(used []bool) {
		for _, sizes := range lists {
			wantFits(t, used, sizes, slowFits(used, sizes))
		}
	})
}

// TestFitsOfManyRuns goes over rows and sizes that a short rule makes, and holds Fits against the model for as many sizes as there is room for, and for one more.
func TestFitsOfManyRuns(t *testing.T) {
	seed := uint64(1)
	next := func(n int) int {
		seed = seed*6364136223846793005 + 1442695040888963407
		return int(seed >> 33 % uint64(n))
	}
	for range 300 {
		used := make([]bool, next(256)+1)
		rare := next(9) + 1
		for i := range used {
			used[i] = next(rare+1) == 0
		}
		var sizes []int
		for slowFits(used, sizes) {
			wantFits(t, used, sizes, true)
			sizes = append(sizes, next(rare)+1)
		}
		wantFits(t, used, sizes, false)
	}
}

// TestManyPlaces would not end, if each size looked at all runs.
func TestManyPlaces(t *testing.T) {
	const pairs = 1 << 19
	used := make([]bool, 4*pairs)
	for i := range 2 * pairs {
		used[i] = i%2 == 1
	}
	wantMany := func(what string, got, want int) {
		t.Helper()
		if got != want {
			t.Errorf("of many places %s = %d, want %d", what, got, want)
		}
	}
	from, err := Find(used, 2*pairs)
	wantMany("Find", from, 2*pairs)
	wantMany("its error", int(err), int(api.OK))
	_, err = Find(used, 2*pairs+1)
	wantMany("the error of Find of more", int(err), int(api.ErrFull))
	wantMany("Longest", Longest(used), 2*pairs)
	wantMany("Free", Free(used), 3*pairs)
	runs := Runs(used)
	wantMany("how many Runs there are", len(runs), pairs+1)
	wantMany("the last run's length", runs[pairs][1], 2*pairs)
	sizes := append(slices.Repeat([]int{2}, pairs), slices.Repeat([]int{1}, pairs)...)
	if !Fits(used, sizes...) {
		t.Error("all of many sizes should fit")
	}
	if Fits(used, append(sizes, 1)...) {
		t.Error("one size more should not fit")
	}
}

func TestRunsAreNew(t *testing.T) {
	used := row("x.xx...x..x")
	want := [][2]int{{1, 1}, {4, 3}, {8, 2}}
	first := Runs(used)
	second := Runs(used)
	room := first[:cap(first)]
	for i := range room {
		room[i] = [2]int{-1, -1}
	}
	if !slices.Equal(second, want) {
		t.Errorf("a change of what Runs told has made another answer %v", second)
	}
	wantLooks(t, used, 3, 6, want)
	used[0] = false
	if !slices.Equal(second, want) {
		t.Errorf("a change of the row has made an answer %v", second)
	}
	wantLooks(t, used, 3, 7, [][2]int{{0, 2}, {4, 3}, {8, 2}})
}

// TestAnswersHangOnArgumentsAlone calls in another order, and again.
func TestAnswersHangOnArgumentsAlone(t *testing.T) {
	var first, second []string
	ask := func(used []bool) string {
		from, err := Find(used, 2)
		return fmt.Sprint(from, int(err), Longest(used), Free(used), Runs(used), Fits(used, 1, 2))
	}
	eachRow(6, func(used []bool) { first = append(first, ask(used)) })
	var rows [][]bool
	eachRow(6, func(used []bool) { rows = append(rows, used) })
	for _, used := range slices.Backward(rows) {
		second = append(second, ask(used))
	}
	slices.Reverse(second)
	if !slices.Equal(first, second) {
		t.Error("answers hang on the order of calls")
	}
}
