package layout

import (
	"math"
	"slices"
	"testing"

	"budwood/api"
)

// someNumbers has numbers at both ends, at the bounds, and some between.
var someNumbers = []int{
	math.MinInt, math.MinInt + 1, math.MinInt32, -513, -512, -257, -256, -255, -17, -16, -2, -1,
	0, 1, 2, 3, 15, 16, 17, 127, 128, 129, 254, 255, 256, 257, 258, 511, 512, 513,
	4095, 4096, 4097, math.MaxInt32, math.MaxInt - 256, math.MaxInt - 255, math.MaxInt - 1, math.MaxInt,
}

// module makes a module with so many words of Code and of Data, no two of them the same, and none of them 0.
func module(code, data int) api.Module {
	m := api.Module{Code: make([]uint32, code), Data: make([]uint32, data)}
	for i := range m.Code {
		m.Code[i] = 1<<24 + uint32(i)
	}
	for i := range m.Data {
		m.Data[i] = 2<<24 + uint32(i)
	}
	return m
}

// spot is an answer of Spot.
type spot struct {
	code bool
	at   int
	ok   bool
}

// spotOf asks Spot.
func spotOf(m api.Module, i int) spot {
	code, at, ok := Spot(m, i)
	return spot{code: code, at: at, ok: ok}
}

// slowPages counts pages up until they hold so many words.
func slowPages(words int) int {
	n := 0
	for 16*n < words {
		n++
	}
	return n
}

// slowWords lays a module's words and their spots, one behind the other, up to the end of its pages.
func slowWords(m api.Module) ([]uint32, []spot) {
	var words []uint32
	var spots []spot
	lay := func(code bool, section []uint32) {
		for at, w := range section {
			words, spots = append(words, w), append(spots, spot{code: code, at: at, ok: true})
		}
		for len(words)%16 != 0 {
			words, spots = append(words, 0), append(spots, spot{})
		}
	}
	lay(true, m.Code)
	lay(false, m.Data)
	return words, spots
}

// wantPages holds Pages and Words against how many pages a plan should have.
func wantPages(t *testing.T, p Plan, want int) {
	t.Helper()
	if got := Pages(p); got != want {
		t.Fatalf("Pages(%v) = %d, want %d", p, got, want)
	}
	if got := Words(p); got != 16*want {
		t.Fatalf("Words(%v) = %d, want %d", p, got, 16*want)
	}
}

// wantAt holds At against its answer.
func wantAt(t *testing.T, p Plan, first int, want Place, wantErr api.Errno) {
	t.Helper()
	if got, err := At(p, first); got != want || err != wantErr {
		t.Fatalf("At(%v, %d) = %v, %d, want %v, %d", p, first, got, int(err), want, int(wantErr))
	}
}

// wantWord holds Spot and Raw of a word against their answers.
func wantWord(t *testing.T, m api.Module, i int, want spot, raw uint32) {
	t.Helper()
	if got := spotOf(m, i); got != want {
		t.Fatalf("%d, %d: Spot(%d) = %v, want %v", len(m.Code), len(m.Data), i, got, want)
	}
	if got := Raw(m, i); got != raw {
		t.Fatalf("%d, %d: Raw(%d) = %x, want %x", len(m.Code), len(m.Data), i, got, raw)
	}
}

func TestExample(t *testing.T) {
	if got := Of(module(17, 0)); got != (Plan{CodePages: 2}) {
		t.Errorf("Of = %v", got)
	}
	wantAt(t, Plan{CodePages: 2}, 3, Place{Code: 128, Data: 160}, api.OK)
	m := module(17, 1)
	wantWord(t, m, 32, spot{at: 0, ok: true}, m.Data[0])
}

func TestOf(t *testing.T) {
	lengths := []int{0, 1, 2, 8, 14, 15, 16, 17, 18, 31, 32, 33, 47, 48, 49, 127, 128, 129, 511, 512, 513, 4095, 4096, 4097, 100000}
	for _, code := range lengths {
		for _, data := range lengths {
			want := Plan{CodePages: slowPages(code), DataPages: slowPages(data)}
			if got := Of(api.Module{Code: make([]uint32, code), Data: make([]uint32, data)}); got != want {
				t.Fatalf("Of(%d, %d words) = %v, want %v", code, data, got, want)
			}
		}
	}
	for _, c := range []struct{ code, data, codePages, dataPages int }{
		{0, 0, 0, 0},
		{1, 0, 1, 0},
		{0, 1, 0, 1},
		{16, 17, 1, 2},
		{17, 16, 2, 1},
		{512, 128, 32, 8},
		{4096, 4097, 256, 257},
	} {
		if got := Of(module(c.code, c.data)); got != (Plan{CodePages: c.codePages, DataPages: c.dataPages}) {
			t.Errorf("Of(%d, %d words) = %v, want %d, %d", c.code, c.data, got, c.codePages, c.dataPages)
		}
	}
}

// TestOfHangsOnWordsAlone has modules with much else in them.
func TestOfHangsOnWordsAlone(t *testing.T) {
	m := api.Module{
		Name:    "m",
		Exports: []string{"a", "b"},
		Imports: []string{"c"},
		Relocs:  make([]api.Reloc, 200),
	}
	if got := Of(m); got != (Plan{}) {
		t.Errorf("Of a module without words = %v", got)
	}
	wantWord(t, m, 0, spot{}, 0)
	m.Code, m.Data = []uint32{0}, []uint32{0, 0}
	if got := Of(m); got != (Plan{CodePages: 1, DataPages: 1}) {
		t.Errorf("Of = %v", got)
	}
	wantWord(t, m, 17, spot{at: 1, ok: true}, 0)
	// What a slice has beyond its length is none of its words.
	m.Code, m.Data = make([]uint32, 1, 40), module(0, 40).Data[:2]
	if got := Of(m); got != (Plan{CodePages: 1, DataPages: 1}) {
		t.Errorf("Of, with spare room = %v", got)
	}
	wantWord(t, m, 1, spot{}, 0)
	wantWord(t, m, 18, spot{}, 0)
}

func TestPages(t *testing.T) {
	for _, c := range []struct{ code, data, want int }{
		{0, 0, 0},
		{1, 0, 1},
		{0, 1, 1},
		{2, 1, 3},
		{32, 8, 40},
		{256, 0, 256},
		{0, 256, 256},
		{255, 2, 257},
		{256, 256, 512},
		{257, 0, 0},
		{0, 257, 0},
		{257, 1, 0},
		{1, 257, 0},
		{257, 257, 0},
		{-1, 0, 0},
		{0, -1, 0},
		{-1, 1, 0},
		{1, -1, 0},
		{-1, 3, 0},
		{3, -1, 0},
		{300, -100, 0},
		{-100, 300, 0},
		{-1, -1, 0},
		{math.MinInt, math.MinInt, 0},
		{math.MaxInt, math.MaxInt, 0},
		{math.MaxInt, 1, 0},
		{1, math.MinInt, 0},
	} {
		wantPages(t, Plan{CodePages: c.code, DataPages: c.data}, c.want)
	}
}

// upTo has the numbers from 0 to one below n.
func upTo(n int) []int {
	all := make([]int, n)
	for i := range all {
		all[i] = i
	}
	return all
}

// slowSum looks for a plan's numbers among those that may be.
func slowSum(p Plan) int {
	may := upTo(257)
	if !slices.Contains(may, p.CodePages) || !slices.Contains(may, p.DataPages) {
		return 0
	}
	return p.CodePages + p.DataPages
}

func TestPagesOfManyPlans(t *testing.T) {
	for code := -3; code < 261; code++ {
		for data := -3; data < 261; data++ {
			p := Plan{CodePages: code, DataPages: data}
			wantPages(t, p, slowSum(p))
		}
	}
	for _, code := range someNumbers {
		for _, data := range someNumbers {
			p := Plan{CodePages: code, DataPages: data}
			wantPages(t, p, slowSum(p))
		}
	}
}

func TestAt(t *testing.T) {
	for _, c := range []struct {
		code, data, first int
		want              Place
		err               api.Errno
	}{
		{1, 0, 0, Place{80, 96}, api.OK},
		{1, 1, 0, Place{80, 96}, api.OK},
		// Without pages of Code both begin in the same place.
		{0, 1, 0, Place{80, 80}, api.OK},
		{0, 1, 3, Place{128, 128}, api.OK},
		{2, 1, 3, Place{128, 160}, api.OK},
		{32, 8, 216, Place{3536, 4048}, api.OK},
		{32, 8, 217, Place{}, api.ErrRange},
		// Data may begin behind the last page, where there is none of it.
		{1, 0, 255, Place{4160, 4176}, api.OK},
		{0, 1, 255, Place{4160, 4160}, api.OK},
		{1, 1, 254, Place{4144, 4160}, api.OK},
		{1, 1, 255, Place{}, api.ErrRange},
		{1, 0, 256, Place{}, api.ErrRange},
		{0, 1, 256, Place{}, api.ErrRange},
		{256, 0, 0, Place{80, 4176}, api.OK},
		{0, 256, 0, Place{80, 80}, api.OK},
		{255, 1, 0, Place{80, 4160}, api.OK},
		{256, 0, 1, Place{}, api.ErrRange},
		{256, 1, 0, Place{}, api.ErrRange},
		{1, 256, 0, Place{}, api.ErrRange},
		{256, 256, 0, Place{}, api.ErrRange},
		{1, 0, -1, Place{}, api.ErrRange},
		{256, 256, -256, Place{}, api.ErrRange},
		{1, 1, math.MinInt, Place{}, api.ErrRange},
		{1, 1, math.MaxInt, Place{}, api.ErrRange},
		{256, 256, math.MaxInt, Place{}, api.ErrRange},
		{0, 0, 0, Place{}, api.ErrArg},
		{257, 0, 0, Place{}, api.ErrArg},
		{0, 257, 0, Place{}, api.ErrArg},
		{-1, 2, 0, Place{}, api.ErrArg},
		{2, -1, 0, Place{}, api.ErrArg},
		{300, -100, 3, Place{}, api.ErrArg},
		{math.MaxInt, math.MaxInt, 0, Place{}, api.ErrArg},
		{math.MinInt, math.MinInt, 0, Place{}, api.ErrArg},
		// ErrArg is named ahead of ErrRange.
		{0, 0, -1, Place{}, api.ErrArg},
		{0, 0, 257, Place{}, api.ErrArg},
		{257, 0, -1, Place{}, api.ErrArg},
		{-1, 0, math.MaxInt, Place{}, api.ErrArg},
	} {
		wantAt(t, Plan{CodePages: c.code, DataPages: c.data}, c.first, c.want, c.err)
	}
}

// slowAt looks for the first page and the last one among those that there are, and then goes from page to page.
func slowAt(p Plan, first int) (Place, api.Errno) {
	pages, there := slowSum(p), upTo(256)
	if pages == 0 {
		return Place{}, api.ErrArg
	}
	if !slices.Contains(there, first) || !slices.Contains(there, first+pages-1) {
		return Place{}, api.ErrRange
	}
	place := Place{Code: 80}
	for range first {
		place.Code += 16
	}
	place.Data = place.Code
	for range p.CodePages {
		place.Data += 16
	}
	return place, api.OK
}

func TestAtOfManyPlans(t *testing.T) {
	for _, code := range someNumbers {
		for _, data := range someNumbers {
			for _, first := range someNumbers {
				p := Plan{CodePages: code, DataPages: data}
				want, err := slowAt(p, first)
				wantAt(t, p, first, want, err)
			}
		}
	}
	for first := -2; first < 259; first++ {
		for code := range 7 {
			for data := range 7 {
				p := Plan{CodePages: code, DataPages: data}
				want, err := slowAt(p, first)
				wantAt(t, p, first, want, err)
			}
		}
	}
}

func TestSpot(t *testing.T) {
	m := module(17, 18)
	for _, c := range []struct {
		i    int
		want spot
		raw  uint32
	}{
		{0, spot{true, 0, true}, m.Code[0]},
		{1, spot{true, 1, true}, m.Code[1]},
		{15, spot{true, 15, true}, m.Code[15]},
		{16, spot{true, 16, true}, m.Code[16]},
		{17, spot{}, 0},
		{31, spot{}, 0},
		{32, spot{false, 0, true}, m.Data[0]},
		{33, spot{false, 1, true}, m.Data[1]},
		{49, spot{false, 17, true}, m.Data[17]},
		{50, spot{}, 0},
		{63, spot{}, 0},
		{64, spot{}, 0},
		{-1, spot{}, 0},
		{-32, spot{}, 0},
	} {
		wantWord(t, m, c.i, c.want, c.raw)
	}
}

func TestSpotOfOneSection(t *testing.T) {
	code := module(16, 0)
	wantWord(t, code, 15, spot{true, 15, true}, code.Code[15])
	wantWord(t, code, 16, spot{}, 0)
	data := module(0, 16)
	wantWord(t, data, 0, spot{false, 0, true}, data.Data[0])
	wantWord(t, data, 15, spot{false, 15, true}, data.Data[15])
	wantWord(t, data, 16, spot{}, 0)
	both := module(16, 1)
	wantWord(t, both, 15, spot{true, 15, true}, both.Code[15])
	wantWord(t, both, 16, spot{false, 0, true}, both.Data[0])
	wantWord(t, both, 17, spot{}, 0)
}

func TestWordsOfManyModules(t *testing.T) {
	for code := range 52 {
		for data := range 52 {
			m := module(code, data)
			words, spots := slowWords(m)
			if got := Words(Of(m)); got != len(words) {
				t.Fatalf("%d, %d: Words = %d, want %d", code, data, got, len(words))
			}
			for i := range words {
				wantWord(t, m, i, spots[i], words[i])
			}
			for i := 1; i < 70; i++ {
				wantWord(t, m, -i, spot{}, 0)
				wantWord(t, m, len(words)-1+i, spot{}, 0)
			}
		}
	}
}

// TestWordsOfGreatModules has modules at the limits, and beyond: of these no plan has pages, but their words stand one behind the other still.
func TestWordsOfGreatModules(t *testing.T) {
	lengths := []int{0, 1, 128, 511, 512, 513, 4080, 4096, 4097, 5000}
	for _, code := range lengths {
		for _, data := range lengths {
			m := module(code, data)
			words, spots := slowWords(m)
			for i := range words {
				wantWord(t, m, i, spots[i], words[i])
			}
			wantWord(t, m, len(words), spot{}, 0)
		}
	}
}

func TestWordsFarAway(t *testing.T) {
	for _, m := range []api.Module{{}, module(1, 0), module(0, 1), module(17, 1), module(512, 128), module(5000, 5000)} {
		words, spots := slowWords(m)
		for _, i := range someNumbers {
			if i >= 0 && i < len(words) {
				wantWord(t, m, i, spots[i], words[i])
			} else {
				wantWord(t, m, i, spot{}, 0)
			}
		}
	}
}

// TestEachWordHasOnePlace is the promise P12.4: it goes over the words' addresses, wherever a module stands.
func TestEachWordHasOnePlace(t *testing.T) {
	for _, lengths := range [][2]int{{0, 1}, {1, 0}, {1, 1}, {16, 16}, {17, 1}, {31, 33}, {512, 128}} {
		m := module(lengths[0], lengths[1])
		p := Of(m)
		for _, first := range []int{0, 1, 100, 256 - Pages(p)} {
			place, err := At(p, first)
			if err != api.OK {
				t.Fatalf("At(%v, %d): %d", p, first, int(err))
			}
			wantOnePlace(t, m, place)
		}
	}
}

// wantOnePlace goes over all words of a module that stands somewhere, and wants to see each of Code and Data once.
func wantOnePlace(t *testing.T, m api.Module, place Place) {
	t.Helper()
	seen := map[spot]int{}
	for i := range Words(Of(m)) {
		s := spotOf(m, i)
		if !s.ok {
			continue
		}
		seen[s]++
		begin, section := place.Data, m.Data
		if s.code {
			begin, section = place.Code, m.Code
		}
		if begin+uint32(s.at) != place.Code+uint32(i) {
			t.Fatalf("%v: the word %d is %v, and stands elsewhere", place, i, s)
		}
		if Raw(m, i) != section[s.at] {
			t.Fatalf("%v: the word %d is %v, and another one", place, i, s)
		}
	}
	for at := range max(len(m.Code), len(m.Data)) {
		code, data := seen[spot{true, at, true}], seen[spot{false, at, true}]
		if (code == 1) != (at < len(m.Code)) || (data == 1) != (at < len(m.Data)) {
			t.Fatalf("%v: the words %d are seen %d times in Code, %d times in Data", place, at, code, data)
		}
	}
	if len(seen) != len(m.Code)+len(m.Data) {
		t.Fatalf("%v: %d words, %d spots", place, len(m.Code)+len(m.Data), len(seen))
	}
}

func TestModulesStayAsTheyAre(t *testing.T) {
	m, was := module(17, 18), module(17, 18)
	Of(m)
	for i := -2; i < 70; i++ {
		Spot(m, i)
		Raw(m, i)
	}
	if !slices.Equal(m.Code, was.Code) || !slices.Equal(m.Data, was.Data) {
		t.Error("a module has changed")
	}
}

// TestAnswersHangOnArgumentsAlone calls again, in another order, and once a module has changed.
func TestAnswersHangOnArgumentsAlone(t *testing.T) {
	m, other := module(17, 18), module(3, 40)
	ask := func() []uint32 {
		var all []uint32
		for i := range Words(Of(m)) {
			all = append(all, Raw(m, i))
		}
		return all
	}
	first := ask()
	for i := range 70 {
		Raw(other, 69-i)
	}
	if !slices.Equal(ask(), first) {
		t.Error("answers hang on calls ahead")
	}
	m.Code[2], m.Data[3] = 7, 8
	wantWord(t, m, 2, spot{true, 2, true}, 7)
	wantWord(t, m, 35, spot{false, 3, true}, 8)
}
