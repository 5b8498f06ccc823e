package name

import (
	"bytes"
	"math"
	"regexp"
	"strconv"
	"strings"
	"testing"
	"unicode/utf8"

	"budwood/api"
)

// form is a name's form, of texts that are right UTF-8.
var form = regexp.MustCompile(`\A([a-zA-Z\x{80}-\x{10ffff}][a-zA-Z0-9_\x{80}-\x{10ffff}]*)(?:@([1-9][0-9]{0,2}))?\z`)

// slowSplit is a model of Split by a pattern.
func slowSplit(s string) (string, int, api.Errno) {
	found := form.FindStringSubmatch(s)
	if found == nil || !utf8.ValidString(s) {
		return "", 0, api.ErrName
	}
	if utf8.RuneCountInString(s) > 24 {
		return "", 0, api.ErrLong
	}
	if found[2] == "" {
		return found[1], 0, api.OK
	}
	version, _ := strconv.Atoi(found[2])
	return found[1], version, api.OK
}

// slowLess is a model of Less.
func slowLess(a, b string) bool {
	stemA, versionA, errA := slowSplit(a)
	stemB, versionB, errB := slowSplit(b)
	if errA != api.OK || errB != api.OK {
		return bytes.Compare([]byte(a), []byte(b)) < 0
	}
	if c := bytes.Compare([]byte(stemA), []byte(stemB)); c != 0 {
		return c < 0
	}
	return versionA < versionB
}

// pieces has what names and texts that are no names are made of: letters, digits, marks, beginnings and rests of runes, and a rune that a range gives for wrong bytes, too.
var pieces = []string{"a", "Z", "0", "1", "9", "_", "@", "-", "é", "\ufffd", "\xc3", "\xa9", "\xef\xbf", "\x00"}

// allTexts tells each text of at most n of the pieces.
func allTexts(n int) []string {
	texts := []string{""}
	for from := 0; n > 0; n-- {
		to := len(texts)
		for _, s := range texts[from:to] {
			for _, p := range pieces {
				texts = append(texts, s+p)
			}
		}
		from = to
	}
	return texts
}

// orderTexts has names and others in many orders of stem, version and bytes.
func orderTexts() []string {
	long := strings.Repeat("a", 24)
	texts := []string{
		"", "@", "@1", "1x", "a@", "a@0", "a@01", "a@1000", "a@1@2", "a b", "a-", "a\xff", "\xff", "\xc3", "b@0", "~",
		long, long + "a", long + "@1", long[:22] + "@1", long[:22] + "@2", long[:20] + "@999", long[:21] + "@999",
	}
	for _, stem := range []string{"a", "A", "Z", "ab", "a0", "a1", "a_", "b", "B", "z", "é", "aé", "éa", "\u0080", "\ufffd", "a\ufffd", "\U0001f600"} {
		texts = append(texts, stem)
		for _, version := range []string{"1", "2", "9", "10", "11", "19", "99", "100", "101", "998", "999"} {
			texts = append(texts, stem+"@"+version)
		}
	}
	return texts
}

func TestSplitExamples(t *testing.T) {
	for _, c := range []struct {
		s       string
		stem    string
		version int
	}{
		{"run@12", "run", 12},
		{"run", "run", 0},
		{"a", "a", 0},
		{"Z", "Z", 0},
		{"é", "é", 0},
		{"a_", "a_", 0},
		{"a0", "a0", 0},
		{"aZ09_é@1", "aZ09_é", 1},
		{"a@9", "a", 9},
		{"a@10", "a", 10},
		{"a@100", "a", 100},
		{"a@999", "a", 999},
		{"\u0080", "\u0080", 0},
		{"\u00a0", "\u00a0", 0},
		{"\u0661", "\u0661", 0},
		{"\uffff", "\uffff", 0},
		{"\U0010ffff@3", "\U0010ffff", 3},
		{"\ufffd", "\ufffd", 0},
		{"a\ufffdb@7", "a\ufffdb", 7},
		{strings.Repeat("a", 24), strings.Repeat("a", 24), 0},
		{strings.Repeat("é", 24), strings.Repeat("é", 24), 0},
		{strings.Repeat("\U0001f600", 24), strings.Repeat("\U0001f600", 24), 0},
		{strings.Repeat("é", 20) + "@999", strings.Repeat("é", 20), 999},
		{strings.Repeat("a", 22) + "@1", strings.Repeat("a", 22), 1},
	} {
		if err := Check(c.s); err != api.OK {
			t.Errorf("Check(%q) = %d, want 0", c.s, int(err))
		}
		stem, version, err := Split(c.s)
		if stem != c.stem || version != c.version || err != api.OK {
			t.Errorf("Split(%q) = %q, %d, %d, want %q, %d, 0", c.s, stem, version, int(err), c.stem, c.version)
		}
	}
}

func TestCheckAndSplitRefuse(t *testing.T) {
	long := strings.Repeat("a", 25)
	for _, c := range []struct {
		want  api.Errno
		texts []string
	}{
		{api.ErrName, []string{
			"", "@", "@1", "1", "1x", "_", "_a", "0", " a", "a ", "a b", "a-b", "a.b", "a\n", "a\x00", "\x7f", "a\x7f",
			"run@0", "a@", "a@00", "a@01", "a@012", "a@1000", "a@9999", "a@10000000000000000000", "a@18446744073709551617", "a@4294967297",
			"a@+1", "a@-1", "a@ 1", "a@1 ", "a@1_0", "a@0x1", "a@x", "a@1x", "a@1é", "a@\u0661", "a@\uff11", "a@1@", "a@1@2", "a@@1", "@@", "1@1",
			"\xff", "a\xff", "\xffa", "a@1\xff", "a@\xff", "\xc3", "\xa9", "a\xc3", "\xc3a", "\xef", "\xef\xbf", "a\xef\xbf", "\xef\xbf\xbd\xbd", "\xefa",
			"\xc0\x80", "\xc1\xa1", "\xe0\x80\x80", "\xed\xa0\x80", "\xf4\x90\x80\x80", "\xf8\x88\x80\x80\x80",
		}},
		{api.ErrName, []string{
			long + "@0", long + "@", long + "-", long + "\xff", "1" + long, long + "@1000", "\xff" + long, strings.Repeat("@", 25), strings.Repeat("1", 25),
			"a@" + strings.Repeat("0", 25), "a@" + strings.Repeat("1", 4096), strings.Repeat("a", 1<<20) + "\xff",
		}},
		{api.ErrLong, []string{
			long, long + "@1", strings.Repeat("a", 24) + "@1", strings.Repeat("a", 23) + "@1", strings.Repeat("a", 21) + "@999", strings.Repeat("é", 25),
			strings.Repeat("é", 21) + "@999", strings.Repeat("\ufffd", 25), strings.Repeat("a", 1<<20),
		}},
	} {
		for _, s := range c.texts {
			if err := Check(s); err != c.want {
				t.Errorf("Check(%.40q) = %d, want %d", s, int(err), int(c.want))
			}
			if stem, version, err := Split(s); stem != "" || version != 0 || err != c.want {
				t.Errorf("Split(%.40q) = %q, %d, %d, want nothing and %d", s, stem, version, int(err), int(c.want))
			}
		}
	}
}

func TestCheckOfEachByteAtEachPlace(t *testing.T) {
	for c := range 256 {
		for place := range 5 {
			text := []byte("ab@12")
			text[place] = byte(c)
			_, _, want := slowSplit(string(text))
			if err := Check(string(text)); err != want {
				t.Errorf("Check(%q) = %d, want %d", text, int(err), int(want))
			}
		}
	}
}

func TestCheckOfEachLength(t *testing.T) {
	for n := 1; n <= 80; n++ {
		for _, p := range []string{"a", "é", "\ufffd", "\U0001f600"} {
			want := api.OK
			if n > 24 {
				want = api.ErrLong
			}
			if err := Check(strings.Repeat(p, n)); err != want {
				t.Errorf("Check of %d times %q = %d, want %d", n, p, int(err), int(want))
			}
		}
	}
}

func TestSplitOfAllShortTexts(t *testing.T) {
	for _, s := range allTexts(5) {
		wantStem, wantVersion, wantErr := slowSplit(s)
		if stem, version, err := Split(s); stem != wantStem || version != wantVersion || err != wantErr {
			t.Fatalf("Split(%q) = %q, %d, %d, want %q, %d, %d", s, stem, version, int(err), wantStem, wantVersion, int(wantErr))
		}
		if err := Check(s); err != wantErr {
			t.Fatalf("Check(%q) = %d, want %d", s, int(err), int(wantErr))
		}
	}
}

func TestRunesExamples(t *testing.T) {
	for _, c := range []struct {
		s    string
		want int
	}{
		{"", 0},
		{"a", 1},
		{"éx", 2},
		{"run@12", 6},
		{"\x00", 1},
		{"\ufffd", 1},
		{"\U0001f600", 1},
		{"\xff", 1},
		{"\xff\xff", 2},
		{"\xc3", 1},
		{"\xc3\xa9", 1},
		{"\xa9\xc3", 2},
		{"\xef\xbf", 2},
		{"\xed\xa0\x80", 3},
		{"\xf0\x9f\x98x", 4},
		{strings.Repeat("é", 1000), 1000},
	} {
		if got := Runes(c.s); got != c.want {
			t.Errorf("Runes(%.40q) = %d, want %d", c.s, got, c.want)
		}
	}
	for _, s := range allTexts(4) {
		if got := Runes(s); got != len([]rune(s)) {
			t.Fatalf("Runes(%q) = %d, want %d", s, got, len([]rune(s)))
		}
	}
}

func TestJoinExamples(t *testing.T) {
	for _, c := range []struct {
		stem    string
		version int
		want    string
	}{
		{"a", 0, "a"},
		{"a", 1, "a@1"},
		{"run", 12, "run@12"},
		{"é_9", 100, "é_9@100"},
		{"a", 999, "a@999"},
		{"\ufffd", 3, "\ufffd@3"},
		{strings.Repeat("é", 24), 0, strings.Repeat("é", 24)},
		{strings.Repeat("é", 22), 9, strings.Repeat("é", 22) + "@9"},
		{strings.Repeat("é", 20), 999, strings.Repeat("é", 20) + "@999"},
	} {
		if got, err := Join(c.stem, c.version); got != c.want || err != api.OK {
			t.Errorf("Join(%q, %d) = %q, %d, want %q, 0", c.stem, c.version, got, int(err), c.want)
		}
	}
}

func TestJoinRefuses(t *testing.T) {
	long := strings.Repeat("a", 25)
	for _, c := range []struct {
		stem    string
		version int
		want    api.Errno
	}{
		{"a", -1, api.ErrArg},
		{"a", 1000, api.ErrArg},
		{"a", math.MinInt, api.ErrArg},
		{"a", math.MaxInt, api.ErrArg},
		{"", -1, api.ErrArg},
		{"1x", 1000, api.ErrArg},
		{"a@1", 1000, api.ErrArg},
		{long, -1, api.ErrArg},
		{"", 0, api.ErrName},
		{"", 1, api.ErrName},
		{"1x", 0, api.ErrName},
		{"_", 1, api.ErrName},
		{"a-", 2, api.ErrName},
		{"a\xff", 0, api.ErrName},
		{"a\xff", 1, api.ErrName},
		{"a@1", 0, api.ErrName},
		{"a@1", 2, api.ErrName},
		{"a@", 0, api.ErrName},
		{"a@", 1, api.ErrName},
		{"@", 1, api.ErrName},
		{"@1", 0, api.ErrName},
		{long + "@1", 0, api.ErrName},
		{long + "@1", 1, api.ErrName},
		{long + "-", 1, api.ErrName},
		{long, 0, api.ErrLong},
		{long, 1, api.ErrLong},
		{long[:24], 1, api.ErrLong},
		{long[:23], 1, api.ErrLong},
		{long[:22], 10, api.ErrLong},
		{long[:21], 100, api.ErrLong},
		{strings.Repeat("é", 25), 0, api.ErrLong},
	} {
		if got, err := Join(c.stem, c.version); got != "" || err != c.want {
			t.Errorf("Join(%q, %d) = %q, %d, want nothing and %d", c.stem, c.version, got, int(err), int(c.want))
		}
	}
}

func TestJoinOfAllVersions(t *testing.T) {
	for version := 1; version <= 999; version++ {
		want := "a@" + strconv.Itoa(version)
		if got, err := Join("a", version); got != want || err != api.OK {
			t.Errorf("Join(a, %d) = %q, %d, want %q, 0", version, got, int(err), want)
		}
		if stem, v, err := Split(want); stem != "a" || v != version || err != api.OK {
			t.Errorf("Split(%q) = %q, %d, %d", want, stem, v, int(err))
		}
	}
}

func TestFoldExamples(t *testing.T) {
	for _, c := range []struct{ s, want string }{
		{"", ""},
		{"Aé", "aé"},
		{"É", "É"},
		{"AZaz", "azaz"},
		{"@[`{", "@[`{"},
		{"Run_9@12", "run_9@12"},
		{"\u212a\u0130\u00c0\u0391", "\u212a\u0130\u00c0\u0391"},
		{"A\xffB\xc3C\ufffdD", "a\xffb\xc3c\ufffdd"},
		{"\x00A\x00", "\x00a\x00"},
		{"1X -", "1x -"},
	} {
		if got := Fold(c.s); got != c.want {
			t.Errorf("Fold(%q) = %q, want %q", c.s, got, c.want)
		}
	}
}

func TestFoldOfEachByte(t *testing.T) {
	const great, small = "ABCDEFGHIJKLMNOPQRSTUVWXYZ", "abcdefghijklmnopqrstuvwxyz"
	for c := range 256 {
		want := byte(c)
		if i := strings.IndexByte(great, want); i >= 0 {
			want = small[i]
		}
		s := string([]byte{byte(c), 'x', byte(c)})
		if got := Fold(s); got != string([]byte{want, 'x', want}) {
			t.Errorf("Fold(%q) = %q", s, got)
		}
	}
}

func TestLessExamples(t *testing.T) {
	long := strings.Repeat("a", 23)
	for _, c := range []struct {
		a, b string
		want bool
	}{
		{"a@2", "a@10", true},
		{"a@10", "a@2", false},
		{"a", "a@1", true},
		{"a@1", "a", false},
		{"a", "a", false},
		{"a@5", "a@5", false},
		{"a", "b", true},
		{"b", "a", false},
		{"B", "a", true},
		{"a@999", "ab", true},
		{"ab", "a@1", false},
		{"a0", "a@1", false},
		{"a@1", "a0", true},
		{"z", "é", true},
		{"\ufffd", "\U0001f600", true},
		{"a@2", "a@010", false},
		{"a@010", "a@2", true},
		{"a@2", "a@1000", false},
		{"a@1000", "a@2", true},
		{"a0", "a@", true},
		{"a@", "a0", false},
		{"", "a", true},
		{"", "", false},
		{"a\xff", "b", true},
		{"a\xff", "a\xff", false},
		{"z", "\xff", true},
		{long + "@2", long + "@1", false},
		{long + "@10", long + "@2", true},
		{long + "@2", long + "@10", false},
		{long + "0", long + "@1", true},
	} {
		if got := Less(c.a, c.b); got != c.want {
			t.Errorf("Less(%q, %q) = %v, want %v", c.a, c.b, got, c.want)
		}
	}
}

func TestLessOfAllPairs(t *testing.T) {
	texts := append(orderTexts(), allTexts(2)...)
	for _, a := range texts {
		for _, b := range texts {
			if got, want := Less(a, b), slowLess(a, b); got != want {
				t.Fatalf("Less(%q, %q) = %v, want %v", a, b, got, want)
			}
		}
	}
}

func TestNoTwoNamesAreBelowOneAnother(t *testing.T) {
	for _, a := range orderTexts() {
		for _, b := range orderTexts() {
			if Check(a) != api.OK || Check(b) != api.OK {
				continue
			}
			below, above := Less(a, b), Less(b, a)
			if below && above {
				t.Errorf("%q and %q are below one another", a, b)
			}
			if (below || above) == (a == b) {
				t.Errorf("%q and %q: below is %v, above is %v", a, b, below, above)
			}
		}
	}
}

func TestJoinOfSplitIsTheName(t *testing.T) {
	names := 0
	for _, s := range append(orderTexts(), allTexts(4)...) {
		stem, version, err := Split(s)
		if err != api.OK {
			continue
		}
		names++
		if got, err := Join(stem, version); got != s || err != api.OK {
			t.Fatalf("Join(Split(%q)) = %q, %d", s, got, int(err))
		}
	}
	if names < 1000 {
		t.Errorf("only %d names were tried", names)
	}
}
