package tests

import (
	"math"
	"slices"
	"strings"
	"testing"

	"loop.example/g03105/impl"
)

const lettersInOrder = "abcdefgh"

// lettersOf reads a text letter by letter, apart from ParseWord, so that it is a second opinion; "-" is the empty word.
func lettersOf(text string) []int {
	var w []int
	for _, r := range strings.TrimPrefix(text, "-") {
		lower := strings.ToLower(string(r))
		x := strings.Index(lettersInOrder, lower) + 1
		if lower != string(r) {
			x = -x
		}
		w = append(w, x)
	}
	return w
}

// noWords are lists with a letter that is none or with too many letters.
func noWords() [][]int {
	return [][]int{
		{0}, {9}, {-9}, {1, 0}, {0, 1}, {1, 2, 9}, {-9, 1, 2}, {1, 9, -9, -1}, {0, 0}, {9, -9},
		{math.MaxInt64}, {math.MinInt64}, {1, math.MinInt64, -1}, {256 + 1}, {-255}, {1 << 32}, {1<<32 + 1},
		slices.Repeat([]int{1}, 25), slices.Repeat([]int{1, -1}, 13), slices.Repeat([]int{8}, 1000),
		append(slices.Repeat([]int{1}, 23), 0), append(slices.Repeat([]int{1}, 23), 9), append(slices.Repeat([]int{1}, 24), 0),
	}
}

// shortWords are all words of up to 3 letters, and a few long ones.
func shortWords() [][]int {
	words := [][]int{nil}
	for i := 0; i < len(words); i++ {
		if len(words[i]) == 3 {
			continue
		}
		for x := -8; x <= 8; x++ {
			if x != 0 {
				words = append(words, append(slices.Clone(words[i]), x))
			}
		}
	}
	for _, text := range []string{"abcdefghABCDEFGHabcdefgh", "aaaaaaaaaaaaaaaaaaaaaaaa", "abABcdCDefEFghGH", "abcABCabcABCabcABCabcAB", "hGfEdCbA", "HHHH", "abcdeEDCBA"} {
		words = append(words, lettersOf(text))
	}
	return words
}

func TestIsWord(t *testing.T) {
	for _, w := range shortWords() {
		if !impl.IsWord(w) {
			t.Errorf("IsWord(%v) = false", w)
		}
	}
	if !impl.IsWord([]int{}) {
		t.Error("IsWord of an empty slice = false")
	}
	for n := 0; n <= 30; n++ {
		if got := impl.IsWord(slices.Repeat([]int{-8}, n)); got != (n <= 24) {
			t.Errorf("IsWord of %d letters = %v", n, got)
		}
	}
	for x := -300; x <= 300; x++ {
		if got := impl.IsWord([]int{1, x, -1}); got != (x != 0 && -8 <= x && x <= 8) {
			t.Errorf("IsWord with the letter %d = %v", x, got)
		}
	}
	for _, w := range noWords() {
		if impl.IsWord(w) {
			t.Errorf("IsWord(%v) = true", w)
		}
	}
	if impl.MaxWord != 24 || impl.MaxLetters != 8 {
		t.Errorf("limits %d and %d", impl.MaxWord, impl.MaxLetters)
	}
}

func TestWordText(t *testing.T) {
	cases := map[string][]int{
		"-":                        nil,
		"a":                        {1},
		"A":                        {-1},
		"h":                        {8},
		"H":                        {-8},
		"aB":                       {1, -2},
		"abcdefgh":                 {1, 2, 3, 4, 5, 6, 7, 8},
		"ABCDEFGH":                 {-1, -2, -3, -4, -5, -6, -7, -8},
		"aA":                       {1, -1},
		"bbbbbbbbbbbbbbbbbbbbbbbb": slices.Repeat([]int{2}, 24),
	}
	for want, w := range cases {
		if got := impl.WordText(w); got != want {
			t.Errorf("WordText(%v) = %q, want %q", w, got, want)
		}
	}
	if got := impl.WordText([]int{}); got != "-" {
		t.Errorf("WordText of an empty slice = %q", got)
	}
	for _, w := range noWords() {
		if got := impl.WordText(w); got != "" {
			t.Errorf("WordText(%v) = %q, want none", w, got)
		}
	}
}

func TestParseWordOfWordText(t *testing.T) {
	texts := map[string]bool{}
	for _, w := range shortWords() {
		text := impl.WordText(w)
		if texts[text] {
			t.Errorf("two words with the text %q", text)
		}
		texts[text] = true
		got, ok := impl.ParseWord(text)
		if !ok || !slices.Equal(got, w) {
			t.Errorf("ParseWord(%q) = %v, %v, want %v", text, got, ok, w)
		}
	}
}

func TestParseWordRejects(t *testing.T) {
	texts := []string{
		"", "--", "-a", "a-", "a-b", " ", " a", "a ", "a b", "a\n", "\na", "\x00", "a\x00", "i", "I", "ai", "ia", "z", "Z", "`", "@", "[", "{",
		"0", "1", "-1", "a1", "aa,", "a,b", "\xff", "a\xff", "\u00e1", "\u0430", "\uff41", "\u0100a", "e\u0301",
		strings.Repeat("a", 25), strings.Repeat("aA", 13), strings.Repeat("h", 1000), strings.Repeat("a", 24) + "-", strings.Repeat("a", 23) + "i", strings.Repeat("-", 24),
	}
	for _, text := range texts {
		if w, ok := impl.ParseWord(text); ok || len(w) != 0 {
			t.Errorf("ParseWord(%q) = %v, %v, want none", text, w, ok)
		}
	}
}

// TestParseWordBytes goes through all texts of one byte and all of a letter and a byte.
func TestParseWordBytes(t *testing.T) {
	for b := range 256 {
		by := string([]byte{byte(b)})
		letter := strings.Contains("abcdefghABCDEFGH", by)
		w, ok := impl.ParseWord(by)
		if ok != (letter || by == "-") || ok && impl.WordText(w) != by || !ok && len(w) != 0 {
			t.Errorf("ParseWord(%q) = %v, %v", by, w, ok)
		}
		w, ok = impl.ParseWord("c" + by)
		if ok != letter || ok && impl.WordText(w) != "c"+by || !ok && len(w) != 0 {
			t.Errorf("ParseWord(%q) = %v, %v", "c"+by, w, ok)
		}
	}
}

// checkTexts calls f with the words of the keys and expects the words of the values.
func checkTexts(t *testing.T, name string, f func([]int) []int, cases map[string]string) {
	t.Helper()
	for from, want := range cases {
		if got := f(lettersOf(from)); !slices.Equal(got, lettersOf(want)) {
			t.Errorf("%s(%s) = %v, want %s", name, from, got, want)
		}
	}
	for _, w := range noWords() {
		if got := f(w); len(got) != 0 {
			t.Errorf("%s(%v) = %v, want none", name, w, got)
		}
	}
}

func TestInverseWord(t *testing.T) {
	checkTexts(t, "InverseWord", impl.InverseWord, map[string]string{
		"-": "-", "a": "A", "A": "a", "H": "h", "abC": "cBA", "aA": "aA", "aa": "AA", "abcdefgh": "HGFEDCBA",
		"abcdefghabcdefghabcdefgh": "HGFEDCBAHGFEDCBAHGFEDCBA",
	})
	for _, w := range shortWords() {
		if got := impl.InverseWord(impl.InverseWord(w)); !slices.Equal(got, w) {
			t.Errorf("InverseWord twice of %v = %v", w, got)
		}
	}
}

// reducedText removes pairs of inverse letters from a text in an order of its own.
func reducedText(text string) string {
	text = strings.TrimPrefix(text, "-")
	for again := true; again; {
		again = false
		for _, r := range lettersInOrder {
			small, great := string(r), strings.ToUpper(string(r))
			for _, pair := range []string{great + small, small + great} {
				if strings.Contains(text, pair) {
					text, again = strings.ReplaceAll(text, pair, ""), true
				}
			}
		}
	}
	if text == "" {
		return "-"
	}
	return text
}

func TestReduceWord(t *testing.T) {
	cases := map[string]string{
		"-": "-", "a": "a", "aA": "-", "Aa": "-", "ab": "ab", "aa": "aa", "aAa": "a", "abBAc": "c", "abAB": "abAB", "aBbA": "-",
		"abcCBA": "-", "aAbBcC": "-", "abBc": "ac", "aAAa": "-", "abcA": "abcA", "hHHh": "-", "AhHa": "-",
		"abcdefghHGFEDCBA": "-", "abcdefghaAHGFEDCBA": "-", "aAaAaAaAaAaAaAaAaAaAaAaA": "-", "abcabcabcabcabcabcabcabc": "abcabcabcabcabcabcabcabc",
	}
	checkTexts(t, "ReduceWord", impl.ReduceWord, cases)
	for _, w := range shortWords() {
		if got, want := impl.WordText(impl.ReduceWord(w)), reducedText(impl.WordText(w)); got != want {
			t.Errorf("ReduceWord(%v) = %s, want %s", w, got, want)
		}
	}
}

func TestReduceWordOfTwoLetters(t *testing.T) {
	for n := range 1 << 14 {
		text := ""
		for i := range 7 {
			text += string("aAbB"[n>>(2*i)&3])
		}
		if got, want := impl.WordText(impl.ReduceWord(lettersOf(text))), reducedText(text); got != want {
			t.Fatalf("ReduceWord(%s) = %s, want %s", text, got, want)
		}
	}
}

func TestCoreWord(t *testing.T) {
	checkTexts(t, "CoreWord", impl.CoreWord, map[string]string{
		"-": "-", "a": "a", "A": "A", "aA": "-", "aa": "aa", "ab": "ab", "abA": "b", "abcA": "bc", "abcBA": "c", "aba": "aba", "abbA": "bb",
		"aAbcBB": "cB", "abcCBA": "-", "abBcA": "c", "bAaB": "-", "abAB": "abAB", "abcdefgHGFEDCBA": "H", "abcdefghGFEDCBA": "h",
		"Aba": "b", "AAbaa": "b", "abaA": "ab", "abAbA": "bAb", "hhaHHa": "hhaHHa", "abcdefghabcaHGFEDCBA": "abca",
	})
}

func TestTurnWord(t *testing.T) {
	cases := []struct {
		from string
		k    int
		want string
	}{
		{"abc", 0, "abc"}, {"abc", 1, "bca"}, {"abc", 2, "cab"}, {"abc", 3, "abc"}, {"abc", 4, "bca"}, {"abc", 302, "cab"},
		{"abc", -1, "cab"}, {"abc", -2, "bca"}, {"abc", -3, "abc"}, {"abc", -4, "cab"}, {"abc", -300, "abc"},
		{"a", 0, "a"}, {"a", 5, "a"}, {"a", -5, "a"}, {"-", 0, "-"}, {"-", 1, "-"}, {"-", -1, "-"}, {"-", math.MinInt64, "-"},
		{"aA", 1, "Aa"}, {"abAB", 2, "ABab"}, {"abcdeabc", 5, "abcabcde"},
		{"abcd", math.MaxInt64, "dabc"}, {"abcd", math.MinInt64, "abcd"}, {"abc", math.MaxInt64, "bca"}, {"abc", math.MinInt64, "bca"}, {"a", math.MinInt64, "a"},
		{"abcdefghabcdefghabcdefgH", 23, "Habcdefghabcdefghabcdefg"}, {"abcdefghabcdefghabcdefgH", -1, "Habcdefghabcdefghabcdefg"}, {"abcdefghabcdefghabcdefgH", 24, "abcdefghabcdefghabcdefgH"},
	}
	for _, c := range cases {
		if got := impl.TurnWord(lettersOf(c.from), c.k); !slices.Equal(got, lettersOf(c.want)) {
			t.Errorf("TurnWord(%s, %d) = %v, want %s", c.from, c.k, got, c.want)
		}
	}
	for _, w := range noWords() {
		for _, k := range []int{0, 1, -1, 24, math.MaxInt64, math.MinInt64} {
			if got := impl.TurnWord(w, k); len(got) != 0 {
				t.Errorf("TurnWord(%v, %d) = %v, want none", w, k, got)
			}
		}
	}
}

func TestAreConjugate(t *testing.T) {
	yes := [][2]string{
		{"-", "-"}, {"-", "aA"}, {"abcCBA", "hH"}, {"a", "a"}, {"ab", "ba"}, {"ab", "cabC"}, {"abA", "b"}, {"abc", "cab"}, {"abAB", "BabA"},
		{"aab", "aba"}, {"hhaB", "cahhaBAC"}, {"abcdefghabcdefghabcdefgh", "habcdefghabcdefghabcdefg"},
	}
	no := [][2]string{
		{"-", "a"}, {"a", "A"}, {"ab", "aB"}, {"ab", "AB"}, {"a", "aa"}, {"aa", "a"}, {"aba", "a"}, {"abc", "acb"}, {"abab", "ab"}, {"ab", "abab"},
		{"aabb", "abab"}, {"a", "b"}, {"aA", "abAB"}, {"abcd", "abc"},
	}
	for _, p := range yes {
		v, w := lettersOf(p[0]), lettersOf(p[1])
		if !impl.AreConjugate(v, w) || !impl.AreConjugate(w, v) {
			t.Errorf("AreConjugate(%s, %s) = false", p[0], p[1])
		}
	}
	for _, p := range no {
		v, w := lettersOf(p[0]), lettersOf(p[1])
		if impl.AreConjugate(v, w) || impl.AreConjugate(w, v) {
			t.Errorf("AreConjugate(%s, %s) = true", p[0], p[1])
		}
	}
	for _, v := range noWords() {
		for _, w := range [][]int{nil, {1}, v} {
			if impl.AreConjugate(v, w) || impl.AreConjugate(w, v) {
				t.Errorf("AreConjugate(%v, %v) = true", v, w)
			}
		}
	}
}

func TestAreConjugateTurns(t *testing.T) {
	w := lettersOf("aabaBcH")
	for k := range w {
		turned := impl.TurnWord(w, k)
		for _, x := range []string{"a", "A", "b", "H", "gF"} {
			around := slices.Concat(lettersOf(x), turned, impl.InverseWord(lettersOf(x)))
			if !impl.AreConjugate(w, around) || !impl.AreConjugate(around, w) {
				t.Errorf("AreConjugate(%v, %v) = false", w, around)
			}
		}
	}
}

func TestLetterSums(t *testing.T) {
	cases := map[string][]int{
		"-":                        {0, 0, 0, 0, 0, 0, 0, 0},
		"a":                        {1, 0, 0, 0, 0, 0, 0, 0},
		"H":                        {0, 0, 0, 0, 0, 0, 0, -1},
		"aabC":                     {2, 1, -1, 0, 0, 0, 0, 0},
		"abAB":                     {0, 0, 0, 0, 0, 0, 0, 0},
		"aA":                       {0, 0, 0, 0, 0, 0, 0, 0},
		"abcdefgh":                 {1, 1, 1, 1, 1, 1, 1, 1},
		"ABCDEFGHHgg":              {-1, -1, -1, -1, -1, -1, 1, -2},
		"dddddddddddddddddddddddd": {0, 0, 0, 24, 0, 0, 0, 0},
		"EEEEEEEEEEEEEEEEEEEEEEEE": {0, 0, 0, 0, -24, 0, 0, 0},
	}
	for text, want := range cases {
		if got := impl.LetterSums(lettersOf(text)); !slices.Equal(got, want) {
			t.Errorf("LetterSums(%s) = %v, want %v", text, got, want)
		}
	}
	for _, w := range noWords() {
		if got := impl.LetterSums(w); len(got) != 0 {
			t.Errorf("LetterSums(%v) = %v, want none", w, got)
		}
	}
}

func TestProductWord(t *testing.T) {
	twelve, thirteen := "abcdefghabcd", "DCBAHGFEDCBAb"
	cases := [][3]string{
		{"-", "-", "-"}, {"a", "-", "a"}, {"-", "a", "a"}, {"ab", "BA", "-"}, {"ab", "c", "abc"}, {"ab", "Bc", "ac"}, {"aA", "bB", "-"},
		{"abB", "A", "-"}, {"aAb", "c", "bc"}, {"a", "BbA", "-"}, {"ab", "aB", "abaB"},
		{twelve, twelve, twelve + twelve}, {twelve, "DCBAHGFEDCBA", "-"}, {strings.Repeat("a", 24), "-", strings.Repeat("a", 24)},
		{"-", strings.Repeat("A", 24), strings.Repeat("A", 24)}, {strings.Repeat("a", 23), "A", strings.Repeat("a", 22)},
	}
	for _, c := range cases {
		got, ok := impl.ProductWord(lettersOf(c[0]), lettersOf(c[1]))
		if !ok || !slices.Equal(got, lettersOf(c[2])) {
			t.Errorf("ProductWord(%s, %s) = %v, %v, want %s", c[0], c[1], got, ok, c[2])
		}
	}
	// The letters are counted before they are reduced.
	tooLong := [][2]string{{twelve, thirteen}, {thirteen, twelve}, {strings.Repeat("a", 24), "A"}, {"A", strings.Repeat("a", 24)}}
	for _, c := range tooLong {
		if got, ok := impl.ProductWord(lettersOf(c[0]), lettersOf(c[1])); ok || len(got) != 0 {
			t.Errorf("ProductWord(%s, %s) = %v, %v, want none", c[0], c[1], got, ok)
		}
	}
	for _, v := range noWords() {
		for _, w := range [][]int{nil, {1}, v} {
			if got, ok := impl.ProductWord(v, w); ok || len(got) != 0 {
				t.Errorf("ProductWord(%v, %v) = %v, %v, want none", v, w, got, ok)
			}
			if got, ok := impl.ProductWord(w, v); ok || len(got) != 0 {
				t.Errorf("ProductWord(%v, %v) = %v, %v, want none", w, v, got, ok)
			}
		}
	}
}

// TestWordsAreNew changes and prolongs every result, and looks at the argument with its unused capacity.
func TestWordsAreNew(t *testing.T) {
	whole := []int{1, 2, 3, -1, 5, 6, 7, 8}
	w := whole[:4]
	calls := map[string]func() []int{
		"InverseWord":   func() []int { return impl.InverseWord(w) },
		"ReduceWord":    func() []int { return impl.ReduceWord(w) },
		"CoreWord":      func() []int { return impl.CoreWord(w) },
		"TurnWord":      func() []int { return impl.TurnWord(w, 0) },
		"TurnWord by 1": func() []int { return impl.TurnWord(w, 1) },
		"LetterSums":    func() []int { return impl.LetterSums(w) },
		"ProductWord":   func() []int { p, _ := impl.ProductWord(w, nil); return p },
		"ProductWord 2": func() []int { p, _ := impl.ProductWord(nil, w); return p },
		"ProductWord 3": func() []int { p, _ := impl.ProductWord(w, w); return p },
	}
	for name, call := range calls {
		first := call()
		want := slices.Clone(first)
		for i := range first {
			first[i] = 9
		}
		_ = append(first, 9, 9)
		if got := call(); !slices.Equal(got, want) {
			t.Errorf("%s = %v after a change of its last result, want %v", name, got, want)
		}
		if !slices.Equal(whole, []int{1, 2, 3, -1, 5, 6, 7, 8}) {
			t.Fatalf("%s changed its argument to %v", name, whole)
		}
	}
}
