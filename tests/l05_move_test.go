package tests

import (
	"math"
	"slices"
	"strings"
	"testing"

	"loop.example/g03105/impl"
)

type move func(g [][]int) ([][]int, bool)

func cut(p int, i int, j int) move {
	return func(g [][]int) ([][]int, bool) { return impl.CutPolygon(g, p, i, j) }
}

func glue(x int) move {
	return func(g [][]int) ([][]int, bool) { return impl.GluePolygons(g, x) }
}

func turn(p int, k int) move {
	return func(g [][]int) ([][]int, bool) { return impl.TurnPolygon(g, p, k) }
}

func mirror(p int) move {
	return func(g [][]int) ([][]int, bool) { return impl.MirrorPolygon(g, p) }
}

func swap(x int, y int) move {
	return func(g [][]int) ([][]int, bool) { return impl.SwapLetters(g, x, y) }
}

func reverse(x int) move {
	return func(g [][]int) ([][]int, bool) { return impl.ReverseLetter(g, x) }
}

func cancel(p int, i int) move {
	return func(g [][]int) ([][]int, bool) { return impl.CancelSides(g, p, i) }
}

// gluingKind is what a move keeps; the surface is the zero one if the gluing is not connected.
type gluingKind struct {
	surface               impl.Surface
	connected             bool
	euler, parts, borders int
	twoSided              bool
}

// knownKinds has what was counted, by the texts, since the moves lead to the same gluings again and again.
var knownKinds = map[string]gluingKind{}

func kindOf(g [][]int) gluingKind {
	text := textOf(g)
	kind, known := knownKinds[text]
	if !known {
		s, connected := impl.SurfaceOf(g)
		kind = gluingKind{s, connected, impl.EulerOf(g), impl.PartsOf(g), impl.CountBorders(g), impl.IsTwoSided(g)}
		knownKinds[text] = kind
	}
	return kind
}

// checkMove expects the text want, or no result for "none", and that a result is a gluing with the same surface.
func checkMove(t *testing.T, name string, g [][]int, m move, want string) {
	t.Helper()
	from := textOf(g)
	got, ok := m(g)
	if textOf(g) != from {
		t.Fatalf("%s of %q changed it to %q", name, from, textOf(g))
	}
	if want == "none" {
		if ok || len(got) != 0 {
			t.Errorf("%s of %q = %v, %v, want none", name, from, got, ok)
		}
		return
	}
	if !ok || textOf(got) != want {
		t.Errorf("%s of %q = %v, %v, want %q", name, from, got, ok, want)
		return
	}
	if !impl.IsGluing(got) {
		t.Errorf("%s of %q = %q is no gluing", name, from, want)
	}
	if kindOf(got) != kindOf(g) {
		t.Errorf("%s of %q = %q is %v, not %v", name, from, want, kindOf(got), kindOf(g))
	}
}

// farIndices are out of the range of all indices, letters and polygons.
var farIndices = []int{math.MinInt64, math.MinInt64 + 1, -1 << 32, -21, -9, -1, 20, 21, 256, 1 << 32, math.MaxInt64 - 1, math.MaxInt64}

// moveCases are results that can be read from pictures.
var moveCases = []struct {
	name     string
	move     move
	from, to string
}{
	{"cut 0 1 3", cut(0, 1, 3), "abAB", "bAc CBa"},
	{"cut 0 0 1", cut(0, 0, 1), "abAB", "ac CbAB"},
	{"cut 0 0 3", cut(0, 0, 3), "abAB", "abAc CB"},
	{"cut 0 2 3", cut(0, 2, 3), "abAB", "Ac CBab"},
	{"cut 0 2 2", cut(0, 2, 2), "abAB", "none"},
	{"cut 0 0 0", cut(0, 0, 0), "abAB", "none"},
	{"cut 0 2 1", cut(0, 2, 1), "abAB", "none"},
	{"cut 0 3 0", cut(0, 3, 0), "abAB", "none"},
	{"cut 0 0 4", cut(0, 0, 4), "abAB", "none"},
	{"cut 0 3 4", cut(0, 3, 4), "abAB", "none"},
	{"cut 0 -1 2", cut(0, -1, 2), "abAB", "none"},
	{"cut 0 0 1 of one letter", cut(0, 0, 1), "a", "none"},
	{"cut 0 0 0 of one letter", cut(0, 0, 0), "a", "none"},
	{"cut 0 0 1 of two letters", cut(0, 0, 1), "aA", "ab BA"},
	{"cut of a boundary", cut(0, 1, 2), "abAc", "bd DAca"},
	{"cut of one side", cut(0, 0, 2), "aabb", "aac Cbb"},
	{"cut of a letter", cut(0, 0, 1), "aa", "ab Ba"},
	{"cut of the 2nd", cut(1, 0, 2), "abc ABC", "abc ABd DC"},
	{"cut of the 1st", cut(0, 1, 2), "abc ABC", "bd ABC Dca"},
	{"cut with the least letter", cut(0, 0, 1), "bB", "ba AB"},
	{"cut with a letter between", cut(0, 0, 2), "aCAc", "aCb BAc"},
	{"cut with the last letter", cut(0, 3, 5), "abcdefg", "deh Hfgabc"},
	{"cut of 14 sides", cut(0, 7, 13), "abcdefgABCDEFG", "ABCDEFh HGabcdefg"},
	{"cut with 3 polygons", cut(2, 0, 1), "a A bB", "a A bc CB"},
	{"cut with 4 polygons", cut(0, 0, 1), "ab A B cC", "none"},
	{"cut with 4 polygons, the last", cut(3, 0, 1), "ab A B cC", "none"},
	{"cut with 8 letters", cut(0, 0, 1), "abcdefgh", "none"},
	{"cut with 16 sides", cut(0, 3, 9), sixteenSides, "none"},
	{"cut with 8 letters in 3 polygons", cut(1, 0, 1), "abc defgh ABC", "none"},
	{"cut of no polygon", cut(1, 0, 1), "abAB", "none"},
	{"cut of polygon -1", cut(-1, 0, 1), "abAB", "none"},

	{"glue c", glue(3), "bAc CBa", "bABa"},
	{"glue a, the same direction", glue(1), "abc abd", "DBbc"},
	{"glue a, two inverses", glue(1), "bAc dAe", "bDEc"},
	{"glue a, other directions", glue(1), "bac dAe", "bedc"},
	{"glue a, other directions, the inverse first", glue(1), "bAc dae", "bedc"},
	{"glue a at the first indices", glue(1), "ab Ac", "cb"},
	{"glue a at the last indices", glue(1), "ba cA", "bc"},
	{"glue a around", glue(1), "ba Acde", "bcde"},
	{"glue b, not the first", glue(2), "ab Bc", "ac"},
	{"glue into the 2nd of 4", glue(2), "aA bc dD eBf", "aA fec dD"},
	{"glue the 1st and the last", glue(1), "ab cd Cd Ae", "eb cd Cd"},
	{"glue one letter into many", glue(1), "bac A", "bc"},
	{"glue many into one letter", glue(1), "a bAc", "cb"},
	{"glue one letter, turned", glue(1), "a bac", "BC"},
	{"glue the sphere", glue(1), "ab AB", "Bb"},
	{"glue the projective plane", glue(1), "ab aB", "bb"},
	{"glue with two common letters, c", glue(3), "abc ABC", "abAB"},
	{"glue two letters", glue(1), "a A", "none"},
	{"glue the same two letters", glue(1), "a a", "none"},
	{"glue two letters of four", glue(1), "a A bc BC", "none"},
	{"glue the other two of four", glue(2), "a A bc BC", "a A Cc"},
	{"glue twice in one", glue(1), "abAB", "none"},
	{"glue twice in the 2nd", glue(3), "ab Accd", "none"},
	{"glue a letter that occurs once", glue(2), "ab Ac", "none"},
	{"glue a letter that does not occur", glue(4), "ab Ac", "none"},
	{"glue an inverse", glue(-1), "ab Ac", "none"},
	{"glue 0", glue(0), "ab Ac", "none"},
	{"glue 9", glue(9), "ab Ac", "none"},

	{"turn 0 1", turn(0, 1), "abAB", "bABa"},
	{"turn 0 0", turn(0, 0), "abAB", "abAB"},
	{"turn 0 4", turn(0, 4), "abAB", "abAB"},
	{"turn 0 7", turn(0, 7), "abAB", "BabA"},
	{"turn 0 -1", turn(0, -1), "abAB", "BabA"},
	{"turn 0 -6", turn(0, -6), "abAB", "ABab"},
	{"turn of one letter", turn(0, 5), "a", "a"},
	{"turn of the 2nd", turn(1, 2), "ab cde", "ab ecd"},
	{"turn of no polygon", turn(1, 1), "abAB", "none"},
	{"turn of polygon -1", turn(-1, 1), "abAB", "none"},

	{"mirror 0", mirror(0), "abAB", "baBA"},
	{"mirror of one letter", mirror(0), "a", "A"},
	{"mirror of the 2nd", mirror(1), "abc abd", "abc DBA"},
	{"mirror of the 1st of two", mirror(0), "aab Bc", "BAA Bc"},
	{"mirror of no polygon", mirror(1), "abAB", "none"},
	{"mirror of polygon -1", mirror(-1), "abAB", "none"},

	{"swap a c", swap(1, 3), "abAB", "cbCB"},
	{"swap c a", swap(3, 1), "abAB", "cbCB"},
	{"swap a b", swap(1, 2), "abAB", "baBA"},
	{"swap a b in two", swap(1, 2), "aBc Bd A", "bAc Ad B"},
	{"swap a a", swap(1, 1), "abAB", "abAB"},
	{"swap c c", swap(3, 3), "abAB", "abAB"},
	{"swap c d", swap(3, 4), "abAB", "abAB"},
	{"swap a h", swap(1, 8), "abAB", "hbHB"},
	{"swap a 9", swap(1, 9), "abAB", "none"},
	{"swap 9 a", swap(9, 1), "abAB", "none"},
	{"swap 9 9", swap(9, 9), "abAB", "none"},
	{"swap a 0", swap(1, 0), "abAB", "none"},
	{"swap 0 a", swap(0, 1), "abAB", "none"},
	{"swap a B", swap(1, -2), "abAB", "none"},
	{"swap A A", swap(-1, -1), "abAB", "none"},

	{"reverse a", reverse(1), "abAB", "AbaB"},
	{"reverse a, twice the same", reverse(1), "aab", "AAb"},
	{"reverse a in two", reverse(1), "ab ac", "Ab Ac"},
	{"reverse b, once", reverse(2), "abA", "aBA"},
	{"reverse c, none", reverse(3), "abA", "abA"},
	{"reverse h", reverse(8), "hH", "Hh"},
	{"reverse 9", reverse(9), "abAB", "none"},
	{"reverse 0", reverse(0), "abAB", "none"},
	{"reverse A", reverse(-1), "abAB", "none"},

	{"cancel 0 1", cancel(0, 1), "abBc", "ac"},
	{"cancel 0 0", cancel(0, 0), "aAbc", "bc"},
	{"cancel around", cancel(0, 3), "abcA", "bc"},
	{"cancel around, the inverse first", cancel(0, 4), "Abbca", "bbc"},
	{"cancel of 3 letters", cancel(0, 0), "aAb", "b"},
	{"cancel of 3 letters, the last two", cancel(0, 1), "bAa", "b"},
	{"cancel of 3 letters, around", cancel(0, 2), "abA", "b"},
	{"cancel of 3 letters, no inverses", cancel(0, 1), "abA", "none"},
	{"cancel of 2 letters", cancel(0, 0), "aA", "none"},
	{"cancel of 2 letters, around", cancel(0, 1), "aA", "none"},
	{"cancel of 1 letter", cancel(0, 0), "a", "none"},
	{"cancel of 2 letters of the 2nd", cancel(1, 0), "bcB aA", "none"},
	{"cancel of the 2nd", cancel(1, 1), "ab AcCd", "ab Ad"},
	{"cancel of equal letters", cancel(0, 0), "aab", "none"},
	{"cancel of other letters", cancel(0, 0), "abAB", "none"},
	{"cancel of letters apart", cancel(0, 0), "abAc", "none"},
	{"cancel at no index", cancel(0, 4), "abcA", "none"},
	{"cancel at index -1", cancel(0, -1), "abcA", "none"},
	{"cancel of no polygon", cancel(1, 3), "abcA", "none"},
	{"cancel of polygon -1", cancel(-1, 3), "abcA", "none"},

	{"one of one", impl.OnePolygon, "abAB", "abAB"},
	{"one of one letter", impl.OnePolygon, "a", "a"},
	{"one of three", impl.OnePolygon, "ab Ac Bd", "cd"},
	{"one of two with the least letter", impl.OnePolygon, "abc ABC", "BCbc"},
	{"one of two, turned", impl.OnePolygon, "abc abd", "DBbc"},
	{"one of four", impl.OnePolygon, "abc Ade BDf CFE", "deDfFE"},
	{"one of two with a letter twice", impl.OnePolygon, "aab Bc", "aac"},
	{"one of two with the last letter", impl.OnePolygon, "ah Hb", "ab"},
	{"one of a chain", impl.OnePolygon, "ab Bc Cd De", "ae"},
	{"one, the last first", impl.OnePolygon, "cd bC aB A", "d"},
	{"one of the sphere", impl.OnePolygon, "ab AB", "Bb"},
	{"one of the klein bottle", impl.OnePolygon, "abAc dCbD", "acDdAc"},
	{"one of two letters", impl.OnePolygon, "a A", "none"},
	{"one of the same two letters", impl.OnePolygon, "a a", "none"},
	{"one of a sphere that ends with two letters", impl.OnePolygon, "a Ab B", "none"},
	{"one of two parts", impl.OnePolygon, "a b", "none"},
	{"one of two parts of two", impl.OnePolygon, "ab Ac de Df", "none"},
	{"one of four parts", impl.OnePolygon, "a b c d", "none"},
}

func TestMoveCases(t *testing.T) {
	for _, c := range moveCases {
		checkMove(t, c.name, polygonsOf(c.from), c.move, c.to)
	}
}

// The functions below make the moves with texts, apart from the program's, so that they are a second opinion; "none" stands for no result.

// inverseText turns a text around, with small letters for large ones and large ones for small ones.
func inverseText(text string) string {
	inverse := ""
	for _, r := range text {
		letter := strings.ToLower(string(r))
		if letter == string(r) {
			letter = strings.ToUpper(letter)
		}
		inverse = letter + inverse
	}
	return inverse
}

// letterText is "?", which occurs nowhere, for a number that is no letter from 1 on.
func letterText(x int) string {
	if x < 1 || x > 8 {
		return "?"
	}
	return lettersInOrder[x-1 : x]
}

// withPart replaces a part of a text, or leaves it out if there is no new one.
func withPart(text string, p int, part ...string) string {
	parts := strings.Split(text, " ")
	return strings.Join(slices.Replace(parts, p, p+1, part...), " ")
}

// partOf returns part p of a text; it is empty if there is none.
func partOf(text string, p int) string {
	parts := strings.Split(text, " ")
	if p < 0 || p >= len(parts) {
		return ""
	}
	return parts[p]
}

func cutText(text string, p int, i int, j int) string {
	part := partOf(text, p)
	if i < 0 || j <= i || len(part) <= j || strings.Count(text, " ") == 3 {
		return "none"
	}
	for _, r := range lettersInOrder {
		x := string(r)
		if !strings.Contains(strings.ToLower(text), x) {
			return withPart(text, p, part[i:j]+x) + " " + inverseText(x) + part[j:] + part[:i]
		}
	}
	return "none"
}

func glueText(text string, x int) string {
	letter := letterText(x)
	var with []int
	for p, part := range strings.Split(text, " ") {
		if strings.Contains(strings.ToLower(part), letter) {
			with = append(with, p)
		}
	}
	if len(with) != 2 {
		return "none"
	}
	first, second := partOf(text, with[0]), partOf(text, with[1])
	if strings.Contains(first, letter) == strings.Contains(second, letter) {
		second = inverseText(second)
	}
	if !strings.Contains(first, letter) {
		letter = inverseText(letter)
	}
	ahead, behind, _ := strings.Cut(second, inverseText(letter))
	joined := strings.Replace(first, letter, behind+ahead, 1)
	if joined == "" {
		return "none"
	}
	return withPart(withPart(text, with[1]), with[0], joined)
}

func turnText(text string, p int, k int) string {
	part := partOf(text, p)
	if part == "" {
		return "none"
	}
	from := (k%len(part) + len(part)) % len(part)
	return withPart(text, p, part[from:]+part[:from])
}

func mirrorText(text string, p int) string {
	part := partOf(text, p)
	if part == "" {
		return "none"
	}
	return withPart(text, p, inverseText(part))
}

func swapText(text string, x int, y int) string {
	a, b := letterText(x), letterText(y)
	if a == "?" || b == "?" {
		return "none"
	}
	return strings.NewReplacer(a, b, b, a, strings.ToUpper(a), strings.ToUpper(b), strings.ToUpper(b), strings.ToUpper(a)).Replace(text)
}

func reverseText(text string, x int) string {
	a := letterText(x)
	if a == "?" {
		return "none"
	}
	return strings.NewReplacer(a, strings.ToUpper(a), strings.ToUpper(a), a).Replace(text)
}

func cancelText(text string, p int, i int) string {
	part := partOf(text, p)
	if len(part) < 3 || i < 0 || i >= len(part) {
		return "none"
	}
	pair, rest := part[len(part)-1:]+part[:1], part[1:len(part)-1]
	if i+1 < len(part) {
		pair, rest = part[i:i+2], part[:i]+part[i+2:]
	}
	if inverseText(pair) != pair {
		return "none"
	}
	return withPart(text, p, rest)
}

func oneText(text string) string {
	for x := 1; x <= 8; x++ {
		if next := glueText(text, x); next != "none" {
			return oneText(next)
		}
	}
	if strings.Contains(text, " ") {
		return "none"
	}
	return text
}

// moveGluings are all gluings of up to 4 sides of the letters a, b and c, those of the cases, and some for which limits decide.
func moveGluings() [][][]int {
	gluings := slices.DeleteFunc(shortGluings(), func(g [][]int) bool { return len(slices.Concat(g...)) == 5 })
	texts := []string{
		"abcdefg", "abcdefgABCDEFG", "abcdefgabcdefg", "abcdefg ABCDEFG", "abcdefg abcdefg", "abcd efgA BCDE FG", "abc dAe fBD ECgFG", "abcde fgeDa CbfG",
		"abcdefgh", "abcdefgh hgfedcba", "abcd efgh ABCD EFGH", "abcd efgh AFCH EBGD", "aAbB cCdD eEfF gGhH", "ab Bc Cd Defgh", "ab cA bd DCefgh",
		"bcdefgh", "acdefghA", "abcdfghFGH", "hgfedcb HGFEDCB", "ab cd eA", "ab Bc Ca", "ab bc ca", "aab Bcc", "aab bccd D", "ab cB ad DC",
	}
	for _, c := range moveCases {
		texts = append(texts, c.from)
	}
	for _, text := range texts {
		gluings = append(gluings, polygonsOf(text))
	}
	return gluings
}

// nearIndices are those from -2 to two behind the last one of n, and some that are far away.
func nearIndices(n int) []int {
	indices := slices.Clone(farIndices)
	for i := -2; i <= n+1; i++ {
		indices = append(indices, i)
	}
	return indices
}

func TestCutPolygonAtAllPairs(t *testing.T) {
	for _, g := range moveGluings() {
		text := textOf(g)
		for p := -1; p <= len(g); p++ {
			n := len(partOf(text, p))
			for i := -1; i <= n; i++ {
				for j := -1; j <= n+1; j++ {
					checkMove(t, "cut", g, cut(p, i, j), cutText(text, p, i, j))
				}
			}
		}
		for _, far := range farIndices {
			checkMove(t, "cut of a far polygon", g, cut(far, 0, 1), "none")
			checkMove(t, "cut from a far index", g, cut(0, far, 1), "none")
			checkMove(t, "cut to a far index", g, cut(0, 0, far), "none")
			checkMove(t, "cut between far indices", g, cut(0, far, far), "none")
			checkMove(t, "cut between all indices", g, cut(0, math.MinInt64, far), "none")
		}
	}
}

// TestCutPolygonUndone glues both parts again: the polygon begins with the letter at which the first part does.
func TestCutPolygonUndone(t *testing.T) {
	cuts := 0
	for _, g := range moveGluings() {
		for p := range g {
			for j := range g[p] {
				for i := range j {
					parts, ok := impl.CutPolygon(g, p, i, j)
					if !ok {
						continue
					}
					cuts++
					x := magnitude(parts[len(g)][0])
					whole, ok := impl.GluePolygons(parts, x)
					if back, ok := impl.TurnPolygon(whole, p, -i); !ok || !sameLists(back, g) {
						t.Errorf("cut %d %d %d of %q, glued and turned = %v, %v", p, i, j, textOf(g), back, ok)
					}
					if turned, _ := impl.TurnPolygon(g, p, i); !ok || !sameLists(whole, turned) {
						t.Errorf("cut %d %d %d of %q, glued = %v, %v", p, i, j, textOf(g), whole, ok)
					}
				}
			}
		}
	}
	if cuts < 1000 {
		t.Errorf("%d cuts", cuts)
	}
}

func TestGluePolygonsWithAllLetters(t *testing.T) {
	for _, g := range moveGluings() {
		text := textOf(g)
		for _, x := range nearIndices(9) {
			checkMove(t, "glue", g, glue(x), glueText(text, x))
		}
		for x := -8; x <= 0; x++ {
			checkMove(t, "glue of an inverse", g, glue(x), "none")
		}
	}
}

func TestTurnPolygonByAll(t *testing.T) {
	for _, g := range moveGluings() {
		text := textOf(g)
		for p := -1; p <= len(g); p++ {
			for _, k := range nearIndices(2 * len(partOf(text, p))) {
				checkMove(t, "turn", g, turn(p, k), turnText(text, p, k))
			}
		}
		for _, far := range farIndices {
			checkMove(t, "turn of a far polygon", g, turn(far, 1), "none")
		}
	}
}

func TestMirrorPolygonOfAll(t *testing.T) {
	for _, g := range moveGluings() {
		for _, p := range nearIndices(len(g)) {
			checkMove(t, "mirror", g, mirror(p), mirrorText(textOf(g), p))
		}
		for p := range g {
			once, _ := impl.MirrorPolygon(g, p)
			if twice, ok := impl.MirrorPolygon(once, p); !ok || !sameLists(twice, g) {
				t.Errorf("mirror %d of %q, twice = %v, %v", p, textOf(g), twice, ok)
			}
		}
	}
}

func TestSwapLettersOfAll(t *testing.T) {
	for _, g := range moveGluings() {
		for x := -1; x <= 9; x++ {
			for y := -1; y <= 9; y++ {
				checkMove(t, "swap", g, swap(x, y), swapText(textOf(g), x, y))
			}
		}
		for _, far := range farIndices {
			checkMove(t, "swap with a far letter", g, swap(1, far), "none")
			checkMove(t, "swap of a far letter", g, swap(far, 1), "none")
			checkMove(t, "swap of a far letter with itself", g, swap(far, far), "none")
		}
	}
}

func TestReverseLetterOfAll(t *testing.T) {
	for _, g := range moveGluings() {
		for _, x := range nearIndices(9) {
			checkMove(t, "reverse", g, reverse(x), reverseText(textOf(g), x))
		}
		for x := -8; x <= 0; x++ {
			checkMove(t, "reverse of an inverse", g, reverse(x), "none")
		}
	}
}

func TestCancelSidesAtAll(t *testing.T) {
	for _, g := range moveGluings() {
		text := textOf(g)
		for p := -1; p <= len(g); p++ {
			for _, i := range nearIndices(len(partOf(text, p))) {
				checkMove(t, "cancel", g, cancel(p, i), cancelText(text, p, i))
			}
		}
		for _, far := range farIndices {
			checkMove(t, "cancel in a far polygon", g, cancel(far, 0), "none")
		}
	}
}

func TestOnePolygonOfAll(t *testing.T) {
	for _, g := range moveGluings() {
		want := oneText(textOf(g))
		checkMove(t, "one", g, impl.OnePolygon, want)
		if parts, _ := spread(g); parts > 1 && want != "none" {
			t.Errorf("one of %q with %d parts = %q", textOf(g), parts, want)
		}
	}
}

// TestMovesInARow goes on from each result, so that gluings are met that stand in no list.
func TestMovesInARow(t *testing.T) {
	for text, want := range gluedSurfaces {
		g := polygonsOf(text)
		for step := range 200 {
			m := []move{cut(step%len(g), step%3, step%3+1+step%2), glue(step%8 + 1), turn(step%len(g), step), mirror(step % len(g)), swap(step%8+1, step*5%8+1), reverse(step%8 + 1), cancel(step%len(g), step%5)}[step*3%7]
			if next, ok := m(g); ok {
				g = next
			}
			if s, ok := impl.SurfaceOf(g); !ok || s != want {
				t.Fatalf("step %d from %q: %q is %v, %v, not %v", step, text, textOf(g), s, ok, want)
			}
		}
	}
}

// allMoves have arguments for which each of them succeeds for moveBase.
func allMoves() map[string]move {
	return map[string]move{
		"CutPolygon 0": cut(0, 1, 3), "CutPolygon 1": cut(1, 0, 2), "GluePolygons a": glue(1), "GluePolygons d": glue(4),
		"TurnPolygon 0": turn(0, 1), "TurnPolygon by 0": turn(1, 0), "TurnPolygon by the length": turn(1, 4), "MirrorPolygon": mirror(1),
		"SwapLetters": swap(2, 5), "SwapLetters of a letter and itself": swap(2, 2), "ReverseLetter": reverse(2), "ReverseLetter that is none": reverse(8),
		"CancelSides": cancel(2, 1), "CancelSides around": cancel(1, 3), "OnePolygon": impl.OnePolygon,
	}
}

// moveBase returns a gluing whose polygons, like the list of them, have unused capacity, and all that is stored.
func moveBase() ([][]int, [][]int) {
	whole := [][]int{{1, 2, 3, 4, 7, 7}, {5, -1, 2, -5, 8, 8}, {-4, 6, -6, 3, 7, 7}, {5, 5}}
	return [][]int{whole[0][:4], whole[1][:4], whole[2][:4], whole[3]}[:3], whole
}

func TestMovesOfNoGluing(t *testing.T) {
	moves := allMoves()
	for i := range 3 {
		moves["CutPolygon of polygon "+letterText(i+1)] = cut(i, 0, 1)
		moves["TurnPolygon of polygon "+letterText(i+1)] = turn(i, 0)
		moves["MirrorPolygon of polygon "+letterText(i+1)] = mirror(i)
		moves["CancelSides of polygon "+letterText(i+1)] = cancel(i, 0)
	}
	for x := 1; x <= 8; x++ {
		moves["GluePolygons with "+letterText(x)] = glue(x)
		moves["SwapLetters with "+letterText(x)] = swap(x, 1)
		moves["ReverseLetter with "+letterText(x)] = reverse(x)
	}
	lists := append(noGluings(), polygonsOf("aAaA"), polygonsOf("aab ac"), [][]int{{1, -1, 9}}, [][]int{{1, 2}, {-1, 0}}, [][]int{{1, -1, 2}, {}})
	for _, far := range farIndices {
		moves["GluePolygons with a far letter"+impl.FormatInt(far)] = glue(far)
		lists = append(lists, [][]int{{far, 1}, {-far, 2}}, [][]int{{1, -1, far}})
	}
	for name, m := range moves {
		for _, g := range lists {
			if got, ok := m(g); ok || len(got) != 0 {
				t.Errorf("%s of %v = %v, %v, want none", name, g, got, ok)
			}
		}
	}
}

// TestMovesAreNew changes and prolongs every result, and looks at the arguments with their unused capacity.
func TestMovesAreNew(t *testing.T) {
	for name, m := range allMoves() {
		g, whole := moveBase()
		first, ok := m(g)
		want := textOf(first)
		if !ok || want == "" {
			t.Fatalf("%s fails", name)
		}
		for p := range first {
			_ = append(first[p], 9, 9, 9, 9)
		}
		if textOf(first) != want {
			t.Errorf("%s: the polygons %q became %v", name, want, first)
		}
		for p := range first {
			for i := range first[p] {
				first[p][i] = 9
			}
		}
		_ = append(first, []int{9}, []int{9})
		clear(first[:cap(first)])
		base, baseWhole := moveBase()
		if !sameLists(g[:4], base[:4]) || !sameLists(whole, baseWhole) {
			t.Fatalf("%s changed its argument to %v, %v", name, whole, g[:4])
		}
		if again, ok := m(g); !ok || textOf(again) != want {
			t.Errorf("%s = %v after a change of its last result, want %q", name, again, want)
		}
	}
}

// TestOnePolygonOfOneIsNew looks at the polygon that stays as it is.
func TestOnePolygonOfOneIsNew(t *testing.T) {
	whole := [][]int{{1, 2, -1, -2, 7, 7}, {5}}
	g := [][]int{whole[0][:4], whole[1]}[:1]
	one, ok := impl.OnePolygon(g)
	if !ok || textOf(one) != "abAB" {
		t.Fatalf("one of abAB = %v, %v", one, ok)
	}
	for i := range one[0] {
		one[0][i] = 9
	}
	_ = append(one[0], 9)
	_ = append(one, []int{9})
	one[0] = nil
	if !sameLists(whole, [][]int{{1, 2, -1, -2, 7, 7}, {5}}) || !sameLists(g[:2], [][]int{{1, 2, -1, -2}, {5}}) {
		t.Errorf("one of abAB shares memory with it: %v, %v", whole, g[:2])
	}
}

// TestMovedPolygonsAreApart changes each polygon of a result by itself and looks at the other ones.
func TestMovedPolygonsAreApart(t *testing.T) {
	for name, m := range allMoves() {
		g, _ := moveBase()
		want, _ := m(g)
		for p := range want {
			got, _ := m(g)
			for i := range got[p] {
				got[p][i] = 9
			}
			got[p] = want[p]
			if !sameLists(got, want) {
				t.Errorf("%s: with polygon %d, others changed to %v", name, p, got)
			}
		}
	}
}
