package tests

import (
	"math"
	"slices"
	"strings"
	"testing"

	"loop.example/g03105/impl"
)

// polygonsOf reads a text polygon by polygon, apart from ParseGluing, so that it is a second opinion.
func polygonsOf(text string) [][]int {
	var g [][]int
	for _, part := range strings.Split(text, " ") {
		g = append(g, lettersOf(part))
	}
	return g
}

func magnitude(x int) int { return max(x, -x) }

func sameLists(a [][]int, b [][]int) bool { return slices.EqualFunc(a, b, slices.Equal) }

// sixteenSides are the most that a gluing can have: 8 letters, each of them twice.
const sixteenSides = "abcdefghABCDEFGH"

// gluingCases have what a picture of each gluing tells; borders are the circles, parts the connected parts.
var gluingCases = []struct {
	text                            string
	edges, free                     string
	vertices, euler, parts, borders int
	twoSided                        bool
}{
	{"a", "a", "a", 1, 1, 1, 1, true},
	{"A", "a", "a", 1, 1, 1, 1, true},
	{"h", "h", "h", 1, 1, 1, 1, true},
	{"aA", "a", "-", 2, 2, 1, 0, true},
	{"Aa", "a", "-", 2, 2, 1, 0, true},
	{"aa", "a", "-", 1, 1, 1, 0, false},
	{"AA", "a", "-", 1, 1, 1, 0, false},
	{"ab", "ab", "ab", 2, 1, 1, 1, true},
	{"ba", "ab", "ab", 2, 1, 1, 1, true},
	{"hA", "ah", "ah", 2, 1, 1, 1, true},
	{"abcd", "abcd", "abcd", 4, 1, 1, 1, true},
	{"hGfEdCbA", "abcdefgh", "abcdefgh", 8, 1, 1, 1, true},
	{"aAb", "ab", "b", 2, 1, 1, 1, true},
	{"aab", "ab", "b", 1, 0, 1, 1, false},
	{"aBAc", "abc", "bc", 2, 0, 1, 2, true},
	{"abAc", "abc", "bc", 2, 0, 1, 2, true},
	{"abac", "abc", "bc", 2, 0, 1, 1, false},
	{"abAB", "ab", "-", 1, 0, 1, 0, true},
	{"aBAb", "ab", "-", 1, 0, 1, 0, true},
	{"abAb", "ab", "-", 1, 0, 1, 0, false},
	{"abab", "ab", "-", 2, 1, 1, 0, false},
	{"aabb", "ab", "-", 1, 0, 1, 0, false},
	{"aabB", "ab", "-", 2, 1, 1, 0, false},
	{"abBA", "ab", "-", 3, 2, 1, 0, true},
	{"abcABC", "abc", "-", 2, 0, 1, 0, true},
	{"aabbcc", "abc", "-", 1, -1, 1, 0, false},
	{"aabcBC", "abc", "-", 1, -1, 1, 0, false},
	{"abABc", "abc", "c", 1, -1, 1, 1, true},
	{"abABcdC", "abcd", "d", 2, -1, 1, 1, true},
	{"abAcdC", "abcd", "bd", 3, 0, 1, 2, true},
	{"abABcdCefE", "abcdef", "df", 3, -2, 1, 2, true},
	{"abABcdCD", "abcd", "-", 1, -2, 1, 0, true},
	{"abcdABCD", "abcd", "-", 1, -2, 1, 0, true},
	{sixteenSides, "abcdefgh", "-", 1, -6, 1, 0, true},
	{"abcdefghabcdefgh", "abcdefgh", "-", 8, 1, 1, 0, false},
	{"abcdefghHGFEDCBA", "abcdefgh", "-", 9, 2, 1, 0, true},
	{"abABcdCDefEFghGH", "abcdefgh", "-", 1, -6, 1, 0, true},
	{"a A", "a", "-", 1, 2, 1, 0, true},
	{"a a", "a", "-", 1, 2, 1, 0, true},
	{"ab AB", "ab", "-", 2, 2, 1, 0, true},
	{"ab ab", "ab", "-", 2, 2, 1, 0, true},
	{"ab aB", "ab", "-", 1, 1, 1, 0, false},
	{"abc abc", "abc", "-", 3, 2, 1, 0, true},
	{"abc ABC", "abc", "-", 1, 0, 1, 0, true},
	{"abc ACB", "abc", "-", 3, 2, 1, 0, true},
	{"abC abc", "abc", "-", 2, 1, 1, 0, false},
	{"abc Ade BDf CFE", "abcdef", "-", 2, 0, 1, 0, true},
	{"ab Bc Cd DA", "abcd", "-", 2, 2, 1, 0, true},
	{"ab bc cd da", "abcd", "-", 2, 2, 1, 0, true},
	{"ab Bc Cd Da", "abcd", "-", 1, 1, 1, 0, false},
	{"abAc dCbD", "abcd", "-", 2, 0, 1, 0, false},
	{"abc ade", "abcde", "bcde", 4, 1, 1, 1, true},
	{"abac Bde", "abcde", "cde", 3, 0, 1, 1, false},
	{"ab cd", "abcd", "abcd", 4, 2, 2, 2, true},
	{"ab AB cd", "abcd", "cd", 4, 3, 2, 1, true},
	{"aa bB", "ab", "-", 3, 3, 2, 0, false},
	{"aa bb", "ab", "-", 2, 2, 2, 0, false},
	{"abAB cdCD", "abcd", "-", 2, 0, 2, 0, true},
	{"abAB cd cd", "abcd", "-", 3, 2, 2, 0, true},
	{"abAb cd cd", "abcd", "-", 3, 2, 2, 0, false},
	{"ad bc A BCe", "abcde", "de", 3, 2, 2, 2, true},
	{"a b c d", "abcd", "abcd", 4, 4, 4, 4, true},
	{"a b A B", "ab", "-", 2, 4, 2, 0, true},
	{"a b c aB", "abc", "c", 2, 3, 2, 1, true},
	{"aA bB cC dD", "abcd", "-", 8, 8, 4, 0, true},
	{"aa bb cc dd", "abcd", "-", 4, 4, 4, 0, false},
}

// noGluings are lists of polygons that no gluing has.
func noGluings() [][][]int {
	lists := [][][]int{
		nil, {}, {nil}, {{}}, {nil, nil}, {{1}, {}}, {{}, {1}}, {{1, -1}, nil}, {{1}, {2}, {}, {3}},
		{{1}, {2}, {3}, {4}, {5}}, {{1}, {-1}, {2}, {-2}, {3}}, {{1}, {2}, {3}, {4}, {}}, slices.Repeat([][]int{{1}}, 5), slices.Repeat([][]int{{}}, 1000),
		{{math.MaxInt64}, {1}}, {{1}, {math.MinInt64}}, {{1}, {0}}, {{1}, {-9}}, {{2, 9}, {-9, -2}}, {{8}, {-8}, {0}},
	}
	threeTimes := []string{
		"aaa", "AAA", "aaA", "aAa", "abaca", "abAcA", "hhbH", "aa a", "a aA", "a a a", "a A a", "abA ba", "ab ac ad", "a b c aac", "aAaA", "abcdefghABCDEFGHa",
		"abcde abcde fghfg hfgha", "abcdefgh abcdefgh abcd", "abcdefghabcdefghabcde", "abcdefgh abcdefgh abcde", "aaaaaaaaaaaaaaaaaaaaaaaa",
	}
	for _, text := range threeTimes {
		lists = append(lists, polygonsOf(text))
	}
	for _, w := range noWords() {
		lists = append(lists, [][]int{w}, [][]int{w, {2}}, [][]int{{2}, {3}, {4}, w})
	}
	return lists
}

// shortGluings are all gluings of up to 5 sides and 4 polygons of the letters a, b and c, and those of the cases.
func shortGluings() [][][]int {
	var gluings [][][]int
	words := [][]int{nil}
	for i := 0; i < len(words); i++ {
		w := words[i]
		for cuts := range 1 << max(0, len(w)-1) {
			if g := cutAt(w, cuts); len(w) > 0 && len(g) <= 4 {
				gluings = append(gluings, g)
			}
		}
		for x := -3; x <= 3; x++ {
			if x != 0 && len(w) < 5 && occurrences(w, x) < 2 {
				words = append(words, append(slices.Clone(w), x))
			}
		}
	}
	for _, c := range gluingCases {
		gluings = append(gluings, polygonsOf(c.text))
	}
	return gluings
}

// cutAt divides a list behind the indices at the bits of cuts.
func cutAt(w []int, cuts int) [][]int {
	var g [][]int
	from := 0
	for i := range w {
		if i == len(w)-1 || cuts>>i&1 == 1 {
			g = append(g, slices.Clone(w[from:i+1]))
			from = i + 1
		}
	}
	return g
}

// occurrences counts a letter and its inverse.
func occurrences(w []int, x int) int {
	n := 0
	for _, y := range w {
		if magnitude(y) == magnitude(x) {
			n++
		}
	}
	return n
}

func TestGluingCases(t *testing.T) {
	for _, c := range gluingCases {
		g := polygonsOf(c.text)
		if !impl.IsGluing(g) {
			t.Errorf("IsGluing(%s) = false", c.text)
		}
		if got := impl.EdgeLetters(g); !slices.Equal(got, lettersOf(c.edges)) {
			t.Errorf("EdgeLetters(%s) = %v, want %s", c.text, got, c.edges)
		}
		if got := impl.FreeLetters(g); !slices.Equal(got, lettersOf(c.free)) {
			t.Errorf("FreeLetters(%s) = %v, want %s", c.text, got, c.free)
		}
		if got := impl.CountVertices(g); got != c.vertices {
			t.Errorf("CountVertices(%s) = %d, want %d", c.text, got, c.vertices)
		}
		if got := impl.EulerOf(g); got != c.euler {
			t.Errorf("EulerOf(%s) = %d, want %d", c.text, got, c.euler)
		}
		if got := impl.PartsOf(g); got != c.parts {
			t.Errorf("PartsOf(%s) = %d, want %d", c.text, got, c.parts)
		}
		if got := impl.CountBorders(g); got != c.borders {
			t.Errorf("CountBorders(%s) = %d, want %d", c.text, got, c.borders)
		}
		if got := impl.IsTwoSided(g); got != c.twoSided {
			t.Errorf("IsTwoSided(%s) = %v, want %v", c.text, got, c.twoSided)
		}
	}
}

func TestIsGluing(t *testing.T) {
	if impl.MaxPolygons != 4 || impl.MaxSides != 20 {
		t.Errorf("limits %d and %d", impl.MaxPolygons, impl.MaxSides)
	}
	for _, g := range shortGluings() {
		if !impl.IsGluing(g) {
			t.Errorf("IsGluing(%v) = false", g)
		}
	}
	for _, g := range noGluings() {
		if impl.IsGluing(g) {
			t.Errorf("IsGluing(%v) = true", g)
		}
	}
	for n := 0; n <= 6; n++ {
		var g [][]int
		for p := range n {
			g = append(g, []int{p + 1, -p - 1})
		}
		if got := impl.IsGluing(g); got != (1 <= n && n <= 4) {
			t.Errorf("IsGluing of %d polygons = %v", n, got)
		}
	}
}

// TestIsGluingSides goes up to 21 sides; from the 17th one on, a letter occurs three times.
func TestIsGluingSides(t *testing.T) {
	for n := 1; n <= 21; n++ {
		var w []int
		for i := range n {
			w = append(w, i%8+1)
		}
		half := n / 2
		for _, g := range [][][]int{{w}, {w[half:], w[:half]}} {
			if n == 1 && len(g) == 2 {
				continue
			}
			if got := impl.IsGluing(g); got != (n <= 16) {
				t.Errorf("IsGluing(%v) = %v", g, got)
			}
			_, ok := impl.ParseGluing(textOf(g))
			if ok != (n <= 16) {
				t.Errorf("ParseGluing(%q): %v", textOf(g), ok)
			}
		}
	}
}

// textOf writes a text polygon by polygon, apart from GluingText.
func textOf(g [][]int) string {
	var parts []string
	for _, w := range g {
		part := ""
		for _, x := range w {
			letter := lettersInOrder[magnitude(x)-1 : magnitude(x)]
			if x < 0 {
				letter = strings.ToUpper(letter)
			}
			part += letter
		}
		parts = append(parts, part)
	}
	return strings.Join(parts, " ")
}

func TestGluingText(t *testing.T) {
	for _, c := range gluingCases {
		if got := impl.GluingText(polygonsOf(c.text)); got != c.text {
			t.Errorf("GluingText(%s) = %q", c.text, got)
		}
	}
	for _, g := range shortGluings() {
		if got := impl.GluingText(g); got != textOf(g) {
			t.Errorf("GluingText(%v) = %q", g, got)
		}
	}
}

func TestParseGluingOfGluingText(t *testing.T) {
	texts := map[string][][]int{}
	for _, g := range shortGluings() {
		text := impl.GluingText(g)
		if first, there := texts[text]; there && !sameLists(first, g) {
			t.Errorf("%v and %v have the text %q", first, g, text)
		}
		texts[text] = g
		got, ok := impl.ParseGluing(text)
		if !ok || !sameLists(got, g) {
			t.Errorf("ParseGluing(%q) = %v, %v", text, got, ok)
		}
	}
}

func TestParseGluingRejects(t *testing.T) {
	texts := []string{
		"", "-", " ", "  ", "--", "- -", "a -", "- a", "ab - AB", "aA-", "-aA",
		" a", "a ", " a ", "a  b", "ab  AB", "ab AB ", " ab AB", "a   b", "a  ", "  a", "a b  c",
		"a\tb", "a\nb", "a\n", "a,b", "a|b", "a\x00b", "a\x00", "\x00", "a\u00a0b", "\xff", "a \xff",
		"i", "I", "abi", "a i", "i a", "abAB z", "1", "a 1", "a1A", "abAB 0",
		"aaa", "AAA", "aAa", "aa a", "a a a", "ab AB a", "ab Ac A", "a b c ccd", "hhH",
		"a b c d e", "aA bB cC dD eE", "a A b B c", "a b c d ", "a b c d -", " a b c d", "a a b b c c",
		sixteenSides + "a", sixteenSides + " A", sixteenSides + "abcd", sixteenSides + "abcde", sixteenSides + " abcd", sixteenSides + " abcde",
		"abcde abcde fghab fghcd", "abcde abcde fghab fghcde", strings.Repeat("a", 24), strings.Repeat("a", 25), strings.Repeat("a ", 1000), strings.Repeat(" ", 5000),
	}
	for _, text := range texts {
		if g, ok := impl.ParseGluing(text); ok || len(g) != 0 {
			t.Errorf("ParseGluing(%q) = %v, %v, want none", text, g, ok)
		}
	}
}

// TestParseGluingBytes goes through all bytes behind, ahead of and between two letters.
func TestParseGluingBytes(t *testing.T) {
	for b := range 256 {
		by := string([]byte{byte(b)})
		letter := strings.Contains("bcdefghBCDEFGHaA", by)
		for _, text := range []string{"c" + by, by + "c", "c" + by + "d"} {
			g, ok := impl.ParseGluing(text)
			if want := letter || by == " " && len(text) == 3; ok != want || ok && textOf(g) != text || !ok && len(g) != 0 {
				t.Errorf("ParseGluing(%q) = %v, %v", text, g, ok)
			}
		}
	}
}

func TestNoGluing(t *testing.T) {
	for _, g := range noGluings() {
		if got := impl.GluingText(g); got != "" {
			t.Errorf("GluingText(%v) = %q, want none", g, got)
		}
		if got := impl.EdgeLetters(g); len(got) != 0 {
			t.Errorf("EdgeLetters(%v) = %v, want none", g, got)
		}
		if got := impl.FreeLetters(g); len(got) != 0 {
			t.Errorf("FreeLetters(%v) = %v, want none", g, got)
		}
		if got := impl.CountVertices(g); got != -1 {
			t.Errorf("CountVertices(%v) = %d, want -1", g, got)
		}
		if got := impl.EulerOf(g); got != -100 {
			t.Errorf("EulerOf(%v) = %d, want -100", g, got)
		}
		if got := impl.PartsOf(g); got != -1 {
			t.Errorf("PartsOf(%v) = %d, want -1", g, got)
		}
		if impl.IsTwoSided(g) {
			t.Errorf("IsTwoSided(%v) = true", g)
		}
		if got := impl.CountBorders(g); got != -1 {
			t.Errorf("CountBorders(%v) = %d, want -1", g, got)
		}
	}
}

// A corner is the one behind side i of polygon p, and a flag is one of the two sides at it: that side, or the next one.
type corner struct{ p, i int }

type flag struct {
	at   corner
	next bool
}

func flagsOf(g [][]int) []flag {
	var flags []flag
	for p, w := range g {
		for i := range w {
			flags = append(flags, flag{corner{p, i}, false}, flag{corner{p, i}, true})
		}
	}
	return flags
}

// sideAt returns the side of a flag, and that end of its letter that lies at the corner: 1 for its beginning and 2 for its end.
func sideAt(g [][]int, f flag) (corner, int, int) {
	w := g[f.at.p]
	at := f.at
	if f.next {
		at.i = (at.i + 1) % len(w)
	}
	x := w[at.i]
	if f.next == (x > 0) {
		return at, magnitude(x), 1
	}
	return at, magnitude(x), 2
}

// across returns the flag on the other side of a glued side, at the same end of it; false on the boundary.
func across(g [][]int, f flag) (flag, bool) {
	at, x, end := sideAt(g, f)
	for _, other := range flagsOf(g) {
		otherAt, y, otherEnd := sideAt(g, other)
		if x == y && end == otherEnd && otherAt != at {
			return other, true
		}
	}
	return flag{}, false
}

// turnsAround counts the vertices by walking around each of them, from flag to flag.
func turnsAround(g [][]int) int {
	seen := map[corner]bool{}
	vertices := 0
	for _, first := range flagsOf(g) {
		if seen[first.at] {
			continue
		}
		vertices++
		for _, next := range []bool{false, true} {
			f, ok := flag{first.at, next}, true
			for ok {
				seen[f.at] = true
				f, ok = across(g, f)
				if ok && seen[f.at] {
					break
				}
				f.next = !f.next
			}
		}
	}
	return vertices
}

// circlesAlong counts the circles of the boundary by walking along each of them.
func circlesAlong(g [][]int) int {
	seen := map[int]bool{}
	circles := 0
	for _, first := range flagsOf(g) {
		_, x, _ := sideAt(g, first)
		if _, glued := across(g, first); glued || seen[x] {
			continue
		}
		circles++
		f := first
		for !seen[x] {
			seen[x] = true
			f = nextFree(g, f)
			_, x, _ = sideAt(g, f)
			f = otherEnd(g, f)
		}
	}
	return circles
}

// nextFree walks around the vertex of a flag on the boundary to the other flag there on the boundary.
func nextFree(g [][]int, f flag) flag {
	f.next = !f.next
	for {
		other, glued := across(g, f)
		if !glued {
			return f
		}
		f = flag{other.at, !other.next}
	}
}

// otherEnd returns the flag of the same side of the same polygon at its other end.
func otherEnd(g [][]int, f flag) flag {
	n := len(g[f.at.p])
	if f.next {
		return flag{corner{f.at.p, (f.at.i + 1) % n}, false}
	}
	return flag{corner{f.at.p, (f.at.i + n - 1) % n}, true}
}

// spread colours the polygons of a gluing from neighbour to neighbour: 1 for one that stays, -1 for one that is turned. It returns how often it had to begin, and whether no two colours contradict each other.
func spread(g [][]int) (int, bool) {
	colours := make([]int, len(g))
	parts, agree := 0, true
	var visit func(p int, colour int)
	visit = func(p int, colour int) {
		if colours[p] != 0 {
			agree = agree && colours[p] == colour
			return
		}
		colours[p] = colour
		for i, x := range g[p] {
			for q, w := range g {
				for j, y := range w {
					if magnitude(x) == magnitude(y) && (p != q || i != j) {
						visit(q, -colour*(x/magnitude(x))*(y/magnitude(y)))
					}
				}
			}
		}
	}
	for p := range g {
		if colours[p] == 0 {
			parts++
			visit(p, 1)
		}
	}
	return parts, agree
}

// TestGluingsByWalking counts all numbers of the short gluings again.
func TestGluingsByWalking(t *testing.T) {
	for _, g := range shortGluings() {
		if got, want := impl.CountVertices(g), turnsAround(g); got != want {
			t.Errorf("CountVertices(%s) = %d, want %d", textOf(g), got, want)
		}
		if got, want := impl.CountBorders(g), circlesAlong(g); got != want {
			t.Errorf("CountBorders(%s) = %d, want %d", textOf(g), got, want)
		}
		parts, twoSided := spread(g)
		if got := impl.PartsOf(g); got != parts {
			t.Errorf("PartsOf(%s) = %d, want %d", textOf(g), got, parts)
		}
		if got := impl.IsTwoSided(g); got != twoSided {
			t.Errorf("IsTwoSided(%s) = %v, want %v", textOf(g), got, twoSided)
		}
		checkLetters(t, g)
	}
}

// checkLetters counts the letters of a gluing again, and EulerOf with them.
func checkLetters(t *testing.T, g [][]int) {
	t.Helper()
	var edges, free []int
	for x := 1; x <= 8; x++ {
		n := occurrences(slices.Concat(g...), x)
		if n > 0 {
			edges = append(edges, x)
		}
		if n == 1 {
			free = append(free, x)
		}
	}
	if got := impl.EdgeLetters(g); !slices.Equal(got, edges) {
		t.Errorf("EdgeLetters(%s) = %v, want %v", textOf(g), got, edges)
	}
	if got := impl.FreeLetters(g); !slices.Equal(got, free) {
		t.Errorf("FreeLetters(%s) = %v, want %v", textOf(g), got, free)
	}
	if got, want := impl.EulerOf(g), turnsAround(g)-len(edges)+len(g); got != want {
		t.Errorf("EulerOf(%s) = %d, want %d", textOf(g), got, want)
	}
}

// TestGluingsAreNew changes and prolongs every result, and looks at the arguments with their unused capacity.
func TestGluingsAreNew(t *testing.T) {
	whole := [][]int{{1, 2, -1, 3, 7}, {4, -3, 2, -4, 8}, {5}}
	g := [][]int{whole[0][:4], whole[1][:4], whole[2]}[:2]
	calls := map[string]func() []int{
		"EdgeLetters":          func() []int { return impl.EdgeLetters(g) },
		"FreeLetters":          func() []int { return impl.FreeLetters([][]int{whole[0]}) },
		"ParseGluing, the 1st": func() []int { h, _ := impl.ParseGluing("abAc dCbD"); return h[0] },
		"ParseGluing, the 2nd": func() []int { h, _ := impl.ParseGluing("abAc dCbD"); return h[1] },
		"GluingText and others": func() []int {
			return []int{len(impl.GluingText(g)), impl.EulerOf(g), impl.PartsOf(g), impl.CountBorders(g)}
		},
		"IsGluing, IsTwoSided": func() []int { impl.IsGluing(g); impl.IsTwoSided(g); return nil },
	}
	for name, call := range calls {
		first := call()
		want := slices.Clone(first)
		for i := range first {
			first[i] = 9
		}
		_ = append(first, 9, 9)
		if got := call(); !slices.Equal(got, want) {
			t.Errorf("%s = %v after a change of its last result, want %v", name, got, want)
		}
		if !sameLists(whole, [][]int{{1, 2, -1, 3, 7}, {4, -3, 2, -4, 8}, {5}}) || !sameLists(g[:3], [][]int{{1, 2, -1, 3}, {4, -3, 2, -4}, {5}}) {
			t.Fatalf("%s changed its argument to %v, %v", name, whole, g[:3])
		}
	}
}

// TestParsedPolygonsAreApart prolongs each polygon of a result and looks at the other ones.
func TestParsedPolygonsAreApart(t *testing.T) {
	g, _ := impl.ParseGluing("a b cd C")
	for p := range g {
		_ = append(g[p], 9, 9, 9, 9)
	}
	if textOf(g) != "a b cd C" {
		t.Errorf("the polygons became %v", g)
	}
}
