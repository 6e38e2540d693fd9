package tests

import (
	"math"
	"slices"
	"strings"
	"testing"

	"loop.example/g03105/impl"
)

// An action is written as the digits to which each letter leads: "120 102" is 1, 2, 0 for the letter a and 1, 0, 2 for b. The functions below walk through such texts from one sheet at a time, apart from the program's lists, so that they are a second opinion.

func actionOf(text string) [][]int {
	var list [][]int
	for _, part := range strings.Fields(text) {
		var images []int
		for _, r := range part {
			images = append(images, int(r-'0'))
		}
		list = append(list, images)
	}
	return list
}

func digitsOf(list []int) string {
	text := ""
	for _, x := range list {
		text += decimal(x)
	}
	return text
}

func digitTexts(lists [][]int) string {
	var parts []string
	for _, list := range lists {
		parts = append(parts, digitsOf(list))
	}
	return strings.Join(parts, " ")
}

// coverRelators are the words around the polygons of the surfaces below; the torus minus 1 has that of the torus along its border.
var coverRelators = map[int]string{0: "abAB", 1: "abAB", 2: "abABcdCD"}

// eulerBelow are the Euler numbers of these surfaces.
var eulerBelow = map[int]int{0: -1, 1: 0, 2: -2}

// sheetAfter walks from a sheet along a word.
func sheetAfter(text string, sheet byte, word string) byte {
	parts := strings.Fields(text)
	for _, r := range word {
		images := parts[strings.IndexRune(lettersInOrder, r|0x20)]
		if r < 'a' {
			sheet = '0' + byte(strings.IndexByte(images, sheet))
		} else {
			sheet = images[sheet-'0']
		}
	}
	return sheet
}

func sheetsOf(text string) string { return "01234"[:len(strings.Fields(text)[0])] }

// walkedWord returns the sheets to which a word leads from all of them.
func walkedWord(text string, word string) string {
	images := ""
	for _, sheet := range []byte(sheetsOf(text)) {
		images += string(sheetAfter(text, sheet, word))
	}
	return images
}

func walkedAction(g int, text string) bool {
	if len(strings.Fields(text)) != max(2, 2*g) {
		return false
	}
	return g == 0 || walkedWord(text, coverRelators[g]) == sheetsOf(text)
}

// walkedParts goes from each sheet that is not found yet to all that can be reached, in both directions.
func walkedParts(text string) string {
	letters := len(strings.Fields(text))
	var parts []string
	for _, first := range []byte(sheetsOf(text)) {
		if strings.IndexByte(strings.Join(parts, ""), first) >= 0 {
			continue
		}
		part := []byte{first}
		for i := 0; i < len(part); i++ {
			for _, r := range lettersInOrder[:letters] + strings.ToUpper(lettersInOrder[:letters]) {
				if next := sheetAfter(text, part[i], string(r)); !slices.Contains(part, next) {
					part = append(part, next)
				}
			}
		}
		slices.Sort(part)
		parts = append(parts, string(part))
	}
	return strings.Join(parts, " ")
}

// walkedLengths returns how often the word has to be run through from a sheet until it closes, in ascending order, once for all sheets on the way.
func walkedLengths(text string, word string, sheets string) []int {
	var lengths []int
	seen := ""
	for _, first := range []byte(sheets) {
		if strings.IndexByte(seen, first) >= 0 {
			continue
		}
		length := 0
		for sheet := first; length == 0 || sheet != first; sheet = sheetAfter(text, sheet, word) {
			seen += string(sheet)
			length++
		}
		lengths = append(lengths, length)
	}
	slices.Sort(lengths)
	return lengths
}

// walkedCovers counts the handles of each part from its Euler number and its borders.
func walkedCovers(g int, text string) []impl.Surface {
	var covers []impl.Surface
	for _, part := range strings.Fields(walkedParts(text)) {
		borders := 0
		if g == 0 {
			borders = len(walkedLengths(text, coverRelators[0], part))
		}
		handles := 0
		for 2-2*handles-borders > len(part)*eulerBelow[g] {
			handles++
		}
		covers = append(covers, surfaceNumbers(handles, 0, borders))
	}
	return covers
}

// walkedSymmetries tries every permutation of the sheets.
func walkedSymmetries(text string) int {
	symmetries := 0
	for _, p := range mapsOf(len(sheetsOf(text))) {
		if renumbered(text, p) == text {
			symmetries++
		}
	}
	return symmetries
}

// renumbered gives sheet i the number p[i].
func renumbered(text string, p []int) string {
	var parts []string
	for _, images := range strings.Fields(text) {
		changed := make([]byte, len(images))
		for i := range images {
			changed[p[i]] = '0' + byte(p[images[i]-'0'])
		}
		parts = append(parts, string(changed))
	}
	return strings.Join(parts, " ")
}

// allLists are all lists of so many permutations of n sheets.
func allLists(n int, count int) []string {
	texts := []string{""}
	for range count {
		var longer []string
		for _, text := range texts {
			for _, images := range mapsOf(n) {
				longer = append(longer, strings.TrimSpace(text+" "+digitsOf(images)))
			}
		}
		texts = longer
	}
	return texts
}

// stirredList has so many permutations of n sheets.
func stirredList(n int, count int, k int) string {
	var parts []string
	for i := range count {
		parts = append(parts, digitsOf(stirredMap(n, 1009*k+31*i)))
	}
	return strings.Join(parts, " ")
}

// manyLists have as many permutations as an action of g has: all of them for few sheets, and others. Not all of them are actions.
func manyLists(g int) []string {
	var texts []string
	count := max(2, 2*g)
	for n := 1; n <= 4-g/2; n++ {
		texts = append(texts, allLists(n, count)...)
	}
	for n := 3; n <= 5; n++ {
		for k := range 60 {
			pair := stirredList(n, 2, k)
			a, b := pair[:n], pair[n+1:]
			inverse := walkedWord(pair, "A")
			lists := []string{pair, a + " " + a, a + " " + inverse, sheetsOf(a) + " " + b, walkedWord(pair, "aa") + " " + a}
			if g == 2 {
				lists = []string{stirredList(n, 4, k), pair + " " + b + " " + a, pair + " " + pair, a + " " + a + " " + b + " " + b, a + " " + inverse + " " + b + " " + sheetsOf(b)}
			}
			texts = append(texts, lists...)
		}
	}
	return texts
}

// anyLists have from 1 to MaxLetters permutations of 1 to MaxSheets sheets.
func anyLists() []string {
	texts := slices.Concat(allLists(1, 1), allLists(2, 1), allLists(3, 1), allLists(4, 1), allLists(5, 1), allLists(2, 2), allLists(3, 2), allLists(2, 3))
	for n := 1; n <= 5; n++ {
		for count := 1; count <= 8; count++ {
			same := slices.Repeat([]string{"01234"[:n]}, count)
			texts = append(texts, strings.Join(same, " "))
			// A single letter that moves sheets counts wherever it stands among the others.
			for at := range count {
				moved := slices.Clone(same)
				moved[at] = digitsOf(stirredMap(n, 1+at))
				texts = append(texts, strings.Join(moved, " "))
			}
			for k := range 6 {
				// Permutations of few sheets beside others that stay leave several parts.
				few := stirredList(1+k%n, count, k)
				stay := "01234"[1+k%n : n]
				texts = append(texts, stirredList(n, count, k), strings.ReplaceAll(few+" ", " ", stay+" ")[:count*(n+1)-1])
			}
		}
	}
	return texts
}

// stirredLetters has n of the first letters and of their inverses.
func stirredLetters(letters int, n int, k int) string {
	both := lettersInOrder[:letters] + strings.ToUpper(lettersInOrder[:letters])
	text := ""
	state := uint32(7919*letters + 104729*n + k)
	for range n {
		state = state*1664525 + 1013904223
		text += string(both[int(state>>8)%len(both)])
	}
	return text
}

// wordsOfLetters are the empty word, single letters, words of other lengths and of MaxWord letters.
func wordsOfLetters(letters int) []string {
	words := []string{""}
	for _, r := range lettersInOrder[:letters] + strings.ToUpper(lettersInOrder[:letters]) {
		words = append(words, string(r), string(r)+string(r), strings.Repeat(string(r), 24))
	}
	for k := range 6 {
		words = append(words, stirredLetters(letters, 2+k, k), stirredLetters(letters, 24, k))
	}
	return words
}

// coverNames writes the names of surfaces, or that there are none.
func coverNames(covers []impl.Surface, ok bool) string {
	var names []string
	for _, s := range covers {
		names = append(names, impl.SurfaceName(s))
	}
	text := strings.Join(names, ", ")
	if !ok {
		return strings.TrimSpace("none " + text)
	}
	return text
}

// actionCases have what a picture of the sheets shows.
var actionCases = []struct {
	name       string
	g          int
	text       string
	parts      string
	covers     string
	symmetries int
}{
	{"one sheet", 0, "0 0", "0", "torus minus 1", 1},
	{"one sheet", 1, "0 0", "0", "torus", 1},
	{"one sheet", 2, "0 0 0 0", "0", "double torus", 1},
	{"two identities", 0, "01 01", "0 1", "torus minus 1, torus minus 1", 2},
	{"two identities", 1, "01 01", "0 1", "torus, torus", 2},
	{"four identities", 2, "01 01 01 01", "0 1", "double torus, double torus", 2},
	{"identities of five sheets", 0, "01234 01234", "0 1 2 3 4", "torus minus 1, torus minus 1, torus minus 1, torus minus 1, torus minus 1", 120},
	{"identities of five sheets", 1, "01234 01234", "0 1 2 3 4", "torus, torus, torus, torus, torus", 120},
	{"identities of five sheets", 2, "01234 01234 01234 01234", "0 1 2 3 4", "double torus, double torus, double torus, double torus, double torus", 120},
	{"two sheets exchanged by a", 0, "10 01", "01", "torus minus 2", 2},
	{"two sheets exchanged by b", 0, "01 10", "01", "torus minus 2", 2},
	{"two sheets exchanged by both", 1, "10 10", "01", "torus", 2},
	{"two sheets exchanged by d", 2, "01 01 01 10", "01", "3 handles", 2},
	{"three sheets around", 0, "120 012", "012", "torus minus 3", 3},
	{"three sheets around", 1, "012 201", "012", "torus", 3},
	{"three sheets around, and back", 1, "120 201", "012", "torus", 3},
	{"three sheets with one border", 0, "120 102", "012", "double torus minus 1", 1},
	{"three sheets with one border", 0, "102 021", "012", "double torus minus 1", 1},
	{"three sheets, both handles undo each other", 2, "120 102 102 120", "012", "4 handles", 1},
	{"a sheet beside two others", 0, "102 012", "01 2", "torus minus 2, torus minus 1", 2},
	{"a sheet between two others", 0, "210 012", "02 1", "torus minus 2, torus minus 1", 2},
	{"a sheet ahead of two others", 1, "012 021", "0 12", "torus, torus", 2},
	{"a sheet beside two others", 2, "102 012 012 102", "01 2", "3 handles, double torus", 2},
	{"a sheet beside two pairs", 2, "10234 01324 01234 01234", "01 23 4", "3 handles, 3 handles, double torus", 4},
	{"four sheets in a square", 1, "1032 2301", "0123", "torus", 4},
	{"four sheets in a square", 0, "1032 2301", "0123", "torus minus 4", 4},
	{"four sheets around", 0, "1230 0321", "0123", "double torus minus 2", 2},
	{"two pairs of sheets", 1, "1032 1032", "01 23", "torus, torus", 8},
	{"two pairs of sheets that are mixed", 0, "2301 0123", "02 13", "torus minus 2, torus minus 2", 8},
	{"five sheets around", 0, "12340 01234", "01234", "torus minus 5", 5},
	{"five sheets around", 1, "12340 23401", "01234", "torus", 5},
	{"five sheets around", 2, "01234 12340 01234 40123", "01234", "6 handles", 5},
	{"five sheets with three borders", 0, "12340 10234", "01234", "double torus minus 3", 1},
	{"five sheets with one border", 0, "12340 43210", "01234", "3 handles minus 1", 1},
	{"three sheets beside two", 0, "12034 10243", "012 34", "double torus minus 1, torus minus 2", 2},
	{"three sheets beside two", 1, "12034 01243", "012 34", "torus, torus", 6},
	{"three sheets beside two", 2, "12043 10234 10234 12034", "012 34", "4 handles, 3 handles", 2},
}

func TestActionCases(t *testing.T) {
	if impl.MaxSheets != 5 {
		t.Errorf("MaxSheets is %d", impl.MaxSheets)
	}
	for _, c := range actionCases {
		list := actionOf(c.text)
		if !impl.IsAction(c.g, list) {
			t.Errorf("%s: IsAction(%d, %s) = false", c.name, c.g, c.text)
		}
		if got := digitTexts(impl.SheetParts(list)); got != c.parts {
			t.Errorf("%s: SheetParts(%s) = %s, want %s", c.name, c.text, got, c.parts)
		}
		if got := coverNames(impl.CoverOf(c.g, list)); got != c.covers {
			t.Errorf("%s: CoverOf(%d, %s) = %s, want %s", c.name, c.g, c.text, got, c.covers)
		}
		if got := impl.SheetSymmetries(list); got != c.symmetries {
			t.Errorf("%s: SheetSymmetries(%s) = %d, want %d", c.name, c.text, got, c.symmetries)
		}
	}
}

// TestNoActionCases has permutations whose relator moves sheets, or that are too few or too many.
func TestNoActionCases(t *testing.T) {
	cases := []struct {
		g    int
		text string
	}{
		{1, "120 102"}, {1, "102 021"}, {1, "1230 1023"}, {1, "12340 10234"}, {1, "12340 01342"}, {1, "12034 10243"}, {1, "0132 0213"},
		{2, "120 102 012 012"}, {2, "012 012 102 021"}, {2, "120 102 120 102"}, {2, "12340 10234 01234 12340"}, {2, "102 021 120 120"},
		{0, "0"}, {1, "0"}, {2, "0"}, {0, "10"}, {1, "10"}, {2, "10"}, {0, "0 0 0"}, {1, "0 0 0"}, {2, "0 0 0"},
		{0, "0 0 0 0"}, {1, "0 0 0 0"}, {1, "10 01 01 01"}, {2, "0 0"}, {2, "10 01"}, {2, "01234 01234"}, {2, "120 102"},
		{0, "01 01 01 01 01"}, {1, "01 01 01 01 01 01"}, {2, "01 01 01 01 01"}, {2, "01 01 01 01 01 01"}, {2, "0 0 0 0 0 0 0 0"}, {0, "0 0 0 0 0 0 0 0"},
	}
	for _, c := range cases {
		list := actionOf(c.text)
		if impl.IsAction(c.g, list) {
			t.Errorf("IsAction(%d, %s) = true", c.g, c.text)
		}
		if got := coverNames(impl.CoverOf(c.g, list)); got != "none" {
			t.Errorf("CoverOf(%d, %s) = %s, want none", c.g, c.text, got)
		}
		// The other functions ask for permutations only.
		if got := digitTexts(impl.SheetParts(list)); got != walkedParts(c.text) {
			t.Errorf("SheetParts(%s) = %s", c.text, got)
		}
		if got := impl.SheetSymmetries(list); got != walkedSymmetries(c.text) {
			t.Errorf("SheetSymmetries(%s) = %d", c.text, got)
		}
	}
}

// TestActionsByWalking goes through all lists of few sheets and through others.
func TestActionsByWalking(t *testing.T) {
	for g := 0; g <= 2; g++ {
		yes, no := 0, 0
		for _, text := range manyLists(g) {
			list := actionOf(text)
			want := walkedAction(g, text)
			if got := impl.IsAction(g, list); got != want {
				t.Fatalf("IsAction(%d, %s) = %v", g, text, got)
			}
			for other := range 3 {
				if got := impl.IsAction(other, list); got != walkedAction(other, text) {
					t.Fatalf("IsAction(%d, %s) = %v", other, text, got)
				}
			}
			covers := "none"
			if want {
				covers = coverNames(walkedCovers(g, text), true)
				yes++
			} else {
				no++
			}
			if got := coverNames(impl.CoverOf(g, list)); got != covers {
				t.Fatalf("CoverOf(%d, %s) = %s, want %s", g, text, got, covers)
			}
		}
		if yes < 500 || g > 0 && no < 500 {
			t.Errorf("%d actions of %d, %d others", yes, g, no)
		}
	}
}

// TestEulerNumbersAreMultiplied adds the Euler numbers of all parts, and looks at each of them with its number of sheets.
func TestEulerNumbersAreMultiplied(t *testing.T) {
	for g := 0; g <= 2; g++ {
		for _, text := range manyLists(g) {
			covers, ok := impl.CoverOf(g, actionOf(text))
			if !ok {
				continue
			}
			parts := strings.Fields(walkedParts(text))
			if len(covers) != len(parts) {
				t.Fatalf("CoverOf(%d, %s) = %v for the parts %s", g, text, covers, parts)
			}
			sum, borders := 0, 0
			for i, s := range covers {
				if !impl.IsSurface(s) || s.Crosscaps != 0 || g > 0 && s.Borders != 0 || impl.EulerNumber(s) != len(parts[i])*eulerBelow[g] {
					t.Fatalf("CoverOf(%d, %s) has %v for the part %s", g, text, s, parts[i])
				}
				sum += impl.EulerNumber(s)
				borders += s.Borders
			}
			if sum != len(sheetsOf(text))*eulerBelow[g] {
				t.Fatalf("CoverOf(%d, %s) = %v with the Euler number %d", g, text, covers, sum)
			}
			// A border of a cover runs along the border below as often as its lift has to be run through.
			if lifts := impl.LiftLengths(actionOf(text), []int{1, 2, -1, -2}); g == 0 && borders != len(lifts) {
				t.Fatalf("CoverOf(%d, %s) = %v with other borders than %v", g, text, covers, lifts)
			}
		}
	}
}

// leavingDart numbers the darts of the edges that lead from each sheet along each letter; along an inverse, the end of the edge leaves.
func leavingDart(text string, sheet byte, letter byte) int {
	n := len(sheetsOf(text))
	small := letter | 0x20
	if small == letter {
		return 2 * (n*int(letter-'a') + int(sheet-'0'))
	}
	from := sheetAfter(text, sheet, string(letter))
	return leavingDart(text, from, small) + 1
}

// coverMap draws the sheets as vertices and the letters as edges, so that the lifts of the relator are the faces.
func coverMap(g int, text string) []int {
	relator := coverRelators[g]
	m := make([]int, len(sheetsOf(text))*len(relator))
	for _, sheet := range []byte(sheetsOf(text)) {
		for i := range relator {
			arrived := leavingDart(text, sheet, relator[i]^0x20)
			m[arrived] = leavingDart(text, sheet, relator[(i+1)%len(relator)])
		}
	}
	return m
}

// partAction is the action on the sheets of one part, numbered anew.
func partAction(text string, part string) string {
	var lists []string
	for _, images := range strings.Fields(text) {
		changed := ""
		for _, sheet := range []byte(part) {
			changed += decimal(strings.IndexByte(part, images[sheet-'0']))
		}
		lists = append(lists, changed)
	}
	return strings.Join(lists, " ")
}

// TestCoversAsMaps draws the covers, and expects the handles, the borders and the number of them to be those of the drawing. For g 2, more than 3 sheets have too many darts.
func TestCoversAsMaps(t *testing.T) {
	drawn := 0
	for g := 0; g <= 2; g++ {
		for _, text := range manyLists(g) {
			covers, ok := impl.CoverOf(g, actionOf(text))
			if !ok || g == 2 && len(sheetsOf(text)) > 3 {
				continue
			}
			drawn++
			m := coverMap(g, text)
			handles, borders := 0, 0
			for _, s := range covers {
				handles += s.Handles
				borders += s.Borders
			}
			if impl.GenusOf(m) != handles || impl.MapParts(m) != len(covers) {
				t.Fatalf("CoverOf(%d, %s) = %v, but %v has genus %d and %d parts", g, text, covers, m, impl.GenusOf(m), impl.MapParts(m))
			}
			faces := len(impl.FacesOf(m))
			if g == 0 && faces != borders || g > 0 && faces != len(sheetsOf(text)) {
				t.Fatalf("CoverOf(%d, %s) = %v, but %v has %d faces", g, text, covers, m, faces)
			}
			for i, part := range strings.Fields(walkedParts(text)) {
				alone := partAction(text, part)
				if got := coverNames(impl.CoverOf(g, actionOf(alone))); got != impl.SurfaceName(covers[i]) || impl.GenusOf(coverMap(g, alone)) != covers[i].Handles {
					t.Fatalf("CoverOf(%d, %s) = %v, but %s for the part %s", g, text, covers, got, part)
				}
			}
		}
	}
	if drawn < 1500 {
		t.Errorf("%d covers are drawn", drawn)
	}
}

// actCases have the images of all sheets under a word, and the lengths of its cycles.
var actCases = []struct {
	name, text, word string
	images, lengths  string
}{
	{"the empty word", "0", "", "0", "1"},
	{"the empty word", "120 102", "", "012", "1,1,1"},
	{"the empty word", "12340", "", "01234", "1,1,1,1,1"},
	{"a letter", "10", "a", "10", "2"},
	{"a letter", "120 102", "a", "120", "3"},
	{"a letter", "120 102", "b", "102", "1,2"},
	{"an inverse letter", "120 102", "A", "201", "3"},
	{"an inverse letter that is itself", "120 102", "B", "102", "1,2"},
	{"from the left to the right", "120 102", "ab", "021", "1,2"},
	{"from the left to the right", "120 102", "ba", "210", "1,2"},
	{"from the left to the right, inverse", "120 102", "aB", "021", "1,2"},
	{"from the left to the right, inverse", "120 102", "Ab", "210", "1,2"},
	{"from the left to the right, both inverse", "120 102", "AB", "210", "1,2"},
	{"from the left to the right, both inverse", "120 102", "BA", "021", "1,2"},
	{"a letter twice", "120 102", "aa", "201", "3"},
	{"a letter three times", "120 102", "aaa", "012", "1,1,1"},
	{"a letter and its inverse", "120 102", "aA", "012", "1,1,1"},
	{"the relator", "120 102", "abAB", "201", "3"},
	{"the inverse of the relator", "120 102", "baBA", "120", "3"},
	{"the relator of two that commute", "1032 2301", "abAB", "0123", "1,1,1,1"},
	{"the relator of two handles", "120 102 102 120", "abABcdCD", "012", "1,1,1"},
	{"the first half of it", "120 102 102 120", "abAB", "201", "3"},
	{"the second half of it", "120 102 102 120", "cdCD", "120", "3"},
	{"a sheet beside others", "1032 0132", "a", "1032", "2,2"},
	{"a sheet beside others", "1032 0132", "b", "0132", "1,1,2"},
	{"a sheet beside others", "1032 0132", "ab", "1023", "1,1,2"},
	{"five sheets around", "12340", "a", "12340", "5"},
	{"five sheets around, twice", "12340", "aa", "23401", "5"},
	{"five sheets around, back", "12340", "A", "40123", "5"},
	{"five sheets around, five times", "12340", "aaaaa", "01234", "1,1,1,1,1"},
	{"five sheets around, MaxWord letters", "12340", "aaaaaaaaaaaaaaaaaaaaaaaa", "40123", "5"},
	{"two and three sheets", "10342", "a", "10342", "2,3"},
	{"two and three sheets, in another order", "43120", "A", "42310", "2,3"},
	{"two and three sheets, twice", "10342", "aa", "01423", "1,1,3"},
	{"two and three sheets, three times", "10342", "aaa", "10234", "1,1,1,2"},
	{"two and two sheets and one", "10324", "a", "10324", "1,2,2"},
	{"four sheets and one", "02341", "a", "02341", "1,4"},
	{"the last of MaxLetters letters", "01 01 01 01 01 01 01 10", "h", "10", "2"},
	{"the inverse of the last of them", "012 012 012 012 012 012 012 120", "H", "201", "3"},
	{"all of MaxLetters letters", "10 01 10 01 10 01 01 10", "abcdefgh", "01", "1,1"},
	{"all of their inverses", "120 012 120 012 012 012 012 120", "ABCDEFGH", "012", "1,1,1"},
	{"all letters and all inverses of two", "120 102", "aAbBabAB", "201", "3"},
}

func TestActCases(t *testing.T) {
	for _, c := range actCases {
		list, w := actionOf(c.text), lettersOf(c.word)
		if got := digitsOf(impl.ActWord(list, w)); got != c.images {
			t.Errorf("%s: ActWord(%s, %q) = %s, want %s", c.name, c.text, c.word, got, c.images)
		}
		if got := listText(impl.LiftLengths(list, w)); got != c.lengths {
			t.Errorf("%s: LiftLengths(%s, %q) = %s, want %s", c.name, c.text, c.word, got, c.lengths)
		}
	}
}

// TestWordsByWalking goes through lists of 1 to MaxLetters permutations and through words of up to MaxWord letters.
func TestWordsByWalking(t *testing.T) {
	for _, text := range anyLists() {
		list := actionOf(text)
		for _, word := range wordsOfLetters(len(list)) {
			if got := digitsOf(impl.ActWord(list, lettersOf(word))); got != walkedWord(text, word) {
				t.Fatalf("ActWord(%s, %q) = %s, want %s", text, word, got, walkedWord(text, word))
			}
			want := walkedLengths(text, word, sheetsOf(text))
			if got := impl.LiftLengths(list, lettersOf(word)); !slices.Equal(got, want) {
				t.Fatalf("LiftLengths(%s, %q) = %v, want %v", text, word, got, want)
			}
		}
	}
}

// TestWordsMultiply expects that the parts of a word act one after the other, that the inverse leads back, and that turns of a word have lifts of the same lengths.
func TestWordsMultiply(t *testing.T) {
	for _, text := range anyLists() {
		list := actionOf(text)
		n := len(sheetsOf(text))
		for k, word := range wordsOfLetters(len(list)) {
			w := lettersOf(word)
			at := min(k, len(w))
			whole, ahead, behind := impl.ActWord(list, w), impl.ActWord(list, w[:at]), impl.ActWord(list, w[at:])
			back := impl.ActWord(list, impl.InverseWord(w))
			for sheet := range n {
				if whole[sheet] != behind[ahead[sheet]] || back[whole[sheet]] != sheet {
					t.Fatalf("ActWord(%s, %q) = %v, but %v and %v, and %v for the inverse", text, word, whole, ahead, behind, back)
				}
			}
			if got := impl.ActWord(list, impl.ReduceWord(w)); !slices.Equal(got, whole) {
				t.Fatalf("ActWord(%s) of %q, reduced, = %v, want %v", text, word, got, whole)
			}
			lengths := impl.LiftLengths(list, w)
			sum := 0
			for _, length := range lengths {
				sum += length
			}
			if sum != n || !slices.IsSorted(lengths) || slices.Min(lengths) < 1 {
				t.Fatalf("LiftLengths(%s, %q) = %v", text, word, lengths)
			}
			for _, other := range [][]int{impl.TurnWord(w, k), impl.InverseWord(w), impl.CoreWord(w)} {
				if got := impl.LiftLengths(list, other); !slices.Equal(got, lengths) {
					t.Fatalf("LiftLengths(%s) of %q = %v, but %v for %v", text, word, lengths, got, other)
				}
			}
		}
	}
}

// TestEqualWordsActAlike expects that words that are equal in the group of the surface act in the same way.
func TestEqualWordsActAlike(t *testing.T) {
	for g := 1; g <= 2; g++ {
		lists := slices.DeleteFunc(manyLists(g), func(text string) bool { return !walkedAction(g, text) })
		for i, text := range lists {
			list := actionOf(text)
			for k := range 5 {
				w := lettersOf(stirredText(g, 5*i+k))
				images := digitsOf(impl.ActWord(list, w))
				if got := digitsOf(impl.ActWord(list, impl.DehnWord(g, w))); got != images {
					t.Fatalf("ActWord(%s, %v) = %s, but %s for DehnWord of it", text, w, images, got)
				}
				if impl.IsTrivialWord(g, w) && images != sheetsOf(text) {
					t.Fatalf("ActWord(%s, %v) = %s of a trivial word", text, w, images)
				}
			}
			r := impl.Relator(g)
			for k := range r {
				if got := digitsOf(impl.ActWord(list, impl.TurnWord(r, k))); got != sheetsOf(text) {
					t.Fatalf("ActWord(%s) of the relator turned by %d = %s", text, k, got)
				}
			}
		}
	}
}

func TestPartsByWalking(t *testing.T) {
	numbers := map[int]int{}
	for _, text := range slices.Concat(anyLists(), manyLists(0), allLists(4, 1), allLists(5, 1), allLists(2, 4)) {
		got := impl.SheetParts(actionOf(text))
		if want := walkedParts(text); digitTexts(got) != want {
			t.Fatalf("SheetParts(%s) = %v, want %s", text, got, want)
		}
		numbers[len(got)]++
	}
	for n := 1; n <= 5; n++ {
		if numbers[n] == 0 {
			t.Errorf("no list with %d parts", n)
		}
	}
}

// TestPartsOfOneWord expects, for a list of one permutation, the parts to be as many and as long as the lifts of the letter.
func TestPartsOfOneWord(t *testing.T) {
	for n := 1; n <= 5; n++ {
		for _, text := range allLists(n, 1) {
			var lengths []int
			for _, part := range impl.SheetParts(actionOf(text)) {
				lengths = append(lengths, len(part))
			}
			slices.Sort(lengths)
			if got := impl.LiftLengths(actionOf(text), []int{1}); !slices.Equal(got, lengths) {
				t.Errorf("LiftLengths(%s, a) = %v, but parts of %v", text, got, lengths)
			}
		}
	}
}

func TestSymmetriesByTrying(t *testing.T) {
	numbers := map[int]bool{}
	for _, text := range slices.Concat(anyLists(), allLists(3, 2), allLists(4, 2), allLists(2, 4)) {
		got := impl.SheetSymmetries(actionOf(text))
		if want := walkedSymmetries(text); got != want {
			t.Fatalf("SheetSymmetries(%s) = %d, want %d", text, got, want)
		}
		// In one part, a symmetry is known by the sheet to which it leads the first one.
		if n := len(sheetsOf(text)); len(strings.Fields(walkedParts(text))) == 1 && n%got != 0 {
			t.Errorf("SheetSymmetries(%s) = %d", text, got)
		}
		numbers[got] = true
	}
	for _, n := range []int{1, 2, 3, 4, 5, 6, 8, 12, 24, 120} {
		if !numbers[n] {
			t.Errorf("no list with %d symmetries", n)
		}
	}
}

// TestNumberedAnew numbers the sheets in another way, which changes no more than the order of the covers.
func TestNumberedAnew(t *testing.T) {
	for _, c := range actionCases {
		n := len(sheetsOf(c.text))
		for k := range 10 {
			p := stirredMap(n, k)
			text := renumbered(c.text, p)
			list := actionOf(text)
			covers, ok := impl.CoverOf(c.g, list)
			names := strings.Split(coverNames(covers, ok), ", ")
			want := strings.Split(c.covers, ", ")
			slices.Sort(names)
			slices.Sort(want)
			if !slices.Equal(names, want) || impl.SheetSymmetries(list) != c.symmetries {
				t.Errorf("CoverOf(%d, %s) = %v with %d symmetries, want %s and %d", c.g, text, covers, impl.SheetSymmetries(list), c.covers, c.symmetries)
			}
		}
	}
}

func factorial(n int) int {
	product := 1
	for k := 2; k <= n; k++ {
		product *= k
	}
	return product
}

// TestCountsOneByOne goes through all lists of permutations as texts.
func TestCountsOneByOne(t *testing.T) {
	for g := 0; g <= 2; g++ {
		for n := 1; n <= 3; n++ {
			actions, connected := 0, 0
			for _, text := range allLists(n, max(2, 2*g)) {
				if !walkedAction(g, text) {
					continue
				}
				actions++
				if walkedParts(text) == sheetsOf(text) {
					connected++
				}
			}
			if got := impl.CountActions(g, n); got != actions {
				t.Errorf("CountActions(%d, %d) = %d, want %d", g, n, got, actions)
			}
			if got := impl.CountCovers(g, n); got != connected/factorial(n-1) {
				t.Errorf("CountCovers(%d, %d) = %d, want %d / %d", g, n, got, connected, factorial(n-1))
			}
		}
	}
}

// TestKnownCounts has the numbers that are known: of homomorphisms, and of subgroups of the index n.
func TestKnownCounts(t *testing.T) {
	actions := [3][3]int{{1, 4, 36}, {1, 4, 18}, {1, 16, 486}}
	covers := [3][3]int{{1, 3, 13}, {1, 3, 4}, {1, 15, 220}}
	for g := range 3 {
		for n := 1; n <= 3; n++ {
			if got := impl.CountActions(g, n); got != actions[g][n-1] {
				t.Errorf("CountActions(%d, %d) = %d, want %d", g, n, got, actions[g][n-1])
			}
			if got := impl.CountCovers(g, n); got != covers[g][n-1] {
				t.Errorf("CountCovers(%d, %d) = %d, want %d", g, n, got, covers[g][n-1])
			}
		}
	}
}

// TestCountsOfParts tells the number of actions by that of covers: the sheets of the first one's part are chosen, and the others have an action of their own.
func TestCountsOfParts(t *testing.T) {
	choose := map[[2]int]int{{0, 0}: 1, {1, 0}: 1, {1, 1}: 1, {2, 0}: 1, {2, 1}: 2, {2, 2}: 1}
	for g := range 3 {
		for n := 1; n <= 3; n++ {
			sum := 0
			for k := 1; k <= n; k++ {
				rest := 1
				if k < n {
					rest = impl.CountActions(g, n-k)
				}
				sum += choose[[2]int{n - 1, k - 1}] * impl.CountCovers(g, k) * factorial(k-1) * rest
			}
			if got := impl.CountActions(g, n); got != sum {
				t.Errorf("CountActions(%d, %d) = %d, want %d", g, n, got, sum)
			}
		}
	}
}

func TestNoCounts(t *testing.T) {
	others := slices.Concat(farNumbers, []int{-5, -4, 4, 5, 6, 8, 9, 10, 120})
	for _, far := range slices.Concat(others, []int{3}) {
		for n := -1; n <= 5; n++ {
			if a, c := impl.CountActions(far, n), impl.CountCovers(far, n); a != -1 || c != -1 {
				t.Errorf("CountActions and CountCovers(%d, %d) = %d, %d", far, n, a, c)
			}
		}
	}
	for _, far := range slices.Concat(others, []int{0}) {
		for g := -1; g <= 3; g++ {
			if a, c := impl.CountActions(g, far), impl.CountCovers(g, far); a != -1 || c != -1 {
				t.Errorf("CountActions and CountCovers(%d, %d) = %d, %d", g, far, a, c)
			}
		}
	}
}

// TestOneSheet has a sheet that every letter leads to itself.
func TestOneSheet(t *testing.T) {
	below := []string{"torus minus 1", "torus", "double torus"}
	for count := 1; count <= 8; count++ {
		list := slices.Repeat([][]int{{0}}, count)
		for _, word := range wordsOfLetters(count) {
			if got := impl.ActWord(list, lettersOf(word)); listText(got) != "0" {
				t.Errorf("ActWord of %d, %q = %v", count, word, got)
			}
			if got := impl.LiftLengths(list, lettersOf(word)); listText(got) != "1" {
				t.Errorf("LiftLengths of %d, %q = %v", count, word, got)
			}
		}
		if parts := impl.SheetParts(list); !sameLists(parts, [][]int{{0}}) {
			t.Errorf("SheetParts of %d = %v", count, parts)
		}
		if got := impl.SheetSymmetries(list); got != 1 {
			t.Errorf("SheetSymmetries of %d = %d", count, got)
		}
		for g, name := range below {
			want := "none"
			if count == max(2, 2*g) {
				want = name
			}
			if got := coverNames(impl.CoverOf(g, list)); got != want || impl.IsAction(g, list) != (want != "none") {
				t.Errorf("CoverOf(%d) of %d = %s, want %s", g, count, got, want)
			}
		}
	}
	for g := range 3 {
		if a, c := impl.CountActions(g, 1), impl.CountCovers(g, 1); a != 1 || c != 1 {
			t.Errorf("CountActions and CountCovers(%d, 1) = %d, %d", g, a, c)
		}
	}
}

// TestIdentities has up to MaxSheets sheets that stay where they are.
func TestIdentities(t *testing.T) {
	for n := 1; n <= 5; n++ {
		for count := 1; count <= 8; count++ {
			list := slices.Repeat([][]int{identityMap(n)}, count)
			for _, word := range wordsOfLetters(count) {
				if got := impl.ActWord(list, lettersOf(word)); !slices.Equal(got, identityMap(n)) {
					t.Errorf("ActWord of %d identities, %q = %v", count, word, got)
				}
				if got := impl.LiftLengths(list, lettersOf(word)); !slices.Equal(got, slices.Repeat([]int{1}, n)) {
					t.Errorf("LiftLengths of %d identities, %q = %v", count, word, got)
				}
			}
			parts := impl.SheetParts(list)
			if len(parts) != n || !slices.Equal(slices.Concat(parts...), identityMap(n)) {
				t.Errorf("SheetParts of %d identities = %v", count, parts)
			}
			if got := impl.SheetSymmetries(list); got != factorial(n) {
				t.Errorf("SheetSymmetries of %d identities of %d = %d", count, n, got)
			}
		}
	}
}

// otherPermutations are lists that are no permutations of n sheets; some of them are permutations of fewer or of more.
func otherPermutations(n int) [][]int {
	lists := [][]int{nil, {}, identityMap(n + 1), append(identityMap(n), 0), append(identityMap(n), -1), identityMap(6), {5, 4, 3, 2, 1, 0}, identityMap(24)}
	for less := 1; less < n; less++ {
		lists = append(lists, identityMap(less), stirredMap(less, n))
	}
	for i := range n {
		for _, x := range slices.Concat(farNumbers, []int{n, n + 1, 5, 6, -n, -4, 9, '0', math.MinInt64 + 5}) {
			if x >= 0 && x < n {
				continue
			}
			changed := identityMap(n)
			changed[i] = x
			lists = append(lists, changed)
		}
		for j := range n {
			if i != j {
				twice := stirredMap(n, i)
				twice[i] = twice[j]
				lists = append(lists, twice)
			}
		}
	}
	return append(lists, slices.Repeat([]int{n}, n), slices.Repeat([]int{-1}, n))
}

// noSheetLists are lists that are empty or too long, or whose elements are not all permutations of the same sheets.
func noSheetLists() [][][]int {
	lists := [][][]int{nil, {}, {nil}, {{}}, {{}, {}}, {nil, nil}, {nil, nil, nil, nil}, {{}, {}, {}, {}, {}, {}, {}, {}}}
	for n := 1; n <= 5; n++ {
		for _, count := range []int{9, 10, 16, 100, 1000} {
			lists = append(lists, slices.Repeat([][]int{identityMap(n)}, count), slices.Repeat([][]int{stirredMap(n, count)}, count))
		}
		for _, count := range []int{1, 2, 3, 4, 8} {
			for _, bad := range otherPermutations(n) {
				for at := range count {
					list := slices.Repeat([][]int{identityMap(n)}, count)
					list[at] = bad
					// Alone, it may be a permutation of another number of sheets.
					if count > 1 || !isOrder(bad) {
						lists = append(lists, list)
					}
				}
			}
		}
	}
	for _, n := range []int{6, 7, 8, 24, 1000} {
		for _, count := range []int{1, 2, 4, 8} {
			lists = append(lists, slices.Repeat([][]int{identityMap(n)}, count), slices.Repeat([][]int{stirredMap(n, 3)}, count))
		}
	}
	for n := 1; n <= 5; n++ {
		for _, bad := range otherPermutations(n) {
			if !isOrder(bad) {
				lists = append(lists, [][]int{bad, bad}, [][]int{bad, bad, bad, bad})
			}
		}
	}
	return lists
}

// isOrder reports whether a list has 1 to MaxSheets numbers, which are those from 0 on in some order.
func isOrder(list []int) bool {
	sorted := slices.Clone(list)
	slices.Sort(sorted)
	return slices.Equal(sorted, identityMap(len(list))) && len(list) >= 1 && len(list) <= 5
}

func TestNoSheetLists(t *testing.T) {
	words := [][]int{nil, {}, {1}, {-1}, {1, 2, -1, -2}, {8}, {9}, {0}}
	for _, list := range noSheetLists() {
		for _, w := range words {
			if images, lengths := impl.ActWord(list, w), impl.LiftLengths(list, w); len(images) != 0 || len(lengths) != 0 {
				t.Fatalf("ActWord and LiftLengths of %v and %v = %v, %v", list, w, images, lengths)
			}
		}
		if parts := impl.SheetParts(list); len(parts) != 0 {
			t.Fatalf("SheetParts(%v) = %v", list, parts)
		}
		if n := impl.SheetSymmetries(list); n != -1 {
			t.Fatalf("SheetSymmetries(%v) = %d", list, n)
		}
		for g := -1; g <= 3; g++ {
			if covers, ok := impl.CoverOf(g, list); impl.IsAction(g, list) || ok || len(covers) != 0 {
				t.Fatalf("IsAction(%d, %v) = true or CoverOf = %v, %v", g, list, covers, ok)
			}
		}
	}
}

// TestNoWordOfSheets has words with letters beyond the list, and lists that are no words.
func TestNoWordOfSheets(t *testing.T) {
	for _, n := range []int{1, 2, 3, 5} {
		for count := 1; count <= 8; count++ {
			list := actionOf(stirredList(n, count, 1))
			words := noWords()
			for x := count + 1; x <= 9; x++ {
				words = append(words, []int{x}, []int{-x}, []int{1, x}, []int{x, -x}, []int{-x, x}, []int{x, 1, -x}, slices.Repeat([]int{x}, 24), append(slices.Repeat([]int{1}, 23), -x))
			}
			words = append(words, slices.Repeat([]int{count}, 25), slices.Repeat([]int{-count, count}, 13), slices.Repeat([]int{-1}, 100))
			for _, w := range words {
				if images, lengths := impl.ActWord(list, w), impl.LiftLengths(list, w); len(images) != 0 || len(lengths) != 0 {
					t.Errorf("ActWord and LiftLengths of %v and %v = %v, %v", list, w, images, lengths)
				}
			}
			for _, w := range [][]int{{count}, {-count}, slices.Repeat([]int{count}, 24), slices.Repeat([]int{-count, count}, 12)} {
				if images, lengths := impl.ActWord(list, w), impl.LiftLengths(list, w); len(images) != n || len(lengths) == 0 {
					t.Errorf("ActWord and LiftLengths of %v and %v = %v, %v", list, w, images, lengths)
				}
			}
		}
	}
}

func TestNoActionGroup(t *testing.T) {
	texts := []string{"0", "0 0", "0 0 0", "0 0 0 0", "0 0 0 0 0 0", "0 0 0 0 0 0 0 0", "10 01", "120 102", "10 01 01 01", "01234 01234", "12340 12340 12340 12340", "10 10 10 10 10 10"}
	for _, g := range slices.Concat(farNumbers, []int{-4, 3, 4, 5, 6, 8}) {
		for _, text := range texts {
			covers, ok := impl.CoverOf(g, actionOf(text))
			if impl.IsAction(g, actionOf(text)) || ok || len(covers) != 0 {
				t.Errorf("IsAction(%d, %s) = true or CoverOf = %v, %v", g, text, covers, ok)
			}
		}
	}
}

// surfaceLists writes surfaces as lists of their numbers.
func surfaceLists(covers []impl.Surface, ok bool) [][]int {
	var lists [][]int
	for _, s := range covers {
		lists = append(lists, []int{s.Handles, s.Crosscaps, s.Borders})
	}
	if ok {
		lists = append(lists, []int{77})
	}
	return lists
}

// coverCalls are all functions of the chapter that take a list, and what they return as lists.
func coverCalls() map[string]func(list [][]int, w []int) [][]int {
	calls := map[string]func(list [][]int, w []int) [][]int{
		"ActWord":         func(list [][]int, w []int) [][]int { return [][]int{impl.ActWord(list, w)} },
		"LiftLengths":     func(list [][]int, w []int) [][]int { return [][]int{impl.LiftLengths(list, w)} },
		"SheetParts":      func(list [][]int, w []int) [][]int { return impl.SheetParts(list) },
		"SheetSymmetries": func(list [][]int, w []int) [][]int { return [][]int{{impl.SheetSymmetries(list)}} },
	}
	for g := -1; g <= 3; g++ {
		calls["CoverOf "+decimal(g)] = func(list [][]int, w []int) [][]int { return surfaceLists(impl.CoverOf(g, list)) }
		calls["IsAction "+decimal(g)] = func(list [][]int, w []int) [][]int {
			return surfaceLists(nil, impl.IsAction(g, list))
		}
	}
	return calls
}

// stayingLists are actions and others, and lists that are no permutations.
func stayingLists() [][][]int {
	lists := [][][]int{nil, {{}}, {{0, 0}}, {{1, 0}, {0}}, {{0, 1}, {0, 2}}, slices.Repeat([][]int{{1, 0}}, 9), {identityMap(6), identityMap(6)}, {{2, 1}, {1, 2}, {0, 1}, {0, 1}}}
	for _, c := range actionCases {
		lists = append(lists, actionOf(c.text))
	}
	for _, c := range actCases {
		lists = append(lists, actionOf(c.text))
	}
	return lists
}

// TestCoverArgumentsStay calls every function, changes every result, and looks at the arguments with their unused capacity: the word stands there behind the list.
func TestCoverArgumentsStay(t *testing.T) {
	for _, first := range stayingLists() {
		for _, word := range []string{"", "a", "A", "ab", "abAB", "abABcdCD", "abABabABabABabABabABabAB", "abABabABabABabABabABabABa"} {
			whole, stays := roomyGraph(append(slices.Clone(first), lettersOf(word)))
			list, w := whole[:len(first)], whole[len(first)]
			for name, call := range coverCalls() {
				got := call(list, w)
				text := listsText(got)
				spoil(got)
				if !stays() {
					t.Fatalf("%s changed %v or %q to %v", name, first, word, whole)
				}
				if again := listsText(call(list, w)); again != text {
					t.Errorf("%s of %v and %q = %s after a change of its last result, want %s", name, first, word, again, text)
				}
			}
		}
	}
}

// TestCoverResultsAreNew changes one result, or one part of it, and looks at another result and at the other parts.
func TestCoverResultsAreNew(t *testing.T) {
	for _, c := range actionCases {
		list := actionOf(c.text)
		for name, call := range coverCalls() {
			want := listsText(call(list, []int{1, 2}))
			other := call(list, []int{1, 2})
			spoil(call(list, []int{1, 2}))
			if listsText(other) != want || listsText(call(list, []int{1, 2})) != want {
				t.Errorf("%s of %s = %v after a change of another result, want %s", name, c.text, other, want)
			}
			for i := range other {
				result := call(list, []int{1, 2})
				kept := slices.Clone(result[i])
				spoil([][]int{result[i]})
				result[i] = kept
				if listsText(result) != want {
					t.Errorf("%s of %s: with part %d, others changed to %v", name, c.text, i, result)
				}
			}
		}
		first, _ := impl.CoverOf(c.g, list)
		second, ok := impl.CoverOf(c.g, list)
		first = first[:cap(first)]
		for i := range first {
			first[i] = surfaceNumbers(9, 9, 9)
		}
		if got := coverNames(second, ok); got != c.covers {
			t.Errorf("CoverOf(%d, %s) = %s after a change of another result", c.g, c.text, got)
		}
	}
}

// TestSharedPermutations has one list in the place of each letter, and lists that overlap in memory.
func TestSharedPermutations(t *testing.T) {
	images := []int{1, 2, 3, 4, 0}
	list := [][]int{images, images, images, images}
	if got := digitsOf(impl.ActWord(list, []int{1, 2, -3, 4})); got != "23401" {
		t.Errorf("ActWord of one list in four places = %s", got)
	}
	if got := coverNames(impl.CoverOf(2, list)); got != "6 handles" {
		t.Errorf("CoverOf of one list in four places = %s", got)
	}
	if impl.SheetSymmetries(list) != 5 || digitTexts(impl.SheetParts(list)) != "01234" {
		t.Errorf("SheetSymmetries and SheetParts of one list in four places are wrong")
	}
	long := []int{1, 0, 1, 0, 1}
	overlapping := [][]int{long[:2], long[1:3], long[2:4], long[3:]}
	if got := coverNames(impl.CoverOf(2, overlapping)); got != "3 handles" {
		t.Errorf("CoverOf of lists that overlap = %s", got)
	}
	if !slices.Equal(images, []int{1, 2, 3, 4, 0}) || !slices.Equal(long, []int{1, 0, 1, 0, 1}) {
		t.Errorf("the lists are changed to %v and %v", images, long)
	}
}
