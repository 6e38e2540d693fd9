package tests

import (
	"slices"
	"strings"
	"testing"

	"loop.example/g03105/impl"
)

// Passports are written as digits, as actions are: "120 102 021" has three permutations. The functions below follow every sheet through such texts, apart from the program's lists.

// wordOfAll has the letters of all permutations, one after the other.
func wordOfAll(text string) string { return lettersInOrder[:len(strings.Fields(text))] }

func walkedPassport(text string) bool {
	return len(strings.Fields(text)) <= 5 && walkedWord(text, wordOfAll(text)) == sheetsOf(text)
}

// closedText adds the permutation that leads every sheet back from where the others lead it.
func closedText(text string) string {
	closing := make([]byte, len(sheetsOf(text)))
	for _, sheet := range []byte(sheetsOf(text)) {
		closing[sheetAfter(text, sheet, wordOfAll(text))-'0'] = sheet
	}
	return text + " " + string(closing)
}

// braidedText walks along the letter of index k, the next one and back along the first one.
func braidedText(text string, k int) string {
	parts := strings.Fields(text)
	here, next := lettersInOrder[k:k+1], lettersInOrder[k+1:k+2]
	around := walkedWord(text, here+next+strings.ToUpper(here))
	return strings.Join(slices.Concat(parts[:k], []string{around, parts[k]}, parts[k+2:]), " ")
}

func walkedTypes(text string) [][]int {
	var types [][]int
	for _, r := range wordOfAll(text) {
		types = append(types, walkedLengths(text, string(r), sheetsOf(text)))
	}
	return types
}

// walkedSum counts, for each permutation, the sheets that are not the first ones of their cycles.
func walkedSum(text string) int {
	sum := 0
	for _, lengths := range walkedTypes(text) {
		for _, length := range lengths {
			sum += length - 1
		}
	}
	return sum
}

// walkedCover counts the handles up to the Euler number.
func walkedCover(text string) string {
	if walkedParts(text) != sheetsOf(text) {
		return "none"
	}
	handles := 0
	for 2-2*handles > 2*len(sheetsOf(text))-walkedSum(text) {
		handles++
	}
	return impl.SurfaceName(surfaceNumbers(handles, 0, 0))
}

func nameOrNone(s impl.Surface, ok bool) string {
	if !ok && s == (impl.Surface{}) {
		return "none"
	}
	if !ok {
		return "none, but not zero"
	}
	return impl.SurfaceName(s)
}

func listsOrNone(lists [][]int, ok bool) string {
	if !ok && len(lists) == 0 {
		return "none"
	}
	if !ok {
		return "none, but not nil"
	}
	return digitTexts(lists)
}

// openLists have from 1 to 4 permutations: all of them for few sheets, and others. Few of them are passports.
func openLists() []string {
	texts := slices.Concat(allLists(3, 3), allLists(4, 2), allLists(5, 1), allLists(4, 1))
	for count := 1; count <= 4; count++ {
		texts = append(texts, allLists(1, count)...)
		texts = append(texts, allLists(2, count)...)
	}
	texts = append(texts, allLists(3, 1)...)
	texts = append(texts, allLists(3, 2)...)
	for n := 3; n <= 5; n++ {
		for count := 1; count <= 4; count++ {
			for k := range 40 {
				few := stirredList(1+k%n, count, k)
				stay := "01234"[1+k%n : n]
				texts = append(texts, stirredList(n, count, k), strings.ReplaceAll(few+" ", " ", stay+" ")[:count*(n+1)-1])
			}
		}
	}
	return texts
}

// manyPassports have from 1 to 5 permutations.
func manyPassports() []string {
	texts := []string{"0", "01", "012", "0123", "01234"}
	for _, text := range openLists() {
		texts = append(texts, closedText(text))
	}
	for _, c := range passportCases {
		texts = append(texts, c.text)
	}
	return texts
}

// passportCases are written out by hand, and counted apart from the program.
var passportCases = []struct {
	name  string
	text  string
	sum   int
	types string
	parts string
	cover string
}{
	{"one permutation", "0", 0, "1", "0", "sphere"},
	{"one permutation of two sheets", "01", 0, "1,1", "0 1", "none"},
	{"one permutation of five sheets", "01234", 0, "1,1,1,1,1", "0 1 2 3 4", "none"},
	{"one sheet", "0 0", 0, "1 1", "0", "sphere"},
	{"one sheet, five permutations", "0 0 0 0 0", 0, "1 1 1 1 1", "0", "sphere"},
	{"identities", "012 012", 0, "1,1,1 1,1,1", "0 1 2", "none"},
	{"five identities of five sheets", "01234 01234 01234 01234 01234", 0, "1,1,1,1,1 1,1,1,1,1 1,1,1,1,1 1,1,1,1,1 1,1,1,1,1", "0 1 2 3 4", "none"},
	{"two sheets, two branch points", "10 10", 2, "2 2", "01", "sphere"},
	{"two sheets, an identity first", "01 10 10", 2, "1,1 2 2", "01", "sphere"},
	{"two sheets, an identity between", "10 01 10", 2, "2 1,1 2", "01", "sphere"},
	{"two sheets, four branch points", "10 10 10 10", 4, "2 2 2 2", "01", "torus"},
	{"two sheets, four of five points", "10 01 10 10 10", 4, "2 1,1 2 2 2", "01", "torus"},
	{"two sheets, the last is an identity", "10 10 10 10 01", 4, "2 2 2 2 1,1", "01", "torus"},
	{"each the inverse of the other", "120 201", 4, "3 3", "012", "sphere"},
	{"an identity between inverses", "120 012 201", 4, "3 1,1,1 3", "012", "sphere"},
	{"three sheets around, thrice", "120 120 120", 6, "3 3 3", "012", "torus"},
	{"three sheets", "120 102 021", 4, "3 1,2 1,2", "012", "sphere"},
	{"three sheets in another order", "102 120 210", 4, "1,2 3 1,2", "012", "sphere"},
	{"four exchanges", "102 102 021 021", 4, "1,2 1,2 1,2 1,2", "012", "sphere"},
	{"four exchanges and a circle", "102 021 102 021 201", 6, "1,2 1,2 1,2 1,2 3", "012", "torus"},
	{"a sheet beside two", "102 102", 2, "1,2 1,2", "01 2", "none"},
	{"a sheet between two", "210 210", 2, "1,2 1,2", "02 1", "none"},
	{"a square", "1032 2301 3210", 6, "2,2 2,2 2,2", "0123", "sphere"},
	{"a square, four times", "2301 1032 2301 1032", 8, "2,2 2,2 2,2 2,2", "0123", "torus"},
	{"four sheets around and back", "1230 3012", 6, "4 4", "0123", "sphere"},
	{"four sheets around", "1230 1230 2301", 8, "4 4 2,2", "0123", "torus"},
	{"four sheets, three moved", "1203 0231 2301", 6, "1,3 1,3 2,2", "0123", "sphere"},
	{"four sheets, three moved, four times", "1203 0231 1203 0231", 8, "1,3 1,3 1,3 1,3", "0123", "torus"},
	{"two sheets of four", "0132 0132", 2, "1,1,2 1,1,2", "0 1 23", "none"},
	{"two pairs that are mixed", "0321 2103 2301", 4, "1,1,2 1,1,2 2,2", "02 13", "none"},
	{"five sheets around and back", "12340 40123", 8, "5 5", "01234", "sphere"},
	{"five sheets around", "12340 12340 34012", 12, "5 5 5", "01234", "double torus"},
	{"five sheets around, five times", "12340 12340 12340 12340 12340", 20, "5 5 5 5 5", "01234", "6 handles"},
	{"five sheets by neighbours", "10234 02134 01324 01243 12340", 8, "1,1,1,2 1,1,1,2 1,1,1,2 1,1,1,2 5", "01234", "sphere"},
	{"five sheets, one stays", "12340 10234 04123", 8, "5 1,1,1,2 1,4", "01234", "sphere"},
	{"five sheets, two and three", "12340 20143 01432", 8, "5 2,3 1,1,1,2", "01234", "sphere"},
	{"five sheets around in other ways", "12340 13042 14302", 12, "5 5 5", "01234", "double torus"},
	{"five sheets, all kinds", "10342 12340 43210 02341 23401", 16, "2,3 5 1,2,2 1,4 5", "01234", "4 handles"},
	{"five sheets with an identity", "12340 43210 12340 01234 43210", 12, "5 1,2,2 5 1,1,1,1,1 1,2,2", "01234", "double torus"},
	{"two and three sheets", "10342 10423", 6, "2,3 2,3", "01 234", "none"},
	{"three and two sheets", "12034 01243 20143", 6, "1,1,3 1,1,1,2 2,3", "012 34", "none"},
	{"two pairs and one", "10234 01324 10324", 4, "1,1,1,2 1,1,1,2 1,2,2", "01 23 4", "none"},
	{"two pairs and one, four times", "10234 10234 01243 01243 01234", 4, "1,1,1,2 1,1,1,2 1,1,1,2 1,1,1,2 1,1,1,1,1", "01 2 34", "none"},
}

func TestPassportCases(t *testing.T) {
	for _, c := range passportCases {
		list := actionOf(c.text)
		if !impl.IsPassport(list) {
			t.Errorf("%s: IsPassport(%s) = false", c.name, c.text)
		}
		if got := impl.BranchSum(list); got != c.sum {
			t.Errorf("%s: BranchSum(%s) = %d, want %d", c.name, c.text, got, c.sum)
		}
		if got := listsText(impl.CycleTypes(list)); got != c.types {
			t.Errorf("%s: CycleTypes(%s) = %s, want %s", c.name, c.text, got, c.types)
		}
		if got := digitTexts(impl.SheetParts(list)); got != c.parts {
			t.Errorf("%s: SheetParts(%s) = %s, want %s", c.name, c.text, got, c.parts)
		}
		if got := nameOrNone(impl.BranchCover(list)); got != c.cover {
			t.Errorf("%s: BranchCover(%s) = %s, want %s", c.name, c.text, got, c.cover)
		}
	}
}

// checkNoPassport expects what IsPassport, BranchSum, BranchCover, CycleTypes and BraidPassport return for any other list.
func checkNoPassport(t *testing.T, list [][]int) {
	t.Helper()
	if impl.IsPassport(list) {
		t.Fatalf("IsPassport(%v) = true", list)
	}
	if got := impl.BranchSum(list); got != -1 {
		t.Fatalf("BranchSum(%v) = %d", list, got)
	}
	if s, ok := impl.BranchCover(list); ok || s != (impl.Surface{}) {
		t.Fatalf("BranchCover(%v) = %v, %v", list, s, ok)
	}
	if types := impl.CycleTypes(list); len(types) != 0 {
		t.Fatalf("CycleTypes(%v) = %v", list, types)
	}
	for k := -2; k <= 8; k++ {
		if got := listsOrNone(impl.BraidPassport(list, k)); got != "none" {
			t.Fatalf("BraidPassport(%v, %d) = %s", list, k, got)
		}
	}
}

// TestNoPassportCases has permutations that lead some sheets to others, and passports that are too long.
func TestNoPassportCases(t *testing.T) {
	texts := []string{
		// One permutation that is not the identity.
		"10", "120", "021", "0132", "12340", "10324", "01243",
		"10 01", "01 10", "120 120", "120 102", "120 021", "1230 1230", "12340 12340", "10342 10342",
		"10 10 10", "120 201 120", "102 021 102", "12340 40123 01243",
		// These act as the identity without the first or without the last one.
		"102 120 201", "120 201 102", "10 10 10 10 10", "12340 12340 12340 12340", "10234 01234 01234 01234 01234", "01234 01234 01234 01234 01243",
		// One sheet alone is led back, or all but two are.
		"120 102", "1203 1203", "02341 02341", "01324 01324 01324",
		"0 0 0 0 0 0", "0 0 0 0 0 0 0", "0 0 0 0 0 0 0 0", "01 01 01 01 01 01", "10 10 10 10 10 10", "10 10 10 10 10 10 10 10", "120 120 120 120 120 120", "01234 01234 01234 01234 01234 01234",
		"120 102 021 120 102 021", "12340 12340 12340 12340 12340 01234",
	}
	for _, text := range texts {
		checkNoPassport(t, actionOf(text))
	}
}

// TestFromTheLeftToTheRight has lists that act as the identity from the right to the left only.
func TestFromTheLeftToTheRight(t *testing.T) {
	for _, text := range []string{"021 102 120", "210 120 102", "201 021 102 021 102", "04123 10234 12340", "01432 20143 12340", "12340 01243 01324 02134 10234", "23401 02341 43210 12340 10342"} {
		list := actionOf(text)
		checkNoPassport(t, list)
		slices.Reverse(list)
		if !impl.IsPassport(list) {
			t.Errorf("IsPassport(%v) = false", list)
		}
	}
}

// TestPassportsByWalking goes through lists of 1 to 5 permutations, of which some are passports.
func TestPassportsByWalking(t *testing.T) {
	counts := map[bool][6]int{}
	for _, text := range slices.Concat(openLists(), manyPassports(), allLists(2, 5), allLists(3, 4)) {
		want := walkedPassport(text)
		count := counts[want]
		count[len(strings.Fields(text))]++
		counts[want] = count
		if !want {
			checkNoPassport(t, actionOf(text))
		} else if !impl.IsPassport(actionOf(text)) {
			t.Fatalf("IsPassport(%s) = false", text)
		}
	}
	for count := 1; count <= 5; count++ {
		if counts[true][count] < 5 || counts[false][count] < 5 {
			t.Errorf("%d passports of %d permutations, %d others", counts[true][count], count, counts[false][count])
		}
	}
}

// TestLastSheetsChanged exchanges two sheets in one permutation of a passport, which is none then.
func TestLastSheetsChanged(t *testing.T) {
	for _, c := range passportCases {
		n := len(sheetsOf(c.text))
		for at := range actionOf(c.text) {
			for i := range n {
				for j := range i {
					list := actionOf(c.text)
					list[at][i], list[at][j] = list[at][j], list[at][i]
					checkNoPassport(t, list)
				}
			}
		}
	}
}

func TestBranchesByWalking(t *testing.T) {
	covers := map[string]int{}
	for _, text := range manyPassports() {
		list := actionOf(text)
		if got, want := impl.BranchSum(list), walkedSum(text); got != want {
			t.Fatalf("BranchSum(%s) = %d, want %d", text, got, want)
		}
		types := impl.CycleTypes(list)
		if !sameLists(types, walkedTypes(text)) {
			t.Fatalf("CycleTypes(%s) = %v, want %v", text, types, walkedTypes(text))
		}
		for _, lengths := range types {
			sum := 0
			for _, length := range lengths {
				sum += length
			}
			if sum != len(sheetsOf(text)) || !slices.IsSorted(lengths) {
				t.Fatalf("CycleTypes(%s) = %v", text, types)
			}
		}
		cover, ok := impl.BranchCover(list)
		if got, want := nameOrNone(cover, ok), walkedCover(text); got != want {
			t.Fatalf("BranchCover(%s) = %s, want %s", text, got, want)
		}
		if ok && (cover.Crosscaps != 0 || cover.Borders != 0 || impl.EulerNumber(cover) != 2*len(list[0])-impl.BranchSum(list)) {
			t.Fatalf("BranchCover(%s) = %v with the sum %d", text, cover, impl.BranchSum(list))
		}
		covers[walkedCover(text)]++
	}
	for _, name := range []string{"none", "sphere", "torus", "double torus", "3 handles", "4 handles", "6 handles"} {
		if covers[name] == 0 {
			t.Errorf("no passport with the cover %s", name)
		}
	}
}

// TestEachPartAlone numbers the sheets of each part anew: then it has a cover, and the sums and the types of all parts together are those of the passport.
func TestEachPartAlone(t *testing.T) {
	several := 0
	for _, text := range manyPassports() {
		parts := strings.Fields(walkedParts(text))
		sum := 0
		types := make([][]int, len(strings.Fields(text)))
		for _, part := range parts {
			alone := actionOf(partAction(text, part))
			if _, ok := impl.BranchCover(alone); !ok {
				t.Fatalf("BranchCover(%v) fails, a part of %s", alone, text)
			}
			sum += impl.BranchSum(alone)
			for i, lengths := range impl.CycleTypes(alone) {
				types[i] = append(types[i], lengths...)
			}
		}
		for _, lengths := range types {
			slices.Sort(lengths)
		}
		if got := impl.BranchSum(actionOf(text)); got != sum {
			t.Fatalf("BranchSum(%s) = %d, want %d", text, got, sum)
		}
		if got := impl.CycleTypes(actionOf(text)); !sameLists(got, types) {
			t.Fatalf("CycleTypes(%s) = %v, want %v", text, got, types)
		}
		if len(parts) > 1 {
			several++
			if got := nameOrNone(impl.BranchCover(actionOf(text))); got != "none" {
				t.Fatalf("BranchCover(%s) = %s of %d parts", text, got, len(parts))
			}
		}
	}
	if several < 300 {
		t.Errorf("%d passports in several parts", several)
	}
}

// starMap draws a star for each sheet, with a ray for each permutation; around the tips of a ray, the sheets follow as the permutation leads them. Each sheet of a passport is seen by one face.
func starMap(text string) []int {
	parts := strings.Fields(text)
	n, rays := len(sheetsOf(text)), len(parts)
	m := make([]int, 2*n*rays)
	for sheet := range n {
		for ray := range rays {
			m[2*(sheet*rays+ray)] = 2 * (sheet*rays + (ray+1)%rays)
			m[2*(sheet*rays+ray)+1] = 2*(int(parts[ray][sheet]-'0')*rays+ray) + 1
		}
	}
	return m
}

// TestPassportsAsMaps draws lists that have no more than MaxDarts darts: faces of twice as many darts as there are permutations are those of a passport, and its cover has the handles of the drawing.
func TestPassportsAsMaps(t *testing.T) {
	drawn := map[bool]int{}
	for _, text := range slices.Concat(openLists(), manyPassports(), allLists(2, 5), allLists(3, 4)) {
		list := actionOf(text)
		m := starMap(text)
		if len(m) > impl.MaxDarts {
			continue
		}
		faces := impl.FacesOf(m)
		closed := !slices.ContainsFunc(faces, func(face []int) bool { return len(face) != 2*len(list) })
		drawn[closed]++
		if got := impl.IsPassport(list); got != closed {
			t.Fatalf("IsPassport(%s) = %v, but the faces are %v", text, got, faces)
		}
		want := "none"
		if closed && impl.MapParts(m) == 1 {
			want = impl.SurfaceName(surfaceNumbers(impl.GenusOf(m), 0, 0))
		}
		if got := nameOrNone(impl.BranchCover(list)); got != want {
			t.Fatalf("BranchCover(%s) = %s, but the drawing is %s", text, got, want)
		}
	}
	if drawn[true] < 500 || drawn[false] < 500 {
		t.Errorf("%d passports are drawn, %d others", drawn[true], drawn[false])
	}
}

// TestPassportsNumberedAnew numbers the sheets in another way, which changes nothing that is counted.
func TestPassportsNumberedAnew(t *testing.T) {
	for _, c := range passportCases {
		for k := range 10 {
			text := renumbered(c.text, stirredMap(len(sheetsOf(c.text)), k))
			list := actionOf(text)
			cover := nameOrNone(impl.BranchCover(list))
			if types := listsText(impl.CycleTypes(list)); !impl.IsPassport(list) || impl.BranchSum(list) != c.sum || types != c.types || cover != c.cover {
				t.Errorf("%s: %s has the sum %d, the types %s and the cover %s", c.name, text, impl.BranchSum(list), types, cover)
			}
		}
	}
}

func TestCloseUpCases(t *testing.T) {
	cases := []struct{ text, want string }{
		{"0", "0 0"},
		{"0 0 0 0", "0 0 0 0 0"},
		{"01", "01 01"},
		{"10", "10 10"},
		{"10 10", "10 10 01"},
		{"10 01", "10 01 10"},
		{"10 10 10", "10 10 10 10"},
		{"10 10 10 10", "10 10 10 10 01"},
		{"10 01 01 01", "10 01 01 01 10"},
		{"120", "120 201"},
		{"201", "201 120"},
		{"120 102", "120 102 021"},
		{"102 120", "102 120 210"},
		{"120 201", "120 201 012"},
		{"120 120", "120 120 120"},
		{"120 102 021", "120 102 021 012"},
		{"1230", "1230 3012"},
		{"1203 0231", "1203 0231 2301"},
		{"1032 2301", "1032 2301 3210"},
		{"12340", "12340 40123"},
		{"10342", "10342 10423"},
		{"12340 13042", "12340 13042 14302"},
		{"12340 12340", "12340 12340 34012"},
		{"10234 02134 01324 01243", "10234 02134 01324 01243 12340"},
		{"01243 01324 02134 10234", "01243 01324 02134 10234 40123"},
		{"10342 12340 43210 02341", "10342 12340 43210 02341 23401"},
		{"12340 12340 12340 12340", "12340 12340 12340 12340 12340"},
		{"01234 01234 01234 01234", "01234 01234 01234 01234 01234"},
		// With five permutations, there is no place for one more, whether they are a passport or not.
		{"0 0 0 0 0", "none"},
		{"01 01 01 01 01", "none"},
		{"10 10 10 10 10", "none"},
		{"10 10 10 10 01", "none"},
		{"102 021 102 021 201", "none"},
		{"12340 12340 12340 12340 12340", "none"},
		{"12340 12340 12340 12340 01234", "none"},
		{"01234 01234 01234 01234 01234", "none"},
		{"10 10 10 10 10 10", "none"},
		{"0 0 0 0 0 0 0", "none"},
		{"120 120 120 120 120 120 120", "none"},
		{"01 01 01 01 01 01 01 01", "none"},
	}
	for _, c := range cases {
		if got := listsOrNone(impl.CloseUp(actionOf(c.text))); got != c.want {
			t.Errorf("CloseUp(%s) = %s, want %s", c.text, got, c.want)
		}
	}
}

// TestCloseUpByWalking expects a passport that begins with the list.
func TestCloseUpByWalking(t *testing.T) {
	for _, text := range slices.Concat(openLists(), manyPassports(), allLists(3, 4)) {
		list := actionOf(text)
		want := "none"
		if len(list) < 5 {
			want = closedText(text)
		}
		closed, ok := impl.CloseUp(list)
		if got := listsOrNone(closed, ok); got != want {
			t.Fatalf("CloseUp(%s) = %s, want %s", text, got, want)
		}
		if !ok {
			continue
		}
		if !impl.IsPassport(closed) || len(closed) != len(list)+1 || !sameLists(closed[:len(list)], list) {
			t.Fatalf("CloseUp(%s) = %v", text, closed)
		}
		// What closes up a passport moves no sheet.
		last := closed[len(list)]
		if slices.Equal(last, identityMap(len(last))) != impl.IsPassport(list) {
			t.Fatalf("CloseUp(%s) ends with %v", text, last)
		}
		if !sameLists(impl.SheetParts(closed), impl.SheetParts(list)) {
			t.Fatalf("CloseUp(%s) = %v has other parts", text, closed)
		}
	}
}

// TestCloseUpAgain expects that a list without its last permutation is closed up by it.
func TestCloseUpAgain(t *testing.T) {
	for _, text := range manyPassports() {
		list := actionOf(text)
		if len(list) == 1 {
			continue
		}
		closed, ok := impl.CloseUp(list[:len(list)-1])
		if !ok || !sameLists(closed, list) {
			t.Fatalf("CloseUp of %s without its last permutation = %v, %v", text, closed, ok)
		}
		if len(list) <= 3 {
			once, one := impl.CloseUp(list)
			twice, two := impl.CloseUp(once)
			if !one || !two || impl.BranchSum(twice) != impl.BranchSum(list) {
				t.Fatalf("CloseUp twice of %s = %v, %v, %v", text, twice, one, two)
			}
		}
	}
}

func TestBraidCases(t *testing.T) {
	cases := []struct {
		text string
		k    int
		want string
	}{
		{"120 102 021", 0, "210 120 021"},
		{"120 102 021", 1, "120 210 102"},
		{"102 120 210", 0, "201 102 210"},
		{"102 120 210", 1, "102 021 120"},
		{"0 0", 0, "0 0"},
		{"0 0 0 0 0", 3, "0 0 0 0 0"},
		{"10 10", 0, "10 10"},
		{"10 01 10", 0, "01 10 10"},
		{"10 01 10", 1, "10 10 01"},
		{"120 201", 0, "201 120"},
		{"12340 40123", 0, "40123 12340"},
		{"10342 10423", 0, "10423 10342"},
		{"120 012 201", 0, "012 120 201"},
		{"120 012 201", 1, "120 201 012"},
		{"102 021 102 021 201", 0, "210 102 102 021 201"},
		{"102 021 102 021 201", 1, "102 210 021 021 201"},
		{"102 021 102 021 201", 2, "102 021 210 102 201"},
		{"102 021 102 021 201", 3, "102 021 102 120 021"},
		{"1203 0231 2301", 0, "1320 1203 2301"},
		{"1203 0231 2301", 1, "1203 1032 0231"},
		{"1203 0231 1203 0231", 2, "1203 0231 1320 1203"},
		{"10234 02134 01324 01243 12340", 0, "21034 10234 01324 01243 12340"},
		{"10234 02134 01324 01243 12340", 1, "10234 03214 02134 01243 12340"},
		{"10234 02134 01324 01243 12340", 2, "10234 02134 01432 01324 12340"},
		{"10234 02134 01324 01243 12340", 3, "10234 02134 01324 12403 01243"},
		{"10342 12340 43210 02341 23401", 0, "40312 10342 43210 02341 23401"},
		{"10342 12340 43210 02341 23401", 1, "10342 21043 12340 02341 23401"},
		{"10342 12340 43210 02341 23401", 2, "10342 12340 30124 43210 23401"},
		{"10342 12340 43210 02341 23401", 3, "10342 12340 43210 13042 02341"},
		{"10324 01342 10432", 0, "01423 10324 10432"},
		{"10324 01342 10432", 1, "10324 10243 01342"},
	}
	for _, c := range cases {
		if got := listsOrNone(impl.BraidPassport(actionOf(c.text), c.k)); got != c.want {
			t.Errorf("BraidPassport(%s, %d) = %s, want %s", c.text, c.k, got, c.want)
		}
	}
}

// TestBraidsByWalking braids at every place, and expects a passport with all that the one before had.
func TestBraidsByWalking(t *testing.T) {
	for _, text := range manyPassports() {
		list := actionOf(text)
		for k := range len(list) - 1 {
			braided, ok := impl.BraidPassport(list, k)
			if got, want := listsOrNone(braided, ok), braidedText(text, k); got != want {
				t.Fatalf("BraidPassport(%s, %d) = %s, want %s", text, k, got, want)
			}
			if !impl.IsPassport(braided) || impl.BranchSum(braided) != impl.BranchSum(list) || !sameLists(impl.SheetParts(braided), impl.SheetParts(list)) {
				t.Fatalf("BraidPassport(%s, %d) = %v with the sum %d", text, k, braided, impl.BranchSum(braided))
			}
			if got, want := nameOrNone(impl.BranchCover(braided)), nameOrNone(impl.BranchCover(list)); got != want {
				t.Fatalf("BraidPassport(%s, %d) = %v with the cover %s, want %s", text, k, braided, got, want)
			}
			// The two branch points change their places.
			types := impl.CycleTypes(list)
			types[k], types[k+1] = types[k+1], types[k]
			if got := impl.CycleTypes(braided); !sameLists(got, types) {
				t.Fatalf("BraidPassport(%s, %d) = %v with the types %v, want %v", text, k, braided, got, types)
			}
		}
	}
}

// TestBraidsBeyond has indices at which no two permutations stand.
func TestBraidsBeyond(t *testing.T) {
	for _, c := range passportCases {
		list := actionOf(c.text)
		last := len(list) - 1
		for _, k := range slices.Concat(farNumbers, []int{last, last + 1, last + 2, 5, 6, 7, 8}) {
			if got := listsOrNone(impl.BraidPassport(list, k)); got != "none" {
				t.Errorf("BraidPassport(%s, %d) = %s", c.text, k, got)
			}
		}
		if _, ok := impl.BraidPassport(list, last-1); ok != (last > 0) {
			t.Errorf("BraidPassport(%s, %d) = %v", c.text, last-1, ok)
		}
		if _, ok := impl.BraidPassport(list, 0); ok != (last > 0) {
			t.Errorf("BraidPassport(%s, 0) = %v", c.text, ok)
		}
	}
}

// braidedBy braids at one place after the other.
func braidedBy(list [][]int, places ...int) [][]int {
	for _, k := range places {
		list, _ = impl.BraidPassport(list, k)
	}
	return list
}

// TestBraidRelations expects what holds for strands that are braided: three neighbours in both ways, places apart in both orders, and the full turn of all strands, which undoes itself.
func TestBraidRelations(t *testing.T) {
	for _, text := range manyPassports() {
		list := actionOf(text)
		var round []int
		for k := range len(list) - 1 {
			round = append(round, k)
			if k+2 < len(list) {
				if one, two := braidedBy(list, k, k+1, k), braidedBy(list, k+1, k, k+1); !sameLists(one, two) {
					t.Fatalf("%s is braided at %d to %v and to %v", text, k, one, two)
				}
			}
			for j := k + 2; j < len(list)-1; j++ {
				if one, two := braidedBy(list, k, j), braidedBy(list, j, k); !sameLists(one, two) {
					t.Fatalf("%s is braided at %d and %d to %v and to %v", text, k, j, one, two)
				}
			}
		}
		if turned := braidedBy(list, slices.Repeat(round, len(list))...); !sameLists(turned, list) {
			t.Fatalf("%s is turned to %v", text, turned)
		}
	}
}

func TestMapPassportCases(t *testing.T) {
	cases := []struct {
		name       string
		vertices   [][]int
		want       string
		types      string
		sum        int
		parts, top string
	}{
		{"one edge", [][]int{{0}, {1}}, "01 10 10", "1,1 2 2", 2, "01", "sphere"},
		{"one loop", [][]int{{0, 1}}, "10 10 01", "2 2 1,1", 2, "01", "sphere"},
		{"two edges apart", [][]int{{0}, {1}, {2}, {3}}, "0123 1032 1032", "1,1,1,1 2,2 2,2", 4, "01 23", "none"},
		{"two loops apart", [][]int{{0, 1}, {2, 3}}, "1032 1032 0123", "2,2 2,2 1,1,1,1", 4, "01 23", "none"},
		{"an edge and a loop apart", [][]int{{0}, {1}, {2, 3}}, "0132 1032 1023", "1,1,2 2,2 1,1,2", 4, "01 23", "none"},
		{"a path", [][]int{{0}, {1, 2}, {3}}, "0213 1032 2031", "1,1,2 2,2 4", 6, "0123", "sphere"},
		{"two edges between two vertices", [][]int{{0, 2}, {1, 3}}, "2301 1032 3210", "2,2 2,2 2,2", 6, "0123", "sphere"},
		{"a loop at an edge", [][]int{{0, 1, 2}, {3}}, "1203 1032 0231", "1,3 2,2 1,3", 6, "0123", "sphere"},
		{"a loop at an edge, to the right", [][]int{{0, 2, 1}, {3}}, "2013 1032 2130", "1,3 2,2 1,3", 6, "0123", "sphere"},
		{"two loops side by side", [][]int{{0, 1, 2, 3}}, "1230 1032 0321", "4 2,2 1,1,2", 6, "0123", "sphere"},
		{"two loops, one in the other", [][]int{{0, 2, 3, 1}}, "2031 1032 3120", "4 2,2 1,1,2", 6, "0123", "sphere"},
		{"two loops that cross", [][]int{{0, 2, 1, 3}}, "2310 1032 2310", "4 2,2 4", 8, "0123", "torus"},
		{"two loops that cross, turned", [][]int{{0, 3, 1, 2}}, "3201 1032 3201", "4 2,2 4", 8, "0123", "torus"},
	}
	for _, c := range cases {
		m := mapOfCycles(c.vertices)
		list, ok := impl.MapPassport(m)
		if got := listsOrNone(list, ok); got != c.want {
			t.Errorf("%s: MapPassport(%v) = %s, want %s", c.name, m, got, c.want)
		}
		if got := listsText(impl.CycleTypes(list)); got != c.types {
			t.Errorf("%s: CycleTypes of MapPassport(%v) = %s, want %s", c.name, m, got, c.types)
		}
		if got := impl.BranchSum(list); got != c.sum {
			t.Errorf("%s: BranchSum of MapPassport(%v) = %d, want %d", c.name, m, got, c.sum)
		}
		if got := digitTexts(impl.SheetParts(list)); got != c.parts {
			t.Errorf("%s: SheetParts of MapPassport(%v) = %s, want %s", c.name, m, got, c.parts)
		}
		if got := nameOrNone(impl.BranchCover(list)); got != c.top {
			t.Errorf("%s: BranchCover of MapPassport(%v) = %s, want %s", c.name, m, got, c.top)
		}
	}
}

// cycleLengths are in ascending order.
func cycleLengths(cycles [][]int) []int {
	var lengths []int
	for _, cycle := range cycles {
		lengths = append(lengths, len(cycle))
	}
	slices.Sort(lengths)
	return lengths
}

// TestMapPassportOfAll goes through all maps of 2 and of 4 darts: the branch points are the vertices, the edges and the faces, and the cover is the surface of the map.
func TestMapPassportOfAll(t *testing.T) {
	for _, m := range slices.Concat(mapsOf(2), mapsOf(4)) {
		list, ok := impl.MapPassport(m)
		if !ok || len(list) != 3 || !slices.Equal(list[0], m) || !impl.IsPassport(list) {
			t.Fatalf("MapPassport(%v) = %v, %v", m, list, ok)
		}
		for d, next := range m {
			if list[1][d] != mateBy(d) || list[2][mateBy(next)] != d {
				t.Fatalf("MapPassport(%v) = %v", m, list)
			}
		}
		want := [][]int{cycleLengths(impl.CyclesOf(m)), slices.Repeat([]int{2}, len(m)/2), cycleLengths(impl.FacesOf(m))}
		if got := impl.CycleTypes(list); !sameLists(got, want) {
			t.Errorf("CycleTypes of MapPassport(%v) = %v, want %v", m, got, want)
		}
		if got := len(impl.SheetParts(list)); got != impl.MapParts(m) {
			t.Errorf("MapPassport(%v) has %d parts", m, got)
		}
		cover := "none"
		if impl.MapParts(m) == 1 {
			cover = impl.SurfaceName(surfaceNumbers(impl.GenusOf(m), 0, 0))
		}
		if got := nameOrNone(impl.BranchCover(list)); got != cover {
			t.Errorf("BranchCover of MapPassport(%v) = %s, want %s", m, got, cover)
		}
	}
}

// TestNoMapPassport has lists of darts that are no maps, among them permutations of an odd number of darts, and maps of too many darts.
func TestNoMapPassport(t *testing.T) {
	lists := slices.Concat(noMaps(), mapsOf(1), mapsOf(3), mapsOf(5), mapsOf(6))
	for n := 6; n <= 24; n += 2 {
		lists = append(lists, identityMap(n), stirredMap(n, 1), stirredMap(n, 2))
	}
	for _, n := range []int{2, 4} {
		for _, bad := range otherPermutations(n) {
			if !impl.IsMap(bad) || len(bad) > 4 {
				lists = append(lists, bad)
			}
		}
	}
	for _, m := range lists {
		if got := listsOrNone(impl.MapPassport(m)); got != "none" {
			t.Errorf("MapPassport(%v) = %s", m, got)
		}
	}
}

// noPermutations are lists that are empty or whose elements are not all permutations of the same sheets, of as many elements as a passport has or as can be closed up.
func noPermutations() [][][]int {
	lists := noSheetLists()
	for n := 1; n <= 5; n++ {
		for _, bad := range otherPermutations(n) {
			for _, count := range []int{4, 5} {
				for at := range count {
					list := slices.Repeat([][]int{identityMap(n)}, count)
					list[at] = bad
					lists = append(lists, list)
				}
			}
			lists = append(lists, [][]int{stirredMap(n, 1), bad}, [][]int{bad, stirredMap(n, 1), stirredMap(n, 2)})
		}
	}
	// The same permutation may have one sheet more that stays.
	lists = append(lists, [][]int{{1, 0}, {1, 0, 2}}, [][]int{{1, 0, 2}, {1, 0}}, [][]int{{0}, {0, 1}}, [][]int{{0, 1}, {0}}, [][]int{{1, 0}, {1, 0}, {0}}, [][]int{{1, 0}, {1, 0}, {}}, [][]int{{1, 0}, {1, 0}, nil})
	lists = append(lists, [][]int{{1, 2, 3, 4, 5, 0}, {5, 0, 1, 2, 3, 4}}, [][]int{{1, 0}, {0, 0}}, [][]int{{0, 0}, {0, 1}}, [][]int{{-1, 0}, {1, 0}}, [][]int{{1, 2}, {1, 0}})
	return lists
}

func TestNoPermutations(t *testing.T) {
	for _, list := range noPermutations() {
		checkNoPassport(t, list)
		if got := listsOrNone(impl.CloseUp(list)); got != "none" {
			t.Fatalf("CloseUp(%v) = %s", list, got)
		}
	}
}

// TestTooManyPermutations has identities and others that act as the identity together.
func TestTooManyPermutations(t *testing.T) {
	for n := 1; n <= 5; n++ {
		for _, count := range []int{6, 7, 8, 9, 10, 20, 100, 1000} {
			checkNoPassport(t, slices.Repeat([][]int{identityMap(n)}, count))
			around := closedText(stirredList(n, 1, count))
			list := slices.Repeat(actionOf(around), count/2+1)
			checkNoPassport(t, list)
			if got := listsOrNone(impl.CloseUp(list)); got != "none" {
				t.Errorf("CloseUp of %d permutations = %s", len(list), got)
			}
		}
		if list := slices.Repeat([][]int{identityMap(n)}, 5); !impl.IsPassport(list) {
			t.Errorf("IsPassport(%v) = false", list)
		}
	}
}

// TestBranchesOfOne has lists of one permutation, of which the identity alone is a passport.
func TestBranchesOfOne(t *testing.T) {
	for n := 1; n <= 5; n++ {
		for _, text := range allLists(n, 1) {
			list := actionOf(text)
			if text != sheetsOf(text) {
				checkNoPassport(t, list)
				continue
			}
			cover := "none"
			if n == 1 {
				cover = "sphere"
			}
			if !impl.IsPassport(list) || impl.BranchSum(list) != 0 || !sameLists(impl.CycleTypes(list), [][]int{slices.Repeat([]int{1}, n)}) {
				t.Errorf("%s is a passport of the sum %d and the types %v", text, impl.BranchSum(list), impl.CycleTypes(list))
			}
			if got := nameOrNone(impl.BranchCover(list)); got != cover {
				t.Errorf("BranchCover(%s) = %s, want %s", text, got, cover)
			}
			for k := -2; k <= 2; k++ {
				if got := listsOrNone(impl.BraidPassport(list, k)); got != "none" {
					t.Errorf("BraidPassport(%s, %d) = %s", text, k, got)
				}
			}
		}
	}
}

// branchCalls are all functions of the chapter, and what they return as lists; MapPassport takes the first permutation.
func branchCalls() map[string]func(list [][]int) [][]int {
	calls := map[string]func(list [][]int) [][]int{
		"IsPassport": func(list [][]int) [][]int { return surfaceLists(nil, impl.IsPassport(list)) },
		"BranchSum":  func(list [][]int) [][]int { return [][]int{{impl.BranchSum(list)}} },
		"BranchCover": func(list [][]int) [][]int {
			s, ok := impl.BranchCover(list)
			return surfaceLists([]impl.Surface{s}, ok)
		},
		"CycleTypes": impl.CycleTypes,
		"CloseUp":    func(list [][]int) [][]int { closed, _ := impl.CloseUp(list); return closed },
		"MapPassport": func(list [][]int) [][]int {
			if len(list) == 0 {
				return nil
			}
			passport, _ := impl.MapPassport(list[0])
			return passport
		},
	}
	for k := -1; k <= 5; k++ {
		calls["BraidPassport "+decimal(k)] = func(list [][]int) [][]int { braided, _ := impl.BraidPassport(list, k); return braided }
	}
	return calls
}

// branchLists are passports and others, with maps among them, and lists that are no permutations.
func branchLists() [][][]int {
	lists := stayingLists()
	for _, c := range passportCases {
		lists = append(lists, actionOf(c.text))
	}
	for _, m := range slices.Concat(mapsOf(2), mapsOf(4)) {
		lists = append(lists, [][]int{m}, [][]int{m, m}, [][]int{m, m, m, m}, [][]int{m, m, m, m, m})
	}
	for n := 1; n <= 5; n++ {
		for count := 1; count <= 6; count++ {
			lists = append(lists, actionOf(stirredList(n, count, 5)))
		}
	}
	return lists
}

// TestBranchArgumentsStay calls every function, changes every result, and looks at the arguments with their unused capacity.
func TestBranchArgumentsStay(t *testing.T) {
	for _, first := range branchLists() {
		list, stays := roomyGraph(first)
		for name, call := range branchCalls() {
			got := call(list)
			text := listsText(got)
			spoil(got)
			if !stays() {
				t.Fatalf("%s changed %v to %v", name, first, list)
			}
			if again := listsText(call(list)); again != text {
				t.Errorf("%s of %v = %s after a change of its last result, want %s", name, first, again, text)
			}
		}
	}
}

// TestBranchResultsAreNew changes one result, or one permutation of it, and looks at another result and at the other permutations.
func TestBranchResultsAreNew(t *testing.T) {
	for _, list := range branchLists() {
		for name, call := range branchCalls() {
			want := listsText(call(list))
			other := call(list)
			spoil(call(list))
			if listsText(other) != want || listsText(call(list)) != want {
				t.Errorf("%s of %v = %v after a change of another result, want %s", name, list, other, want)
			}
			for i := range other {
				result := call(list)
				kept := slices.Clone(result[i])
				spoil([][]int{result[i]})
				result[i] = kept
				if listsText(result) != want {
					t.Errorf("%s of %v: with part %d, others changed to %v", name, list, i, result)
				}
			}
		}
	}
}

// TestSharedPassports has one permutation in every place of the memory of a list, and permutations that overlap in memory: no two of a result may.
func TestSharedPassports(t *testing.T) {
	images := []int{1, 2, 3, 4, 0}
	same := slices.Repeat([][]int{images}, 5)
	long := []int{1, 0, 1, 0, 1}
	overlapping := [][]int{long[:2], long[1:3], long[2:4], long[:2]}
	cases := []struct {
		name string
		got  func() ([][]int, bool)
		want string
	}{
		{"BraidPassport of one list in five places", func() ([][]int, bool) { return impl.BraidPassport(same, 2) }, "12340 12340 12340 12340 12340"},
		{"CloseUp of one list in four places", func() ([][]int, bool) { return impl.CloseUp(same[:4]) }, "12340 12340 12340 12340 12340"},
		{"CloseUp of one list in three places", func() ([][]int, bool) { return impl.CloseUp(same[:3]) }, "12340 12340 12340 23401"},
		{"CloseUp of lists that overlap", func() ([][]int, bool) { return impl.CloseUp([][]int{long[:2], long[2:4], long[:2]}) }, "10 10 10 10"},
		{"MapPassport of a part of a list", func() ([][]int, bool) { return impl.MapPassport(long[:2]) }, "10 10 01"},
	}
	for _, c := range cases {
		if got := listsOrNone(c.got()); got != c.want {
			t.Errorf("%s = %s, want %s", c.name, got, c.want)
		}
		result, _ := c.got()
		for i := range result {
			clear(result[i][:cap(result[i])])
			if other, _ := c.got(); digitTexts(other) != c.want || digitTexts(result[i+1:]) != strings.Join(strings.Fields(c.want)[i+1:], " ") {
				t.Errorf("%s: with permutation %d, others changed to %v or to %v", c.name, i, result, other)
			}
		}
	}
	if impl.BranchSum(same) != 20 || nameOrNone(impl.BranchCover(same)) != "6 handles" || listsText(impl.CycleTypes(same)) != "5 5 5 5 5" {
		t.Errorf("BranchSum, BranchCover and CycleTypes of one list in five places are wrong")
	}
	checkNoPassport(t, overlapping)
	if !slices.Equal(images, []int{1, 2, 3, 4, 0}) || !slices.Equal(long, []int{1, 0, 1, 0, 1}) {
		t.Errorf("the lists are changed to %v and %v", images, long)
	}
}
