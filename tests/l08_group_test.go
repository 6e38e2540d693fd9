package tests

import (
	"slices"
	"strings"
	"testing"

	"loop.example/g03105/impl"
)

// The functions below rewrite texts, apart from the program's lists, so that they are a second opinion; "" is the empty word here.

var relatorTexts = map[int]string{1: "abAB", 2: "abABcdCD"}

func freeText(text string) string { return strings.TrimPrefix(reducedText(text), "-") }

// relatorTurns are all turns of the relator and of its inverse.
func relatorTurns(g int) []string {
	var turns []string
	for _, text := range []string{relatorTexts[g], inverseText(relatorTexts[g])} {
		for k := range text {
			turns = append(turns, text[k:]+text[:k])
		}
	}
	return turns
}

var turnsByGroup = map[int][]string{1: relatorTurns(1), 2: relatorTurns(2)}

// partAt returns the longest beginning of a turn that stands in a text at an index, and the rest of that turn.
func partAt(g int, text string, at int) (string, string) {
	for n := min(4*g, len(text)-at); n > 2*g; n-- {
		for _, turn := range turnsByGroup[g] {
			if turn[:n] == text[at:at+n] {
				return turn[:n], turn[n:]
			}
		}
	}
	return "", ""
}

func stepText(g int, text string) (string, bool) {
	word := freeText(text)
	for at := range word {
		if part, rest := partAt(g, word, at); part != "" {
			return freeText(word[:at] + inverseText(rest) + word[at+len(part):]), true
		}
	}
	return "", false
}

// rewrittenText returns the text at which there is no step any more, and the number of steps to it.
func rewrittenText(g int, text string) (string, int) {
	word := freeText(text)
	for steps := 0; ; steps++ {
		next, ok := stepText(g, word)
		if !ok {
			return word, steps
		}
		word = next
	}
}

// sumsText counts the letters of a group less their inverses.
func sumsText(g int, text string) []int {
	var sums []int
	for _, r := range lettersInOrder[:2*g] {
		small := string(r)
		sums = append(sums, strings.Count(text, small)-strings.Count(text, strings.ToUpper(small)))
	}
	return sums
}

func groupLetters(g int) string {
	return lettersInOrder[:2*g] + strings.ToUpper(lettersInOrder[:2*g])
}

// textsUpTo are all texts of up to n letters of a group.
func textsUpTo(g int, n int) []string {
	texts := []string{""}
	for i := 0; i < len(texts); i++ {
		if len(texts[i]) == n {
			break
		}
		for _, r := range groupLetters(g) {
			texts = append(texts, texts[i]+string(r))
		}
	}
	return texts
}

// partTexts are parts of the turns, written around twice, alone and between two letters.
func partTexts(g int) []string {
	var texts []string
	around := textsUpTo(g, 1)
	for _, turn := range relatorTurns(g) {
		twice := turn + turn
		for n := range twice {
			for _, ahead := range around {
				for _, behind := range around {
					texts = append(texts, ahead+twice[:n+1]+behind)
				}
			}
		}
	}
	return texts
}

// stirredText puts parts of turns and letters behind each other, up to 24 letters, by a rule that hardly repeats itself.
func stirredText(g int, k int) string {
	turns, letters := turnsByGroup[g], groupLetters(g)
	text := ""
	state := uint32(100000*g + k)
	for len(text) < 24 {
		state = state*1664525 + 1013904223
		turn := turns[int(state>>8)%len(turns)]
		n := int(state>>20) % (len(turn) + 3)
		if n > len(turn) {
			turn, n = string(letters[int(state>>12)%len(letters)]), 1
		}
		text += turn[:n]
	}
	return text[:24-k%7]
}

// balancedText has each letter as often as its inverse: behind a word stands the inverse of one of its turns.
func balancedText(g int, k int) string {
	half := stirredText(g, k)[:4+k%9]
	at := k % 4
	return half + inverseText(half[at:]+half[:at])
}

// manyTexts are short texts, those with parts of the relator, and long ones.
func manyTexts(g int) []string {
	texts := slices.Concat(textsUpTo(g, 9-2*g), partTexts(g))
	for k := range 2000 {
		texts = append(texts, stirredText(g, k), balancedText(g, k))
	}
	return texts
}

// namedText writes the empty word as "-".
func namedText(text string) string {
	if text == "" {
		return "-"
	}
	return text
}

func stepName(w []int, ok bool) string {
	if !ok && len(w) == 0 {
		return "none"
	}
	if !ok {
		return "none with " + listText(w)
	}
	return impl.WordText(w)
}

func TestRelator(t *testing.T) {
	for _, g := range slices.Concat(farNumbers, []int{-4, 0, 1, 2, 3, 4, 5, 8, 12}) {
		got := impl.Relator(g)
		if want, ok := relatorTexts[g]; ok && impl.WordText(got) != want || !ok && len(got) != 0 {
			t.Errorf("Relator(%d) = %v, want %q", g, got, want)
		}
	}
}

// TestRelatorClosesSurface expects the polygon with the relator around it to be glued to the closed surface with g handles.
func TestRelatorClosesSurface(t *testing.T) {
	for g := 1; g <= 2; g++ {
		if s, ok := impl.SurfaceOf([][]int{impl.Relator(g)}); !ok || s != surfaceNumbers(g, 0, 0) {
			t.Errorf("the relator of %d is that of %v, %v", g, s, ok)
		}
	}
}

// dehnCases have, for each word, what a step makes of it, and the word at the end of all steps.
var dehnCases = []struct {
	name       string
	g          int
	text       string
	step, last string
}{
	{"the empty word", 1, "", "none", "-"},
	{"the empty word", 2, "", "none", "-"},
	{"a letter", 1, "B", "none", "B"},
	{"a letter", 2, "D", "none", "D"},
	{"the relator", 1, "abAB", "-", "-"},
	{"the relator", 2, "abABcdCD", "-", "-"},
	{"a turn of the relator", 1, "BabA", "-", "-"},
	{"a turn of the relator", 2, "dCDabABc", "-", "-"},
	{"the inverse of the relator", 1, "baBA", "-", "-"},
	{"the inverse of the relator", 2, "dcDCbaBA", "-", "-"},
	{"a turn of the inverse", 1, "AbaB", "-", "-"},
	{"a turn of the inverse", 2, "BAdcDCba", "-", "-"},
	{"the relator between letters", 1, "babABa", "ba", "ba"},
	{"the relator between letters", 2, "dabABcdCDd", "dd", "dd"},
	{"the relator and a letter", 1, "abABb", "b", "b"},
	{"the relator and a letter", 2, "abABcdCDc", "c", "c"},
	{"the relator and its first letter", 1, "abABa", "a", "a"},
	{"the relator and its first letter", 2, "abABcdCDa", "a", "a"},
	{"the relator around twice, less a letter", 1, "abABabA", "abA", "b"},
	{"the relator around twice, less a letter", 2, "abABcdCDabABcdC", "abABcdC", "d"},
	{"the relator twice", 1, "abABabAB", "abAB", "-"},
	{"the relator twice", 2, "abABcdCDabABcdCD", "abABcdCD", "-"},
	{"the relator three times, of MaxWord letters", 2, "abABcdCDabABcdCDabABcdCD", "abABcdCDabABcdCD", "-"},
	{"the relator six times, of MaxWord letters", 1, "abABabABabABabABabABabAB", "abABabABabABabABabAB", "-"},
	{"the inverse three times", 2, "dcDCbaBAdcDCbaBAdcDCbaBA", "dcDCbaBAdcDCbaBA", "-"},
	{"2 g letters", 1, "ab", "none", "ab"},
	{"2 g letters", 2, "abAB", "none", "abAB"},
	{"2 g letters around the end", 1, "Ba", "none", "Ba"},
	{"2 g letters around the end", 2, "CDab", "none", "CDab"},
	{"2 g letters of the inverse", 2, "cDCb", "none", "cDCb"},
	{"2 g letters between others", 2, "cabABC", "none", "cabABC"},
	{"twice 2 g letters", 2, "abABabAB", "none", "abABabAB"},
	{"2 g + 1 letters", 1, "abA", "b", "b"},
	{"2 g + 1 letters", 2, "abABc", "dcD", "dcD"},
	{"2 g + 1 letters at the end", 2, "bABcd", "Adc", "Adc"},
	{"2 g + 1 letters around the end", 1, "ABa", "B", "B"},
	{"2 g + 1 letters around the end", 2, "CDabA", "DCb", "DCb"},
	{"2 g + 1 letters around the end", 2, "dCDab", "Cba", "Cba"},
	{"2 g + 1 letters of the inverse", 1, "baB", "a", "a"},
	{"2 g + 1 letters of the inverse", 2, "dcDCb", "abA", "abA"},
	{"2 g + 1 letters of the inverse, around its end", 1, "BAb", "A", "A"},
	{"2 g + 1 letters of the inverse, around its end", 2, "baBAd", "cdC", "cdC"},
	{"2 g + 2 letters", 2, "abABcd", "dc", "dc"},
	{"2 g + 3 letters", 2, "abABcdC", "d", "d"},
	{"2 g + 3 letters around the end", 2, "BcdCDab", "a", "a"},
	{"2 g + 3 letters of the inverse", 2, "cDCbaBA", "D", "D"},
	{"a part between letters", 1, "aabAA", "abA", "b"},
	{"a part between letters", 2, "BabABcB", "BdcDB", "BdcDB"},
	{"a part at the end of MaxWord letters", 1, "aaaaaaaaaaaaaaaaaaaaabaB", "aaaaaaaaaaaaaaaaaaaaaa", "aaaaaaaaaaaaaaaaaaaaaa"},
	{"a part at the end of MaxWord letters", 2, "aaaaaaaaaaaaaaaaaaaabABc", "aaaaaaaaaaaaaaaaaaadcD", "aaaaaaaaaaaaaaaaaaadcD"},
	{"MaxWord letters without a part", 1, "abababababababababababab", "none", "abababababababababababab"},
	{"MaxWord letters without a part", 2, "dddddddddddddddddddddddd", "none", "dddddddddddddddddddddddd"},
	{"MaxWord letters that are reduced away", 2, "abcdabcdabcdDCBADCBADCBA", "none", "-"},
	{"a part ahead of the whole relator", 2, "abABcabABcdCD", "dcDabABcdCD", "dcD"},
	{"a part ahead of the whole inverse, with a common letter", 2, "abABcDCbaBAd", "dcDDCbaBAd", "dcDC"},
	{"a part ahead of a longer one", 2, "dcDCbcdCDabA", "abAcdCDabA", "abAb"},
	{"a part ahead of a longer one", 1, "abAAbaB", "bAbaB", "b"},
	{"only reducing makes a part", 1, "abBbA", "b", "b"},
	{"only reducing makes a part", 2, "abAdDBc", "dcD", "dcD"},
	{"only reducing makes a part, from its ends", 2, "CcabABcDd", "dcD", "dcD"},
	{"only reducing makes the relator", 2, "abABcaAdCD", "-", "-"},
	{"reducing takes a part away", 2, "abABcCbaBA", "none", "-"},
	{"reducing takes a part to 2 g letters", 2, "aabABcC", "none", "aabAB"},
	{"neighbours of the relator are inverse", 2, "cabABcdCDC", "-", "-"},
	{"neighbours of the relator are inverse, and their neighbours", 2, "adcabABcdCDCDb", "ab", "ab"},
	{"neighbours of the inverse are inverse", 1, "aabaBAAAA", "A", "A"},
	{"neighbours of the relator are inverse, and their neighbours", 1, "babABB", "-", "-"},
	{"reducing takes a letter of the part away", 2, "abABcdD", "dcD", "dcD"},
	{"two steps far from each other", 2, "abABcbaBAd", "dcDbaBAd", "dcDcdC"},
	{"reducing takes one of two parts away", 1, "abAaabA", "abb", "abb"},
	{"no step at all, but trivial", 1, "aabbAABB", "none", "aabbAABB"},
	{"letters of the first handle only", 2, "aabbAABB", "none", "aabbAABB"},
	{"letters of the second handle only", 2, "cdCDcdCD", "none", "cdCDcdCD"},
	{"the handles in the wrong order", 2, "cdCDbaBA", "none", "cdCDbaBA"},
	{"both handles with the wrong direction", 2, "abABdcDC", "none", "abABdcDC"},
	{"both handles with the wrong direction, in the wrong order", 2, "baBAdcDC", "-", "-"},
	{"the relator against the order", 2, "DCdcBAba", "none", "DCdcBAba"},
}

func TestDehnCases(t *testing.T) {
	for _, c := range dehnCases {
		w, ok := impl.DehnStep(c.g, lettersOf(c.text))
		if got := stepName(w, ok); got != c.step {
			t.Errorf("%s: DehnStep(%d, %s) = %s, want %s", c.name, c.g, c.text, got, c.step)
		}
		if got := impl.WordText(impl.DehnWord(c.g, lettersOf(c.text))); got != c.last {
			t.Errorf("%s: DehnWord(%d, %s) = %s, want %s", c.name, c.g, c.text, got, c.last)
		}
		if got := impl.IsTrivialWord(2, lettersOf(c.text)); c.g == 2 && got != (c.last == "-") {
			t.Errorf("%s: IsTrivialWord(2, %s) = %v", c.name, c.text, got)
		}
	}
}

// TestDehnByTexts compares every step and the end of the steps with those of the texts.
func TestDehnByTexts(t *testing.T) {
	for g := 1; g <= 2; g++ {
		most := 0
		for _, text := range manyTexts(g) {
			want := "none"
			if next, ok := stepText(g, text); ok {
				want = namedText(next)
			}
			w, ok := impl.DehnStep(g, lettersOf(text))
			if got := stepName(w, ok); got != want {
				t.Fatalf("DehnStep(%d, %s) = %s, want %s", g, text, got, want)
			}
			last, steps := rewrittenText(g, text)
			if got := impl.WordText(impl.DehnWord(g, lettersOf(text))); got != namedText(last) {
				t.Fatalf("DehnWord(%d, %s) = %s, want %s", g, text, got, namedText(last))
			}
			most = max(most, steps)
		}
		if most < 4 {
			t.Errorf("no more than %d steps for %d", most, g)
		}
	}
}

// TestDehnStepEnds expects that a step shortens, that there is none behind the last one, and that the steps lead to DehnWord.
func TestDehnStepEnds(t *testing.T) {
	for g := 1; g <= 2; g++ {
		for _, text := range manyTexts(g) {
			last := impl.DehnWord(g, lettersOf(text))
			if next, ok := impl.DehnStep(g, last); ok || len(next) != 0 {
				t.Fatalf("DehnStep(%d) of %v, the end of %s, = %v", g, last, text, next)
			}
			w := impl.ReduceWord(lettersOf(text))
			for next, ok := impl.DehnStep(g, w); ok; next, ok = impl.DehnStep(g, w) {
				if len(next) >= len(w) || !slices.Equal(next, impl.ReduceWord(next)) {
					t.Fatalf("DehnStep(%d, %v) = %v", g, w, next)
				}
				w = next
			}
			if !slices.Equal(w, last) {
				t.Fatalf("steps from %s lead to %v, not to %v", text, w, last)
			}
		}
	}
}

// firstPart returns the part of a text that a step replaces.
func firstPart(g int, text string) string {
	word := freeText(text)
	for at := range word {
		if part, _ := partAt(g, word, at); part != "" {
			return part
		}
	}
	return ""
}

// TestNewLettersStay expects that a step puts in as many letters as the part lacks, and that reducing takes out more only behind a whole relator: elsewhere, an inverse neighbour would have been a letter more of the part.
func TestNewLettersStay(t *testing.T) {
	for g := 1; g <= 2; g++ {
		wholes := 0
		for _, text := range manyTexts(g) {
			w := lettersOf(text)
			next, ok := impl.DehnStep(g, w)
			if !ok {
				continue
			}
			taken := len(freeText(text)) - len(next)
			if first := firstPart(g, text); len(first) == 4*g {
				wholes++
				if taken < 4*g || taken%2 != 0 {
					t.Errorf("DehnStep(%d, %s) = %v takes out %d letters", g, text, next, taken)
				}
			} else if taken != 2*len(first)-4*g {
				t.Errorf("DehnStep(%d, %s) = %v takes out %d letters for %s", g, text, next, taken, first)
			}
		}
		if wholes < 100 {
			t.Errorf("%d words with a whole relator for %d", wholes, g)
		}
	}
}

// TestPartsOfAllLengths replaces each part of each turn, from 1 letter to all, and counts the steps.
func TestPartsOfAllLengths(t *testing.T) {
	for g := 1; g <= 2; g++ {
		for _, turn := range relatorTurns(g) {
			for n := range len(turn) + 1 {
				want := "none"
				if n > 2*g {
					want = namedText(inverseText(turn[n:]))
				}
				w, ok := impl.DehnStep(g, lettersOf(turn[:n]))
				if got := stepName(w, ok); got != want {
					t.Errorf("DehnStep(%d, %s) = %s, want %s", g, turn[:n], got, want)
				}
			}
		}
	}
}

func checkTrivial(t *testing.T, g int, text string, want bool) {
	t.Helper()
	if got := impl.IsTrivialWord(g, lettersOf(text)); got != want {
		t.Errorf("IsTrivialWord(%d, %s) = %v", g, text, got)
	}
	sums := impl.HomologyOf(g, lettersOf(text))
	if want && !slices.Equal(sums, make([]int, 2*g)) {
		t.Errorf("HomologyOf(%d, %s) = %v of a trivial word", g, text, sums)
	}
	for _, empty := range [][]int{nil, {}} {
		if impl.AreEqualWords(g, lettersOf(text), empty) != want || impl.AreEqualWords(g, empty, lettersOf(text)) != want {
			t.Errorf("AreEqualWords(%d) of %s and the empty word is not %v", g, text, want)
		}
	}
}

func TestRelatorsAreTrivial(t *testing.T) {
	for g := 1; g <= 2; g++ {
		r := impl.Relator(g)
		for k := range r {
			checkTrivial(t, g, impl.WordText(impl.TurnWord(r, k)), true)
			checkTrivial(t, g, impl.WordText(impl.TurnWord(impl.InverseWord(r), k)), true)
			// Without a letter, or with another one in its place, it is trivial no more.
			less := slices.Delete(slices.Clone(r), k, k+1)
			checkTrivial(t, g, impl.WordText(less), false)
			for x := -2 * g; x <= 2*g; x++ {
				if x != 0 {
					changed := slices.Clone(r)
					changed[k] = x
					checkTrivial(t, g, impl.WordText(changed), x == r[k])
				}
			}
		}
		if n := 24 / len(r); !impl.IsTrivialWord(g, slices.Repeat(r, n)) {
			t.Errorf("the relator of %d, %d times, is not trivial", g, n)
		}
	}
}

func TestTrivialTexts(t *testing.T) {
	cases := []struct {
		g    int
		text string
		want bool
	}{
		{1, "", true}, {1, "aA", true}, {1, "aabbAABB", true}, {1, "aaabbbAAABBB", true}, {1, "aaaaaabbbbbbAAAAAABBBBBB", true},
		{1, "bAbABaBa", true}, {1, "aaAAaA", true}, {1, "a", false}, {1, "ab", false}, {1, "abA", false}, {1, "aab", false}, {1, "aB", false}, {1, "abab", false}, {1, "abaB", false},
		{1, "aaaaaaaaaaaaAAAAAAAAAAAA", true}, {1, "aaaaaaaaaaaaaAAAAAAAAAAA", false}, {1, "aaaaaaaaaaaaaaaaaaaaaaaa", false}, {1, "bbbbbbbbbbbbbbbbbbbbbbbB", false},
		{2, "", true}, {2, "aA", true}, {2, "Dd", true}, {2, "abAB", false}, {2, "cdCD", false}, {2, "cdCDabAB", true}, {2, "abABdcDC", false}, {2, "aabbAABB", false},
		{2, "abABcdCDabABcdCDabABcdCD", true}, {2, "abABabABcdCDcdCD", true}, {2, "abababababababababababab", false}, {2, "acAC", false}, {2, "bdBD", false}, {2, "abcdABCD", false},
		{2, "abABcdCDdcDCbaBA", true}, {2, "aabABcdCDbABcdCD", true}, {2, "abABcdCabABcdCDD", true}, {2, "cabABcdCDC", true}, {2, "abBADCcd", true}, {2, "dcDbaBAd", false},
		{2, "abcdDCBAabcdDCBAabcdDCBA", true},
	}
	for _, c := range cases {
		checkTrivial(t, c.g, c.text, c.want)
	}
}

// TestTrivialByConstruction puts relators between words and their inverses.
func TestTrivialByConstruction(t *testing.T) {
	for g := 1; g <= 2; g++ {
		turns := relatorTurns(g)
		for _, text := range textsUpTo(g, 5-g) {
			back := inverseText(text)
			checkTrivial(t, g, text+back, true)
			for i, turn := range turns {
				other := turns[(5*i+len(text))%len(turns)]
				checkTrivial(t, g, text+turn+back, true)
				checkTrivial(t, g, text+turn+back+other, true)
				checkTrivial(t, g, turn+text+other+back, true)
			}
		}
		// With words of 8 letters around the relator of g 2, these are MaxWord letters.
		for k := range 200 {
			text := stirredText(g, k)[:8]
			for _, turn := range turns {
				checkTrivial(t, g, text+turn+inverseText(text), true)
			}
			half := stirredText(g, k)[:12]
			checkTrivial(t, g, half+inverseText(half), true)
		}
	}
}

// TestRelatorsAmongOtherLetters puts a letter behind a trivial word, or doubles one of its letters.
func TestRelatorsAmongOtherLetters(t *testing.T) {
	for g := 1; g <= 2; g++ {
		for _, turn := range relatorTurns(g) {
			for _, text := range textsUpTo(g, 2)[1:] {
				whole := text + turn + inverseText(text)
				for i := range whole {
					checkTrivial(t, g, whole[:i]+whole[i:i+1]+whole[i:], false)
					checkTrivial(t, g, whole[:i]+whole[i+1:], false)
				}
			}
		}
	}
}

// trivialClosure are the reduced words of up to most letters of which each comes of a shorter one, and at last of the empty one, by putting in a turn of the relator or of its inverse, between a word and its inverse, and by reducing. By Dehn's theorem, these are all that are trivial for g 2.
func trivialClosure(g int, most int) map[string]bool {
	found := map[string]bool{"": true}
	texts := []string{""}
	for i := 0; i < len(texts); i++ {
		text := texts[i]
		for _, around := range textsUpTo(g, max(0, (most-4*g-len(text))/2)) {
			for at := range len(text) + 1 {
				for _, turn := range turnsByGroup[g] {
					next := freeText(text[:at] + around + turn + inverseText(around) + text[at:])
					if len(next) <= most && !found[next] {
						found[next] = true
						texts = append(texts, next)
					}
				}
			}
		}
	}
	return found
}

// TestTrivialByClosure expects that the words of the closure are trivial, and that other ones are not.
func TestTrivialByClosure(t *testing.T) {
	found := trivialClosure(2, 12)
	for text := range found {
		checkTrivial(t, 2, text, true)
	}
	others := 0
	for _, text := range manyTexts(2) {
		word := freeText(text)
		if len(word) > 12 {
			continue
		}
		if !found[word] {
			others++
		}
		checkTrivial(t, 2, text, found[word])
	}
	if len(found) < 500 || others < 10000 {
		t.Errorf("%d trivial words, %d others", len(found), others)
	}
}

// TestTrivialOfTorus expects for g 1 that a word is trivial exactly if each letter occurs as often as its inverse.
func TestTrivialOfTorus(t *testing.T) {
	trivial, withoutSteps := 0, 0
	for _, text := range manyTexts(1) {
		want := slices.Equal(sumsText(1, text), []int{0, 0})
		checkTrivial(t, 1, text, want)
		if want {
			trivial++
			if last, _ := rewrittenText(1, text); last != "" {
				withoutSteps++
			}
		}
	}
	if trivial < 2000 || withoutSteps < 20 {
		t.Errorf("%d trivial words, %d of them without steps", trivial, withoutSteps)
	}
}

// permuted runs through a word letter by letter, each of which permutes the numbers 0, 1 and 2.
func permuted(text string, letters []string) string {
	places := []byte("012")
	for _, r := range text {
		images := letters[strings.IndexRune(lettersInOrder, r|0x20)]
		for i, place := range places {
			if r < 'a' {
				places[i] = '0' + byte(strings.IndexByte(images, place))
			} else {
				places[i] = images[place-'0']
			}
		}
	}
	return string(places)
}

// permutations are all choices of a permutation for each letter by which the relator leaves all in its place.
func permutations(g int) [][]string {
	choices := [][]string{nil}
	for range 2 * g {
		var longer [][]string
		for _, choice := range choices {
			for _, images := range []string{"012", "021", "102", "120", "201", "210"} {
				longer = append(longer, append(slices.Clone(choice), images))
			}
		}
		choices = longer
	}
	return slices.DeleteFunc(choices, func(choice []string) bool { return permuted(relatorTexts[g], choice) != "012" })
}

// TestStepsKeepPermutations expects that a word permutes as DehnStep and DehnWord of it do, and not at all if it is trivial.
func TestStepsKeepPermutations(t *testing.T) {
	for g := 1; g <= 2; g++ {
		choices := permutations(g)
		// As many as there are coverings of 3 sheets of the surface, counted by the characters of the permutations.
		if want := map[int]int{1: 18, 2: 486}[g]; len(choices) != want {
			t.Fatalf("%d choices for %d, want %d", len(choices), g, want)
		}
		for k := range 300 {
			text := stirredText(g, k)
			next, ok := impl.DehnStep(g, lettersOf(text))
			last := impl.WordText(impl.DehnWord(g, lettersOf(text)))
			trivial := impl.IsTrivialWord(g, lettersOf(text))
			for _, choice := range choices {
				want := permuted(text, choice)
				if ok && permuted(strings.TrimPrefix(impl.WordText(next), "-"), choice) != want {
					t.Fatalf("DehnStep(%d, %s) = %v is another permutation for %v", g, text, next, choice)
				}
				if permuted(strings.TrimPrefix(last, "-"), choice) != want {
					t.Fatalf("DehnWord(%d, %s) = %s is another permutation for %v", g, text, last, choice)
				}
				if trivial && want != "012" {
					t.Fatalf("IsTrivialWord(%d, %s), but it permutes for %v", g, text, choice)
				}
			}
		}
	}
}

// freeImage puts the words in the place of the letters, and their inverses in that of the inverses, and reduces.
func freeImage(text string, images []string) string {
	image := ""
	for _, r := range text {
		part := images[strings.IndexRune(lettersInOrder, r|0x20)]
		if r < 'a' {
			part = inverseText(part)
		}
		image = freeText(image + part)
	}
	return image
}

// TestTrivialInFreeGroups expects that a trivial word is empty where the letters stand for words of two letters among which the relator is empty.
func TestTrivialInFreeGroups(t *testing.T) {
	choices := [][]string{
		{"a", "b", "b", "a"}, {"a", "b", "b", "ab"}, {"a", "b", "ba", "a"}, {"ab", "b", "b", "ab"}, {"B", "a", "a", "B"},
		{"a", "", "b", ""}, {"a", "", "", "b"}, {"", "a", "b", ""}, {"", "a", "", "b"}, {"a", "a", "b", "BB"}, {"abA", "abbA", "B", "b"},
	}
	trivial := 0
	for _, text := range manyTexts(2) {
		if !impl.IsTrivialWord(2, lettersOf(text)) {
			continue
		}
		trivial++
		for _, choice := range choices {
			if image := freeImage(text, choice); image != "" {
				t.Errorf("IsTrivialWord(2, %s), but %v makes %s of it", text, choice, image)
			}
		}
	}
	for _, choice := range choices {
		if image := freeImage(relatorTexts[2], choice); image != "" {
			t.Errorf("%v makes %s of the relator", choice, image)
		}
	}
	if trivial < 1000 {
		t.Errorf("%d trivial words", trivial)
	}
}

// checkEqual expects the same in both orders.
func checkEqual(t *testing.T, g int, v string, w string, want bool) {
	t.Helper()
	if impl.AreEqualWords(g, lettersOf(v), lettersOf(w)) != want || impl.AreEqualWords(g, lettersOf(w), lettersOf(v)) != want {
		t.Errorf("AreEqualWords(%d) of %q and %q is not %v", g, v, w, want)
	}
}

func TestAreEqualWords(t *testing.T) {
	cases := []struct {
		g    int
		v, w string
		want bool
	}{
		{1, "", "", true}, {1, "", "aA", true}, {1, "", "abAB", true}, {1, "", "a", false}, {1, "a", "a", true}, {1, "a", "A", false}, {1, "a", "b", false},
		{1, "ab", "ba", true}, {1, "aab", "aba", true}, {1, "aB", "Ba", true}, {1, "ab", "AB", false}, {1, "ab", "abab", false}, {1, "aabb", "bbaa", true}, {1, "a", "aa", false},
		{2, "", "", true}, {2, "", "dD", true}, {2, "", "abABcdCD", true}, {2, "", "abAB", false}, {2, "d", "d", true}, {2, "d", "D", false}, {2, "a", "c", false},
		{2, "abAB", "dcDC", true}, {2, "abAB", "DCdc", false}, {2, "abAB", "cdCD", false}, {2, "abAB", "baBA", false}, {2, "ab", "ba", false}, {2, "ab", "baBAab", false},
		{2, "abABc", "dcD", true}, {2, "abABcd", "dc", true}, {2, "abABcdC", "d", true}, {2, "abA", "dcDCb", true}, {2, "ac", "ca", false}, {2, "abcd", "dcba", false},
		{2, "aabbcc", "ccbbaa", false}, {2, "abABa", "dcDCa", true}, {2, "dabABD", "ddcDCD", true}, {2, "dabABD", "abAB", false},
	}
	for _, c := range cases {
		checkEqual(t, c.g, c.v, c.w, c.want)
	}
}

// TestEqualShortWords goes through all pairs of short words, and of the halves of the relator with all words of as many letters.
func TestEqualShortWords(t *testing.T) {
	trivial := trivialClosure(2, 8)
	for g := 1; g <= 2; g++ {
		equal := func(v string, w string) bool {
			both := v + inverseText(w)
			if g == 1 {
				return slices.Equal(sumsText(1, both), []int{0, 0})
			}
			return trivial[freeText(both)]
		}
		short := textsUpTo(g, 4-g)
		for _, v := range short {
			for _, w := range short {
				checkEqual(t, g, v, w, equal(v, w))
			}
		}
		for _, turn := range relatorTurns(g)[:4*g] {
			half := turn[:2*g]
			for _, w := range textsUpTo(g, 2*g) {
				if got := impl.AreEqualWords(g, lettersOf(half), lettersOf(w)); len(w) == 2*g && got != equal(half, w) {
					t.Errorf("AreEqualWords(%d) of %s and %s = %v", g, half, w, got)
				}
			}
		}
	}
}

// putIn returns the texts with a part put in at each place.
func putIn(text string, part string) []string {
	var texts []string
	for at := range len(text) + 1 {
		texts = append(texts, text[:at]+part+text[at:])
	}
	return texts
}

// TestEqualWithRelatorPutIn puts the turns of the relator, those of its inverse, and two inverse letters into words of up to 8 letters: with the relator of g 2, both words have up to MaxWord letters together.
func TestEqualWithRelatorPutIn(t *testing.T) {
	for g := 1; g <= 2; g++ {
		texts := textsUpTo(g, 3-g)
		for k := range 40 {
			texts = append(texts, stirredText(g, k)[:3+k%6], stirredText(g, k)[:8])
		}
		parts := relatorTurns(g)
		for _, r := range groupLetters(g) {
			parts = append(parts, string(r)+inverseText(string(r)))
		}
		for _, text := range texts {
			for _, part := range parts {
				for _, longer := range putIn(text, part) {
					checkEqual(t, g, text, longer, true)
					// A letter less or more is never the same: the relator has each letter as often as its inverse.
					checkEqual(t, g, text, longer[1:], false)
				}
			}
		}
	}
}

// TestEqualWordsOfMaxWord has up to MaxWord letters together, and more of them. As equal words have an even number of letters together, 26 are the least of equal words that are too many.
func TestEqualWordsOfMaxWord(t *testing.T) {
	for g := 1; g <= 2; g++ {
		long := strings.Repeat(relatorTexts[g], 6/g)
		for _, v := range []string{long, strings.Repeat("aA", 12), strings.Repeat("b", 24)} {
			last := v[23:]
			for n := range 25 {
				w := inverseText(v[n:])
				checkEqual(t, g, v[:n], w, v[0] != 'b')
				checkEqual(t, g, v[:n]+last, w, false)
				checkEqual(t, g, v[:n]+last+inverseText(last), w, false)
			}
		}
		checkEqual(t, g, strings.Repeat("a", 12), strings.Repeat("a", 12), true)
		checkEqual(t, g, strings.Repeat("a", 13), strings.Repeat("a", 12), false)
		checkEqual(t, g, strings.Repeat("a", 13), strings.Repeat("a", 13), false)
		checkEqual(t, g, strings.Repeat("a", 24), strings.Repeat("a", 24), false)
		checkEqual(t, g, long, "", true)
		checkEqual(t, g, long, "a", false)
		checkEqual(t, g, long, "aA", false)
		checkEqual(t, g, long, long, false)
		checkEqual(t, g, strings.Repeat("Bb", 6), strings.Repeat("aA", 6), true)
		checkEqual(t, g, strings.Repeat("Bb", 7), strings.Repeat("aA", 6), false)
	}
}

func TestHomologyOf(t *testing.T) {
	cases := []struct {
		g          int
		text, want string
	}{
		{1, "", "0,0"}, {1, "a", "1,0"}, {1, "B", "0,-1"}, {1, "aab", "2,1"}, {1, "abAB", "0,0"}, {1, "AAAb", "-3,1"}, {1, "aaaaaaaaaaaaaaaaaaaaaaaa", "24,0"}, {1, "BBBBBBBBBBBBBBBBBBBBBBBB", "0,-24"},
		{2, "", "0,0,0,0"}, {2, "a", "1,0,0,0"}, {2, "D", "0,0,0,-1"}, {2, "aabD", "2,1,0,-1"}, {2, "abcd", "1,1,1,1"}, {2, "CCb", "0,1,-2,0"}, {2, "abABcdCD", "0,0,0,0"}, {2, "abABcdC", "0,0,0,1"}, {2, "dddddddddddddddddddddddd", "0,0,0,24"},
	}
	for _, c := range cases {
		if got := listText(impl.HomologyOf(c.g, lettersOf(c.text))); got != c.want {
			t.Errorf("HomologyOf(%d, %s) = %s, want %s", c.g, c.text, got, c.want)
		}
	}
}

// TestHomologyOfAll counts the letters again, and expects that neither steps nor turns change the numbers.
func TestHomologyOfAll(t *testing.T) {
	for g := 1; g <= 2; g++ {
		for _, text := range manyTexts(g) {
			w := lettersOf(text)
			want := sumsText(g, text)
			if got := impl.HomologyOf(g, w); !slices.Equal(got, want) {
				t.Fatalf("HomologyOf(%d, %s) = %v, want %v", g, text, got, want)
			}
			if got := impl.HomologyOf(g, impl.DehnWord(g, w)); !slices.Equal(got, want) {
				t.Fatalf("HomologyOf(%d) of DehnWord of %s = %v, want %v", g, text, got, want)
			}
			if got := impl.HomologyOf(g, impl.TurnWord(w, 3)); !slices.Equal(got, want) {
				t.Fatalf("HomologyOf(%d) of a turn of %s = %v, want %v", g, text, got, want)
			}
		}
	}
}

// checkCommute expects the same in both orders.
func checkCommute(t *testing.T, g int, v string, w string, want bool) {
	t.Helper()
	if impl.CommuteIn(g, lettersOf(v), lettersOf(w)) != want || impl.CommuteIn(g, lettersOf(w), lettersOf(v)) != want {
		t.Errorf("CommuteIn(%d) of %q and %q is not %v", g, v, w, want)
	}
}

// TestAllCommuteOnTorus goes through all pairs of words of up to 3 letters, and pairs of up to 12 letters together.
func TestAllCommuteOnTorus(t *testing.T) {
	texts := textsUpTo(1, 3)
	for _, v := range texts {
		for _, w := range texts {
			checkCommute(t, 1, v, w, true)
		}
	}
	for k := range 500 {
		text := stirredText(1, k)[:12]
		checkCommute(t, 1, text[:k%13], text[k%13:], true)
	}
}

// TestCommuteLetters expects, for g 2, that letters commute with themselves and their inverses only.
func TestCommuteLetters(t *testing.T) {
	for _, x := range groupLetters(2) {
		for _, y := range groupLetters(2) {
			checkCommute(t, 2, string(x), string(y), x|0x20 == y|0x20)
		}
	}
}

// TestCommuteWithPowers expects that a word commutes with its powers, also if they are written in another way, with their inverses, and with the turns of the relator.
func TestCommuteWithPowers(t *testing.T) {
	for g := 1; g <= 2; g++ {
		for _, text := range textsUpTo(g, 3) {
			if text == "" {
				continue
			}
			power := ""
			for len(power)+len(text) <= 12 {
				checkCommute(t, g, text, power, true)
				checkCommute(t, g, text, inverseText(power), true)
				power += text
			}
			for _, turn := range relatorTurns(g) {
				checkCommute(t, g, text, turn, true)
				checkCommute(t, g, turn+text, "", true)
			}
		}
	}
	for _, c := range [][2]string{{"abAB", "cdCD"}, {"abAB", "dcDC"}, {"abAB", "dcDCabAB"}, {"dcD", "abABc"}, {"dc", "abABcd"}, {"d", "abABcdC"}, {"abA", "abbA"}, {"abA", "dcDCb"}} {
		checkCommute(t, 2, c[0], c[1], true)
	}
	for _, c := range [][2]string{{"abAB", "a"}, {"abAB", "c"}, {"abAB", "cd"}, {"dcD", "c"}, {"ab", "aab"}, {"ab", "ba"}, {"a", "bab"}, {"abA", "b"}, {"ac", "bd"}, {"dc", "cd"}} {
		checkCommute(t, 2, c[0], c[1], false)
	}
}

// TestCommuteByTexts rewrites v w V W as texts.
func TestCommuteByTexts(t *testing.T) {
	texts := textsUpTo(2, 2)
	for k := range 40 {
		texts = append(texts, stirredText(2, k)[:3+k%4])
	}
	yes, no := 0, 0
	for _, v := range texts {
		for _, w := range texts {
			last, _ := rewrittenText(2, v+w+inverseText(v)+inverseText(w))
			checkCommute(t, 2, v, w, last == "")
			if last == "" {
				yes++
			} else {
				no++
			}
		}
	}
	if yes < 500 || no < 5000 {
		t.Errorf("%d pairs commute, %d do not", yes, no)
	}
}

// TestCommuteLimit has words of 12 letters together, so that v w and w v have MaxWord letters together, and of one more.
func TestCommuteLimit(t *testing.T) {
	for g := 1; g <= 2; g++ {
		for n := range 13 {
			v, w := strings.Repeat("a", n), strings.Repeat("a", 12-n)
			checkCommute(t, g, v, w, true)
			checkCommute(t, g, v+"a", w, false)
			checkCommute(t, g, v, w+"A", false)
			checkCommute(t, g, v, "bB"+w, false)
		}
		checkCommute(t, g, strings.Repeat("aA", 6), "", true)
		checkCommute(t, g, strings.Repeat("aA", 6), "b", false)
		checkCommute(t, g, strings.Repeat("a", 24), "", false)
		checkCommute(t, g, strings.Repeat("a", 24), strings.Repeat("a", 24), false)
	}
}

func TestEmptyWordInGroups(t *testing.T) {
	for g := 1; g <= 2; g++ {
		for _, empty := range [][]int{nil, {}, make([]int, 0, 5)} {
			if w, ok := impl.DehnStep(g, empty); ok || len(w) != 0 {
				t.Errorf("DehnStep(%d) of the empty word = %v, %v", g, w, ok)
			}
			if w := impl.DehnWord(g, empty); len(w) != 0 {
				t.Errorf("DehnWord(%d) of the empty word = %v", g, w)
			}
			if got := impl.HomologyOf(g, empty); !slices.Equal(got, make([]int, 2*g)) {
				t.Errorf("HomologyOf(%d) of the empty word = %v", g, got)
			}
			if !impl.IsTrivialWord(g, empty) || !impl.AreEqualWords(g, empty, nil) || !impl.AreEqualWords(g, []int{}, empty) || !impl.CommuteIn(g, empty, nil) || !impl.CommuteIn(g, []int{1, 2}, empty) {
				t.Errorf("the empty word is not trivial, equal to itself or does not commute for %d", g)
			}
		}
	}
}

// groupCalls are all functions of the chapter that take words, and what they return as a list, with a 77 for true; it is empty for no result. Those of one word are called with the first one.
func groupCalls() map[string]func(g int, v []int, w []int) []int {
	sign := func(ok bool) []int {
		if ok {
			return []int{77}
		}
		return nil
	}
	return map[string]func(g int, v []int, w []int) []int{
		"DehnStep":      func(g int, v []int, w []int) []int { next, ok := impl.DehnStep(g, v); return append(next, sign(ok)...) },
		"DehnWord":      func(g int, v []int, w []int) []int { return impl.DehnWord(g, v) },
		"IsTrivialWord": func(g int, v []int, w []int) []int { return sign(impl.IsTrivialWord(g, v)) },
		"AreEqualWords": func(g int, v []int, w []int) []int { return sign(impl.AreEqualWords(g, v, w)) },
		"HomologyOf":    func(g int, v []int, w []int) []int { return impl.HomologyOf(g, v) },
		"CommuteIn":     func(g int, v []int, w []int) []int { return sign(impl.CommuteIn(g, v, w)) },
	}
}

var pairCalls = []string{"AreEqualWords", "CommuteIn"}

// otherWords are no words of the letters of a group.
func otherWords(g int) [][]int {
	words := noWords()
	relator := lettersOf(relatorTexts[g])
	for x := 2*g + 1; x <= 9; x++ {
		words = append(words, []int{x}, []int{-x}, []int{x, -x}, []int{-x, x}, []int{1, x, -x}, []int{x, x}, []int{x, 1, -x, -1})
		words = append(words, append([]int{-x}, relator...), append(slices.Clone(relator), x), append(slices.Clone(relator), x, -x))
		words = append(words, slices.Concat([]int{x}, relator, []int{-x}), slices.Repeat([]int{x}, 24))
	}
	for k := range relator {
		for _, x := range []int{0, 2*g + 1, -2*g - 1, 8, -8, 9} {
			changed := slices.Clone(relator)
			changed[k] = x
			words = append(words, changed)
		}
	}
	long := slices.Repeat(relator, 24/len(relator))
	words = append(words, append(slices.Clone(long), 1), append(slices.Clone(long), 2, -2), slices.Repeat(relator, 100), slices.Repeat([]int{1, -1}, 50))
	if g == 1 {
		words = append(words, lettersOf(relatorTexts[2]), lettersOf("cdCD"), lettersOf("abABcC"))
	}
	return words
}

func TestNoGroupWord(t *testing.T) {
	for g := 1; g <= 2; g++ {
		for _, w := range otherWords(g) {
			for name, call := range groupCalls() {
				if got := call(g, w, w); len(got) != 0 {
					t.Errorf("%s(%d, %v) = %v, want none", name, g, w, got)
				}
			}
			for _, name := range pairCalls {
				for _, other := range [][]int{nil, {}, {1}, {-2}, {1, 2, -1, -2}, slices.Repeat([]int{1}, 24)} {
					call := groupCalls()[name]
					if got := slices.Concat(call(g, w, other), call(g, other, w)); len(got) != 0 {
						t.Errorf("%s(%d) of %v and %v, or of both in the other order, = %v, want none", name, g, w, other, got)
					}
				}
			}
		}
	}
}

func TestNoGroup(t *testing.T) {
	words := [][]int{nil, {}, {1}, {-1}, {2, -2}, {1, 2}, {1, 2, -1, -2}, lettersOf("abABcdCD"), lettersOf("abABc"), lettersOf("abABcdCDefEF"), lettersOf("abABcdCDefEFghGH"), {0}, {9}}
	for _, g := range slices.Concat(farNumbers, []int{-4, 0, 3, 4, 5, 8, 12}) {
		for name, call := range groupCalls() {
			for _, v := range words {
				for _, w := range words {
					if got := call(g, v, w); len(got) != 0 {
						t.Errorf("%s(%d) of %v and %v = %v, want none", name, g, v, w, got)
					}
				}
			}
		}
	}
}

// TestGroupArgumentsStay calls every function, changes every result, and looks at the arguments with their unused capacity.
func TestGroupArgumentsStay(t *testing.T) {
	texts := []string{"", "a", "aA", "abA", "abAB", "baBA", "aabABA", "aabbAABB", "abABc", "cabABcC", "abABcdCD", "dcDCbaBA", "abABcdCDabABcdCDabABcdCD", "aAbBcC", "eE"}
	for _, first := range texts {
		for _, second := range texts {
			lists, stays := roomyGraph([][]int{lettersOf(first), lettersOf(second)})
			for g := range 4 {
				for name, call := range groupCalls() {
					got := call(g, lists[0], lists[1])
					want := listText(got)
					spoil([][]int{got})
					if !stays() {
						t.Fatalf("%s(%d) changed %s or %s to %v", name, g, first, second, lists)
					}
					if again := listText(call(g, lists[0], lists[1])); again != want {
						t.Errorf("%s(%d) of %s = %s after a change of its last result, want %s", name, g, first, again, want)
					}
				}
			}
		}
	}
}

// TestWordsInOneList has two words that follow each other, or overlap, in the memory of one list.
func TestWordsInOneList(t *testing.T) {
	whole := lettersOf("abABcdCDabABcdCD")
	for i := range 9 {
		for n := range 8 {
			v, w := whole[i:i+n], whole[i+n:]
			want := rewrittenEqual(v, w)
			if got := impl.AreEqualWords(2, v, w); got != want {
				t.Errorf("AreEqualWords(2) of %v and %v = %v", v, w, got)
			}
			if got := impl.CommuteIn(2, v, whole[i:i+n/2]); got != rewrittenEqual(slices.Concat(v, v[:n/2]), slices.Concat(v[:n/2], v)) {
				t.Errorf("CommuteIn(2) of %v and %v = %v", v, v[:n/2], got)
			}
			if !slices.Equal(whole, lettersOf("abABcdCDabABcdCD")) {
				t.Fatalf("the list is changed to %v", whole)
			}
		}
	}
}

// rewrittenEqual rewrites the text of v followed by the inverse of w.
func rewrittenEqual(v []int, w []int) bool {
	last, _ := rewrittenText(2, strings.TrimPrefix(impl.WordText(v), "-")+inverseText(strings.TrimPrefix(impl.WordText(w), "-")))
	return last == "" && len(v)+len(w) <= 24
}

// TestGroupResultsAreNew changes and prolongs one result and looks at another one.
func TestGroupResultsAreNew(t *testing.T) {
	w := lettersOf("dabABcdda")
	short := []int{1, 2, 1}
	calls := map[string]func() []int{
		"Relator 1":           func() []int { return impl.Relator(1) },
		"Relator 2":           func() []int { return impl.Relator(2) },
		"DehnStep":            func() []int { next, _ := impl.DehnStep(2, w); return next },
		"DehnStep at the end": func() []int { next, _ := impl.DehnStep(2, w[:7]); return next },
		"DehnStep 1":          func() []int { next, _ := impl.DehnStep(1, []int{1, 2, -1}); return next },
		"DehnWord":            func() []int { return impl.DehnWord(2, w) },
		"DehnWord, no step":   func() []int { return impl.DehnWord(2, short) },
		"HomologyOf 1":        func() []int { return impl.HomologyOf(1, short) },
		"HomologyOf 2":        func() []int { return impl.HomologyOf(2, w) },
	}
	for name, call := range calls {
		first, other := call(), call()
		want := listText(first)
		if want == "" {
			t.Fatalf("%s fails", name)
		}
		spoil([][]int{first})
		if listText(other) != want || listText(call()) != want {
			t.Errorf("%s = %v after a change of another result, want %s", name, other, want)
		}
		for again, f := range calls {
			result := f()
			text := listText(result)
			spoil([][]int{call()})
			if listText(result) != text {
				t.Errorf("%s = %v after a change of the result of %s, want %s", again, result, name, text)
			}
		}
	}
}
