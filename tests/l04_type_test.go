package tests

import (
	"math"
	"slices"
	"strconv"
	"strings"
	"testing"

	"loop.example/g03105/impl"
)

// surfaceNumbers are three numbers that make a surface or none: handles, crosscaps and borders.
func surfaceNumbers(handles int, crosscaps int, borders int) impl.Surface {
	return impl.Surface{Handles: handles, Crosscaps: crosscaps, Borders: borders}
}

// allSurfaces are all of them: 21 numbers of handles and 20 of crosscaps, each with 21 numbers of borders.
func allSurfaces() []impl.Surface {
	var list []impl.Surface
	for borders := 0; borders <= 20; borders++ {
		for handles := 0; handles <= 20; handles++ {
			list = append(list, surfaceNumbers(handles, 0, borders))
		}
		for crosscaps := 1; crosscaps <= 20; crosscaps++ {
			list = append(list, surfaceNumbers(0, crosscaps, borders))
		}
	}
	return list
}

// noSurfaces have a number that is too small or too great, or handles together with crosscaps.
func noSurfaces() []impl.Surface {
	list := []impl.Surface{
		surfaceNumbers(1, 1, 0), surfaceNumbers(20, 20, 20), surfaceNumbers(1, 20, 0), surfaceNumbers(20, 1, 0), surfaceNumbers(2, 3, 4),
		surfaceNumbers(-1, 1, 0), surfaceNumbers(1, -1, 0), surfaceNumbers(1, 0, -1), surfaceNumbers(0, 1, -1), surfaceNumbers(-1, -1, -1),
		surfaceNumbers(-1, 2, 0), surfaceNumbers(2, -4, 0), surfaceNumbers(20, -20, 0), surfaceNumbers(0, 21, 20), surfaceNumbers(21, 0, 20), surfaceNumbers(21, 21, 21),
		surfaceNumbers(math.MinInt64, math.MinInt64, math.MinInt64), surfaceNumbers(math.MaxInt64, math.MaxInt64, math.MaxInt64),
	}
	for _, n := range []int{-2, -1, 21, 22, 41, 256, -256, 1 << 32, math.MaxInt64, math.MinInt64, math.MinInt64 + 1} {
		list = append(list, surfaceNumbers(n, 0, 0), surfaceNumbers(0, n, 0), surfaceNumbers(0, 0, n))
		list = append(list, surfaceNumbers(n, 0, 1), surfaceNumbers(0, n, 1), surfaceNumbers(1, 0, n), surfaceNumbers(0, 1, n))
	}
	return list
}

func TestIsSurface(t *testing.T) {
	there := map[impl.Surface]bool{}
	for _, s := range allSurfaces() {
		there[s] = true
	}
	if len(there) != 41*21 {
		t.Fatalf("%d surfaces", len(there))
	}
	for handles := -2; handles <= 22; handles++ {
		for crosscaps := -2; crosscaps <= 22; crosscaps++ {
			for borders := -2; borders <= 22; borders++ {
				s := surfaceNumbers(handles, crosscaps, borders)
				if got := impl.IsSurface(s); got != there[s] {
					t.Errorf("IsSurface(%v) = %v", s, got)
				}
			}
		}
	}
	for _, s := range noSurfaces() {
		if impl.IsSurface(s) {
			t.Errorf("IsSurface(%v) = true", s)
		}
	}
}

func TestEulerNumber(t *testing.T) {
	cases := map[impl.Surface]int{
		{}:                        2,
		surfaceNumbers(0, 0, 1):   1,
		surfaceNumbers(0, 0, 2):   0,
		surfaceNumbers(0, 0, 3):   -1,
		surfaceNumbers(0, 0, 20):  -18,
		surfaceNumbers(1, 0, 0):   0,
		surfaceNumbers(1, 0, 1):   -1,
		surfaceNumbers(2, 0, 0):   -2,
		surfaceNumbers(2, 0, 1):   -3,
		surfaceNumbers(20, 0, 0):  -38,
		surfaceNumbers(20, 0, 20): -58,
		surfaceNumbers(0, 1, 0):   1,
		surfaceNumbers(0, 1, 1):   0,
		surfaceNumbers(0, 2, 0):   0,
		surfaceNumbers(0, 3, 5):   -6,
		surfaceNumbers(0, 20, 0):  -18,
		surfaceNumbers(0, 20, 20): -38,
	}
	for s, want := range cases {
		if got := impl.EulerNumber(s); got != want {
			t.Errorf("EulerNumber(%v) = %d, want %d", s, got, want)
		}
	}
	for _, s := range noSurfaces() {
		if got := impl.EulerNumber(s); got != -100 {
			t.Errorf("EulerNumber(%v) = %d, want -100", s, got)
		}
	}
}

// TestEulerNumberSteps counts from the sphere on, one handle, crosscap or border after the other.
func TestEulerNumberSteps(t *testing.T) {
	for _, s := range allSurfaces() {
		want := 2
		for range s.Handles {
			want -= 2
		}
		for range s.Crosscaps + s.Borders {
			want--
		}
		if got := impl.EulerNumber(s); got != want {
			t.Errorf("EulerNumber(%v) = %d, want %d", s, got, want)
		}
	}
}

// gluedSurfaces are what pictures of the gluings show.
var gluedSurfaces = map[string]impl.Surface{
	"aA": {}, "Aa": {}, "a A": {}, "a a": {}, "abBA": {}, "ab AB": {}, "abc abc": {}, "abc ACB": {}, "ab Bc Cd DA": {}, "abcdefghHGFEDCBA": {},
	"a": {Borders: 1}, "A": {Borders: 1}, "h": {Borders: 1}, "abcd": {Borders: 1}, "hGfEdCbA": {Borders: 1}, "abA": {Borders: 1}, "aAb": {Borders: 1}, "abc ade": {Borders: 1},
	"abAc": {Borders: 2}, "aBAc": {Borders: 2}, "abAcdC": {Borders: 2}, "abAcdCefE": {Borders: 3}, "abAcdCefEghG": {Borders: 4}, "ab ac": {Borders: 1}, "abAcde E": {Borders: 2},
	"abAB": {Handles: 1}, "aBAb": {Handles: 1}, "abcABC": {Handles: 1}, "abc ABC": {Handles: 1}, "abc Ade BDf CFE": {Handles: 1},
	"abABc": {Handles: 1, Borders: 1}, "abABcdC": {Handles: 1, Borders: 1}, "abABcdCefE": {Handles: 1, Borders: 2}, "acbAB": {Handles: 1, Borders: 1}, "acbdAeBf": {Handles: 1, Borders: 1}, "abABcd C": {Handles: 1, Borders: 1},
	"abABcdCD": {Handles: 2}, "abcdABCD": {Handles: 2}, "abABcdCDe": {Handles: 2, Borders: 1}, "abABcdCDefE": {Handles: 2, Borders: 1},
	"abABcdCDefEF": {Handles: 3}, "abABcdCDefEFghG": {Handles: 3, Borders: 1}, "abABcdCDefEFghGH": {Handles: 4}, sixteenSides: {Handles: 4},
	"aa": {Crosscaps: 1}, "AA": {Crosscaps: 1}, "abab": {Crosscaps: 1}, "aabB": {Crosscaps: 1}, "ab aB": {Crosscaps: 1}, "abC abc": {Crosscaps: 1}, "abcdefghabcdefgh": {Crosscaps: 1},
	"aab": {Crosscaps: 1, Borders: 1}, "abac": {Crosscaps: 1, Borders: 1}, "aabcB": {Crosscaps: 1, Borders: 1}, "abac Bde": {Crosscaps: 1, Borders: 1}, "aabcBdeD": {Crosscaps: 1, Borders: 2},
	"aabb": {Crosscaps: 2}, "abAb": {Crosscaps: 2}, "abAc dCbD": {Crosscaps: 2}, "aabbc": {Crosscaps: 2, Borders: 1}, "aabbcdCefE": {Crosscaps: 2, Borders: 2},
	"aabbcc": {Crosscaps: 3}, "aabcBC": {Crosscaps: 3}, "abABcc": {Crosscaps: 3}, "abABccd": {Crosscaps: 3, Borders: 1}, "abABcdCDee": {Crosscaps: 5}, "aabbccddeeffgghh": {Crosscaps: 8},
}

func TestSurfaceOf(t *testing.T) {
	for text, want := range gluedSurfaces {
		s, ok := impl.SurfaceOf(polygonsOf(text))
		if !ok || s != want {
			t.Errorf("SurfaceOf(%s) = %v, %v, want %v", text, s, ok, want)
		}
	}
	for _, text := range []string{"ab cd", "ab AB cd", "aa bB", "aA bB", "aa bb", "abAB cdCD", "abAB cd cd", "a b", "a b c d", "a b A B", "a b c aB", "aA bB cC dD", "ad bc A BCe", "a a b b"} {
		if s, ok := impl.SurfaceOf(polygonsOf(text)); ok || s != (impl.Surface{}) {
			t.Errorf("SurfaceOf(%s) = %v, %v, want none", text, s, ok)
		}
	}
	for _, g := range noGluings() {
		if s, ok := impl.SurfaceOf(g); ok || s != (impl.Surface{}) {
			t.Errorf("SurfaceOf(%v) = %v, %v, want none", g, s, ok)
		}
	}
}

// TestSurfaceOfByWalking counts the parts, vertices, borders and sides of the short gluings again.
func TestSurfaceOfByWalking(t *testing.T) {
	for _, g := range shortGluings() {
		s, ok := impl.SurfaceOf(g)
		parts, twoSided := spread(g)
		if ok != (parts == 1) || !ok && s != (impl.Surface{}) {
			t.Errorf("SurfaceOf(%s) = %v, %v with %d parts", textOf(g), s, ok, parts)
		}
		if !ok {
			continue
		}
		if !impl.IsSurface(s) || s.Borders != circlesAlong(g) || (s.Crosscaps == 0) != twoSided {
			t.Errorf("SurfaceOf(%s) = %v", textOf(g), s)
		}
		edges := 0
		for x := 1; x <= 8; x++ {
			edges += min(1, occurrences(slices.Concat(g...), x))
		}
		if euler := turnsAround(g) - edges + len(g); 2-2*s.Handles-s.Crosscaps-s.Borders != euler {
			t.Errorf("SurfaceOf(%s) = %v, but the Euler number is %d", textOf(g), s, euler)
		}
	}
}

func TestSurfaceName(t *testing.T) {
	cases := map[string]impl.Surface{
		"sphere":                    {},
		"sphere minus 1":            {Borders: 1},
		"sphere minus 2":            {Borders: 2},
		"sphere minus 20":           {Borders: 20},
		"torus":                     {Handles: 1},
		"torus minus 1":             {Handles: 1, Borders: 1},
		"torus minus 20":            {Handles: 1, Borders: 20},
		"double torus":              {Handles: 2},
		"double torus minus 10":     {Handles: 2, Borders: 10},
		"3 handles":                 {Handles: 3},
		"3 handles minus 2":         {Handles: 3, Borders: 2},
		"10 handles":                {Handles: 10},
		"20 handles":                {Handles: 20},
		"20 handles minus 20":       {Handles: 20, Borders: 20},
		"projective plane":          {Crosscaps: 1},
		"projective plane minus 1":  {Crosscaps: 1, Borders: 1},
		"projective plane minus 19": {Crosscaps: 1, Borders: 19},
		"klein bottle":              {Crosscaps: 2},
		"klein bottle minus 3":      {Crosscaps: 2, Borders: 3},
		"3 crosscaps":               {Crosscaps: 3},
		"3 crosscaps minus 1":       {Crosscaps: 3, Borders: 1},
		"10 crosscaps":              {Crosscaps: 10},
		"20 crosscaps":              {Crosscaps: 20},
		"20 crosscaps minus 20":     {Crosscaps: 20, Borders: 20},
	}
	for want, s := range cases {
		if got := impl.SurfaceName(s); got != want {
			t.Errorf("SurfaceName(%v) = %q, want %q", s, got, want)
		}
	}
	for _, s := range noSurfaces() {
		if got := impl.SurfaceName(s); got != "" {
			t.Errorf("SurfaceName(%v) = %q, want none", s, got)
		}
	}
}

// surfaceNamed reads a name, so that each name is shown to tell all of its surface.
func surfaceNamed(t *testing.T, name string) impl.Surface {
	t.Helper()
	first, last, minus := strings.Cut(name, " minus ")
	kinds := map[string]impl.Surface{
		"sphere": {}, "torus": {Handles: 1}, "double torus": {Handles: 2}, "projective plane": {Crosscaps: 1}, "klein bottle": {Crosscaps: 2},
	}
	s, there := kinds[first]
	if !there {
		number, kind, _ := strings.Cut(first, " ")
		n, err := strconv.Atoi(number)
		switch {
		case err == nil && kind == "handles" && n > 2:
			s.Handles = n
		case err == nil && kind == "crosscaps" && n > 2:
			s.Crosscaps = n
		default:
			t.Fatalf("no name: %q", name)
		}
	}
	if minus {
		n, err := strconv.Atoi(last)
		if err != nil || n < 1 {
			t.Fatalf("no name: %q", name)
		}
		s.Borders = n
	}
	return s
}

func TestSurfaceNameOfAll(t *testing.T) {
	for _, s := range allSurfaces() {
		if got := surfaceNamed(t, impl.SurfaceName(s)); got != s {
			t.Errorf("SurfaceName(%v) = %q", s, impl.SurfaceName(s))
		}
	}
}

func TestSumSurface(t *testing.T) {
	cases := [][3]impl.Surface{
		{{}, {}, {}},
		{{}, {Handles: 1}, {Handles: 1}},
		{{}, {Crosscaps: 1}, {Crosscaps: 1}},
		{{}, {Borders: 1}, {Borders: 1}},
		{{Borders: 1}, {Borders: 1}, {Borders: 2}},
		{{Handles: 1}, {Handles: 1}, {Handles: 2}},
		{{Handles: 2, Borders: 3}, {Handles: 3, Borders: 4}, {Handles: 5, Borders: 7}},
		{{Crosscaps: 1}, {Crosscaps: 1}, {Crosscaps: 2}},
		{{Crosscaps: 2, Borders: 1}, {Crosscaps: 5}, {Crosscaps: 7, Borders: 1}},
		{{Handles: 1}, {Crosscaps: 1}, {Crosscaps: 3}},
		{{Handles: 1, Borders: 2}, {Crosscaps: 2, Borders: 5}, {Crosscaps: 4, Borders: 7}},
		{{Handles: 4}, {Crosscaps: 3}, {Crosscaps: 11}},
		// just a surface
		{{Handles: 20}, {}, {Handles: 20}},
		{{Handles: 19}, {Handles: 1}, {Handles: 20}},
		{{Handles: 10}, {Handles: 10}, {Handles: 20}},
		{{Handles: 20, Borders: 20}, {}, {Handles: 20, Borders: 20}},
		{{Handles: 20, Borders: 19}, {Borders: 1}, {Handles: 20, Borders: 20}},
		{{Crosscaps: 19}, {Crosscaps: 1}, {Crosscaps: 20}},
		{{Crosscaps: 20, Borders: 12}, {Borders: 8}, {Crosscaps: 20, Borders: 20}},
		{{Handles: 9}, {Crosscaps: 2}, {Crosscaps: 20}},
		{{Handles: 1}, {Crosscaps: 18}, {Crosscaps: 20}},
		{{Borders: 20}, {}, {Borders: 20}},
	}
	for _, c := range cases {
		for _, pair := range [][2]impl.Surface{{c[0], c[1]}, {c[1], c[0]}} {
			if got, ok := impl.SumSurface(pair[0], pair[1]); !ok || got != c[2] {
				t.Errorf("SumSurface(%v, %v) = %v, %v, want %v", pair[0], pair[1], got, ok, c[2])
			}
		}
	}
}

func TestSumSurfaceRejects(t *testing.T) {
	pairs := [][2]impl.Surface{
		{{Handles: 20}, {Handles: 1}}, {{Handles: 11}, {Handles: 10}}, {{Handles: 20}, {Handles: 20}},
		{{Crosscaps: 20}, {Crosscaps: 1}}, {{Crosscaps: 11}, {Crosscaps: 10}}, {{Crosscaps: 20}, {Crosscaps: 20}},
		{{Handles: 10}, {Crosscaps: 1}}, {{Handles: 9}, {Crosscaps: 3}}, {{Handles: 1}, {Crosscaps: 19}}, {{Handles: 1}, {Crosscaps: 20}}, {{Handles: 20}, {Crosscaps: 20}},
		{{Borders: 20}, {Borders: 1}}, {{Borders: 11}, {Borders: 10}}, {{Handles: 1, Borders: 20}, {Crosscaps: 1, Borders: 1}}, {{Borders: 20}, {Borders: 20}},
	}
	for _, s := range noSurfaces() {
		for _, other := range []impl.Surface{{}, {Handles: 1}, {Crosscaps: 1}, {Borders: 1}, {Handles: 20}, {Borders: 2}, s} {
			pairs = append(pairs, [2]impl.Surface{s, other})
		}
	}
	// Numbers that would be fine when added.
	pairs = append(pairs, [2]impl.Surface{{Handles: 21}, {Handles: -1}}, [2]impl.Surface{{Handles: math.MaxInt64}, {Handles: math.MinInt64}},
		[2]impl.Surface{{Crosscaps: 22}, {Crosscaps: -2}}, [2]impl.Surface{{Borders: math.MinInt64}, {Borders: math.MinInt64}}, [2]impl.Surface{{Handles: 1, Crosscaps: 1}, {Handles: 1, Crosscaps: 1}})
	for _, p := range pairs {
		for _, pair := range [][2]impl.Surface{{p[0], p[1]}, {p[1], p[0]}} {
			if got, ok := impl.SumSurface(pair[0], pair[1]); ok || got != (impl.Surface{}) {
				t.Errorf("SumSurface(%v, %v) = %v, %v, want none", pair[0], pair[1], got, ok)
			}
		}
	}
}

// TestSumSurfaceOfAll finds the sums of all pairs again by their Euler numbers, together less 2 for the two discs that the sum takes away, and their sides.
func TestSumSurfaceOfAll(t *testing.T) {
	all := allSurfaces()
	there := map[impl.Surface]bool{}
	for _, s := range all {
		there[s] = true
	}
	for _, a := range all {
		for _, b := range all {
			euler := 2 - 2*(a.Handles+b.Handles) - a.Crosscaps - b.Crosscaps - a.Borders - b.Borders
			want := impl.Surface{Borders: a.Borders + b.Borders}
			rest := 2 - euler - want.Borders
			if a.Crosscaps > 0 || b.Crosscaps > 0 {
				want.Crosscaps = rest
			} else {
				want.Handles = rest / 2
			}
			ok := there[want]
			if !ok {
				want = impl.Surface{}
			}
			if got, gotOk := impl.SumSurface(a, b); gotOk != ok || got != want {
				t.Fatalf("SumSurface(%v, %v) = %v, %v, want %v, %v", a, b, got, gotOk, want, ok)
			}
		}
	}
}

func TestCapBorder(t *testing.T) {
	for _, s := range allSurfaces() {
		got, ok := impl.CapBorder(s)
		if s.Borders == 0 {
			if ok || got != (impl.Surface{}) {
				t.Errorf("CapBorder(%v) = %v, %v, want none", s, got, ok)
			}
			continue
		}
		if want := surfaceNumbers(s.Handles, s.Crosscaps, s.Borders-1); !ok || got != want {
			t.Errorf("CapBorder(%v) = %v, %v, want %v", s, got, ok, want)
		}
	}
	for _, s := range noSurfaces() {
		if got, ok := impl.CapBorder(s); ok || got != (impl.Surface{}) {
			t.Errorf("CapBorder(%v) = %v, %v, want none", s, got, ok)
		}
	}
}

// checkWith expects, of all surfaces, what want says of their numbers, as long as that is a surface.
func checkWith(t *testing.T, name string, f func(impl.Surface) (impl.Surface, bool), want func(impl.Surface) impl.Surface) {
	t.Helper()
	there := map[impl.Surface]bool{}
	for _, s := range allSurfaces() {
		there[s] = true
	}
	for _, s := range slices.Concat(allSurfaces(), noSurfaces()) {
		next, ok := want(s), there[s] && there[want(s)]
		if !ok {
			next = impl.Surface{}
		}
		if got, gotOk := f(s); gotOk != ok || got != next {
			t.Errorf("%s(%v) = %v, %v, want %v, %v", name, s, got, gotOk, next, ok)
		}
	}
}

func TestWithHandle(t *testing.T) {
	checkWith(t, "WithHandle", impl.WithHandle, func(s impl.Surface) impl.Surface {
		if s.Crosscaps > 0 {
			return surfaceNumbers(0, s.Crosscaps+2, s.Borders)
		}
		return surfaceNumbers(s.Handles+1, 0, s.Borders)
	})
}

func TestWithCrosscap(t *testing.T) {
	checkWith(t, "WithCrosscap", impl.WithCrosscap, func(s impl.Surface) impl.Surface {
		return surfaceNumbers(0, 2*s.Handles+s.Crosscaps+1, s.Borders)
	})
}

func TestWithBorder(t *testing.T) {
	checkWith(t, "WithBorder", impl.WithBorder, func(s impl.Surface) impl.Surface {
		return surfaceNumbers(s.Handles, s.Crosscaps, s.Borders+1)
	})
}

func TestWithCases(t *testing.T) {
	steps := map[string]func(impl.Surface) (impl.Surface, bool){"h": impl.WithHandle, "c": impl.WithCrosscap, "b": impl.WithBorder, "-": impl.CapBorder}
	cases := map[string]string{
		"": "sphere", "h": "torus", "hh": "double torus", "hhh": "3 handles", "c": "projective plane", "cc": "klein bottle", "ccc": "3 crosscaps",
		"hc": "3 crosscaps", "ch": "3 crosscaps", "hhc": "5 crosscaps", "chh": "5 crosscaps", "b": "sphere minus 1", "bb": "sphere minus 2", "hbb-": "torus minus 1", "bcb": "projective plane minus 2", "b-": "sphere",
		"hhhhhhhhhc": "19 crosscaps", "hhhhhhhhhcc": "20 crosscaps", "cchhhhhhhhh": "20 crosscaps",
		"-": "none", "bb---": "none", "hhhhhhhhhhc": "none", "hhhhhhhhhccc": "none", "hhhhhhhhhcch": "none",
		"hhhhhhhhhhhhhhhhhhhh": "20 handles", "hhhhhhhhhhhhhhhhhhhhh": "none", "cccccccccccccccccccc": "20 crosscaps", "ccccccccccccccccccccc": "none", "ccccccccccccccccccch": "none", "cccccccccccccccccch": "20 crosscaps",
		"bbbbbbbbbbbbbbbbbbbb": "sphere minus 20", "bbbbbbbbbbbbbbbbbbbbb": "none",
	}
	for text, want := range cases {
		s, ok := impl.Surface{}, true
		for _, r := range text {
			if ok {
				s, ok = steps[string(r)](s)
			}
		}
		got := impl.SurfaceName(s)
		if !ok {
			got = "none"
		}
		if got != want || !ok && s != (impl.Surface{}) {
			t.Errorf("%q makes %q, %v, want %q", text, got, s, want)
		}
	}
}

func TestStandardGluing(t *testing.T) {
	cases := map[string]impl.Surface{
		"aA":               {},
		"abA":              {Borders: 1},
		"abAcdC":           {Borders: 2},
		"abAcdCefE":        {Borders: 3},
		"abAcdCefEghG":     {Borders: 4},
		"abAB":             {Handles: 1},
		"abABcdC":          {Handles: 1, Borders: 1},
		"abABcdCefEghG":    {Handles: 1, Borders: 3},
		"abABcdCD":         {Handles: 2},
		"abABcdCDefEghG":   {Handles: 2, Borders: 2},
		"abABcdCDefEF":     {Handles: 3},
		"abABcdCDefEFghG":  {Handles: 3, Borders: 1},
		"abABcdCDefEFghGH": {Handles: 4},
		"aa":               {Crosscaps: 1},
		"aabcB":            {Crosscaps: 1, Borders: 1},
		"aabcBdeDfgF":      {Crosscaps: 1, Borders: 3},
		"aabb":             {Crosscaps: 2},
		"aabbcdCefEghG":    {Crosscaps: 2, Borders: 3},
		"aabbccdeDfgF":     {Crosscaps: 3, Borders: 2},
		"aabbccddeeffghG":  {Crosscaps: 6, Borders: 1},
		"aabbccddeeffgg":   {Crosscaps: 7},
		"aabbccddeeffgghh": {Crosscaps: 8},
	}
	for want, s := range cases {
		g, ok := impl.StandardGluing(s)
		if !ok || textOf(g) != want {
			t.Errorf("StandardGluing(%v) = %v, %v, want %s", s, g, ok, want)
		}
	}
	tooMany := []impl.Surface{
		{Borders: 5}, {Handles: 5}, {Crosscaps: 9}, {Handles: 4, Borders: 1}, {Handles: 3, Borders: 2}, {Handles: 1, Borders: 4},
		{Crosscaps: 7, Borders: 1}, {Crosscaps: 1, Borders: 4}, {Crosscaps: 8, Borders: 1}, {Handles: 20}, {Crosscaps: 20}, {Borders: 20}, {Handles: 20, Borders: 20}, {Crosscaps: 20, Borders: 20},
	}
	for _, s := range append(tooMany, noSurfaces()...) {
		if g, ok := impl.StandardGluing(s); ok || len(g) != 0 {
			t.Errorf("StandardGluing(%v) = %v, %v, want none", s, g, ok)
		}
	}
}

// TestStandardGluingOfAll glues each surface for which the letters are enough and looks at what came out.
func TestStandardGluingOfAll(t *testing.T) {
	made := 0
	for _, s := range allSurfaces() {
		g, ok := impl.StandardGluing(s)
		if letters := 2*s.Handles + s.Crosscaps + 2*s.Borders; ok != (letters <= 8) {
			t.Errorf("StandardGluing(%v) of %d letters: %v", s, letters, ok)
		}
		if !ok {
			continue
		}
		made++
		if !impl.IsGluing(g) || len(g) != 1 || impl.EulerOf(g) != impl.EulerNumber(s) {
			t.Errorf("StandardGluing(%v) = %v", s, g)
		}
		if back, ok := impl.SurfaceOf(g); !ok || back != s {
			t.Errorf("SurfaceOf the standard gluing of %v = %v, %v", s, back, ok)
		}
		newest := 0
		for _, x := range g[0] {
			if x > newest+1 {
				t.Errorf("StandardGluing(%v) = %v leaves out a letter", s, g)
			}
			newest = max(newest, x)
		}
	}
	if made != 15+20 {
		t.Errorf("%d standard gluings", made)
	}
}

// TestSurfacesAreNew changes and prolongs the gluings, and looks at the arguments with their unused capacity.
func TestSurfacesAreNew(t *testing.T) {
	for _, s := range []impl.Surface{{}, {Handles: 1, Borders: 1}, {Crosscaps: 3}} {
		g, _ := impl.StandardGluing(s)
		want := textOf(g)
		for i := range g[0] {
			g[0][i] = 9
		}
		_ = append(g[0], 9, 9)
		_ = append(g, []int{9})
		if again, ok := impl.StandardGluing(s); !ok || textOf(again) != want {
			t.Errorf("StandardGluing(%v) = %v after a change of its last result", s, again)
		}
	}
	whole := [][]int{{1, 2, -1, 3, 7}, {4, -3, 2, -4, 8}, {5}}
	g := [][]int{whole[0][:4], whole[1][:4], whole[2]}[:2]
	if s, ok := impl.SurfaceOf(g); !ok || s != (impl.Surface{Crosscaps: 2}) {
		t.Errorf("SurfaceOf(%v) = %v, %v", g, s, ok)
	}
	if !sameLists(whole, [][]int{{1, 2, -1, 3, 7}, {4, -3, 2, -4, 8}, {5}}) || !sameLists(g[:3], [][]int{{1, 2, -1, 3}, {4, -3, 2, -4}, {5}}) {
		t.Errorf("SurfaceOf changed its argument to %v, %v", whole, g[:3])
	}
}
