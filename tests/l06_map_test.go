package tests

import (
	"math"
	"slices"
	"strings"
	"testing"

	"loop.example/g03105/impl"
)

// listText writes numbers with commas between them, apart from the program's reports.
func listText(list []int) string {
	var parts []string
	for _, x := range list {
		parts = append(parts, decimal(x))
	}
	return strings.Join(parts, ",")
}

func listsText(lists [][]int) string {
	var parts []string
	for _, list := range lists {
		parts = append(parts, listText(list))
	}
	return strings.Join(parts, " ")
}

// inOrder lets each cycle begin with its least number and orders the cycles by these.
func inOrder(cycles [][]int) [][]int {
	var ordered [][]int
	for _, cycle := range cycles {
		at := slices.Index(cycle, slices.Min(cycle))
		ordered = append(ordered, slices.Concat(cycle[at:], cycle[:at]))
	}
	slices.SortFunc(ordered, slices.Compare)
	return ordered
}

// mapOfCycles lets each dart be followed by the next one in its cycle.
func mapOfCycles(cycles [][]int) []int {
	m := make([]int, len(slices.Concat(cycles...)))
	for _, cycle := range cycles {
		for i, d := range cycle {
			m[d] = cycle[(i+1)%len(cycle)]
		}
	}
	return m
}

// identityMap has each dart at a vertex of its own.
func identityMap(n int) []int {
	m := make([]int, n)
	for d := range m {
		m[d] = d
	}
	return m
}

// mapsOf returns all maps with n darts.
func mapsOf(n int) [][]int {
	maps := [][]int{nil}
	for len(maps[0]) < n {
		var longer [][]int
		for _, m := range maps {
			for d := range n {
				if !slices.Contains(m, d) {
					longer = append(longer, append(slices.Clone(m), d))
				}
			}
		}
		maps = longer
	}
	return maps
}

// stirredMap exchanges the numbers of a map by a rule that hardly repeats itself.
func stirredMap(n int, k int) []int {
	m := identityMap(n)
	state := uint32(97*n + k)
	for i := n - 1; i > 0; i-- {
		state = state*1664525 + 1013904223
		j := int(state>>8) % (i + 1)
		m[i], m[j] = m[j], m[i]
	}
	return m
}

// sideBySide puts the darts of b behind those of a.
func sideBySide(a []int, b []int) []int {
	both := slices.Clone(a)
	for _, d := range b {
		both = append(both, d+len(a))
	}
	return both
}

// manyMaps are all maps of up to 6 darts, those of the cases, and others up to MaxDarts.
func manyMaps() [][]int {
	maps := slices.Concat(mapsOf(2), mapsOf(4), mapsOf(6))
	for _, c := range mapCases {
		maps = append(maps, mapOfCycles(c.vertices))
	}
	for n := 8; n <= 24; n += 2 {
		maps = append(maps, identityMap(n))
		for k := range 12 {
			maps = append(maps, stirredMap(n, k))
		}
	}
	for n := 2; n <= 8; n += 2 {
		for k := range 3 {
			apart := sideBySide(stirredMap(n, k), sideBySide(stirredMap(8, k), stirredMap(10-n, k)))
			maps = append(maps, apart)
		}
	}
	return maps
}

// mapCases have the vertices as a picture of each map shows them, and what can be counted in it.
var mapCases = []struct {
	name                string
	vertices            [][]int
	faces, parts, genus int
}{
	{"one edge", [][]int{{0}, {1}}, 1, 1, 0},
	{"one loop", [][]int{{0, 1}}, 2, 1, 0},
	{"two edges apart", [][]int{{0}, {1}, {2}, {3}}, 2, 2, 0},
	{"two loops apart", [][]int{{0, 1}, {2, 3}}, 4, 2, 0},
	{"an edge and a loop apart", [][]int{{0}, {1}, {2, 3}}, 3, 2, 0},
	{"a path", [][]int{{0}, {1, 2}, {3}}, 1, 1, 0},
	{"two edges between two vertices", [][]int{{0, 2}, {1, 3}}, 2, 1, 0},
	{"a loop at an edge", [][]int{{0, 1, 2}, {3}}, 2, 1, 0},
	{"two loops side by side", [][]int{{0, 1, 2, 3}}, 3, 1, 0},
	{"two loops that cross", [][]int{{0, 2, 1, 3}}, 1, 1, 1},
	{"three edges between two vertices", [][]int{{0, 2, 4}, {1, 5, 3}}, 3, 1, 0},
	{"three edges between two vertices of a torus", [][]int{{0, 2, 4}, {1, 3, 5}}, 1, 1, 1},
	{"a star", [][]int{{0, 2, 4}, {1}, {3}, {5}}, 1, 1, 0},
	{"a triangle", [][]int{{0, 5}, {1, 2}, {3, 4}}, 2, 1, 0},
	{"three loops that cross on a torus", [][]int{{0, 2, 4, 1, 3, 5}}, 2, 1, 1},
	{"a double torus of one face", [][]int{{0, 2, 1, 3, 4, 6, 5, 7}}, 1, 1, 2},
	{"a torus, an edge and a loop", [][]int{{0, 2, 1, 3}, {4}, {5}, {6, 7}}, 4, 3, 1},
	{"two tori", [][]int{{0, 2, 1, 3}, {4, 6, 5, 7}}, 2, 2, 2},
	{"a tetrahedron", [][]int{{0, 4, 2}, {1, 6, 8}, {3, 10, 7}, {5, 9, 11}}, 4, 1, 0},
	{"a cube", [][]int{{0, 7, 16}, {1, 18, 2}, {3, 20, 4}, {5, 22, 6}, {8, 17, 15}, {9, 10, 19}, {11, 12, 21}, {13, 14, 23}}, 6, 1, 0},
	{"six tori at one vertex", [][]int{{0, 2, 1, 3, 4, 6, 5, 7, 8, 10, 9, 11, 12, 14, 13, 15, 16, 18, 17, 19, 20, 22, 21, 23}}, 1, 1, 6},
	{"twelve loops side by side", [][]int{{0, 1, 2, 3, 4, 5, 6, 7, 8, 9, 10, 11, 12, 13, 14, 15, 16, 17, 18, 19, 20, 21, 22, 23}}, 13, 1, 0},
	{"twelve edges between two vertices", [][]int{{0, 2, 4, 6, 8, 10, 12, 14, 16, 18, 20, 22}, {1, 23, 21, 19, 17, 15, 13, 11, 9, 7, 5, 3}}, 12, 1, 0},
	{"six tori apart", [][]int{{0, 2, 1, 3}, {4, 6, 5, 7}, {8, 10, 9, 11}, {12, 14, 13, 15}, {16, 18, 17, 19}, {20, 22, 21, 23}}, 6, 6, 6},
}

// farNumbers are no darts and no edges of any map; twice some of them, or their last bits, are.
var farNumbers = []int{math.MinInt64, math.MinInt64 + 1, math.MinInt64 + 2, -1 << 62, -1 << 32, -256, -25, -24, -12, -3, -2, -1, 24, 25, 26, 255, 256, 1 << 16, 1 << 32, 1<<32 + 1, 1 << 62, math.MaxInt64 - 1, math.MaxInt64}

// noMaps are lists that are no maps.
func noMaps() [][]int {
	lists := [][]int{
		nil, {}, {0}, {1}, {0, 1, 2}, {2, 0, 1}, {0, 1, 2, 3, 4}, identityMap(23), identityMap(25), identityMap(26), identityMap(27), identityMap(28), identityMap(1000),
		{0, 0}, {1, 1}, {0, 1, 2, 2}, {3, 2, 1, 1}, {0, 0, 2, 3}, {1, 1, 1, 1}, {0, 0, 1, 1}, {5, 4, 3, 2, 1, 5}, slices.Repeat([]int{0}, 24),
		{0, 2}, {2, 1}, {1, 2}, {2, 3}, {0, 1, 2, 4}, {4, 3, 2, 1}, {4, 5, 6, 7}, {0, 1, 3, 9},
		{-1, 0}, {0, -1}, {-1, 1}, {-1, -2}, {0, -1, -2, -3}, {0, 1, 2, -3}, {-1, 0, 1, 2},
	}
	for _, far := range farNumbers {
		lists = append(lists, []int{0, far}, []int{far, 1}, []int{far, far}, []int{1, 0, 3, far}, []int{far, 1, 2, 3})
		lists = append(lists, append(identityMap(23), far))
	}
	twice := identityMap(24)
	twice[23] = 0
	lists = append(lists, twice, append(identityMap(24), 24, 25), append(identityMap(22), 24, 25))
	return lists
}

func TestIsMap(t *testing.T) {
	if impl.MaxDarts != 24 {
		t.Errorf("MaxDarts is %d", impl.MaxDarts)
	}
	for _, m := range manyMaps() {
		if !impl.IsMap(m) {
			t.Errorf("IsMap(%v) = false", m)
		}
	}
	for _, m := range noMaps() {
		if impl.IsMap(m) {
			t.Errorf("IsMap(%v) = true", m)
		}
	}
	for n := range 60 {
		want := n%2 == 0 && 2 <= n && n <= 24
		if got := impl.IsMap(identityMap(n)); got != want {
			t.Errorf("IsMap of %d darts = %v", n, got)
		}
	}
}

// TestIsMapOfShortLists goes through all lists of up to 4 numbers from -1 to 4.
func TestIsMapOfShortLists(t *testing.T) {
	maps := 0
	lists := [][]int{nil}
	for i := 0; i < len(lists); i++ {
		list := lists[i]
		if len(list) < 4 {
			for x := -1; x <= 4; x++ {
				lists = append(lists, append(slices.Clone(list), x))
			}
		}
		sorted := slices.Sorted(slices.Values(list))
		want := (len(list) == 2 || len(list) == 4) && slices.Equal(sorted, identityMap(len(list)))
		if got := impl.IsMap(list); got != want {
			t.Errorf("IsMap(%v) = %v", list, got)
		}
		if want {
			maps++
		}
	}
	if maps != 2+24 {
		t.Errorf("%d maps", maps)
	}
}

func TestMapCases(t *testing.T) {
	for _, c := range mapCases {
		m := mapOfCycles(c.vertices)
		if !impl.IsMap(m) {
			t.Errorf("%s: %v is no map", c.name, m)
		}
		if got := impl.CyclesOf(m); !sameLists(got, c.vertices) {
			t.Errorf("%s: CyclesOf = %v, want %v", c.name, got, c.vertices)
		}
		if got := impl.FacesOf(m); len(got) != c.faces {
			t.Errorf("%s: FacesOf = %v, want %d", c.name, got, c.faces)
		}
		if got := impl.MapParts(m); got != c.parts {
			t.Errorf("%s: MapParts = %d, want %d", c.name, got, c.parts)
		}
		if got := impl.GenusOf(m); got != c.genus {
			t.Errorf("%s: GenusOf = %d, want %d", c.name, got, c.genus)
		}
	}
}

// TestMapTexts has the lists of a few maps, written out by hand.
func TestMapTexts(t *testing.T) {
	cases := []struct {
		m                             []int
		vertices, faces, dual, mirror string
	}{
		{[]int{0, 1}, "0 1", "0,1", "1,0", "0,1"},
		{[]int{1, 0}, "0,1", "0 1", "0,1", "1,0"},
		{[]int{0, 1, 2, 3}, "0 1 2 3", "0,1 2,3", "1,0,3,2", "0,1,2,3"},
		{[]int{1, 0, 3, 2}, "0,1 2,3", "0 1 2 3", "0,1,2,3", "1,0,3,2"},
		{[]int{0, 2, 1, 3}, "0 1,2 3", "0,2,3,1", "2,0,3,1", "0,2,1,3"},
		{[]int{1, 2, 3, 0}, "0,1,2,3", "0,2 1 3", "2,1,0,3", "3,0,1,2"},
		{[]int{2, 3, 1, 0}, "0,2,1,3", "0,3,1,2", "3,2,0,1", "3,2,0,1"},
		{[]int{3, 2, 0, 1}, "0,3,1,2", "0,2,1,3", "2,3,1,0", "2,3,1,0"},
		{[]int{3, 1, 0, 2}, "0,3,2 1", "0,1,3 2", "1,3,2,0", "2,1,3,0"},
		{[]int{2, 5, 4, 1, 0, 3}, "0,2,4 1,5,3", "0,5 1,2 3,4", "5,2,1,4,3,0", "4,3,0,5,2,1"},
		{[]int{2, 3, 4, 5, 0, 1}, "0,2,4 1,3,5", "0,3,4,1,2,5", "3,2,5,4,1,0", "4,5,0,1,2,3"},
		{[]int{5, 2, 1, 4, 3, 0}, "0,5 1,2 3,4", "0,2,4 1,5,3", "2,5,4,1,0,3", "5,2,1,4,3,0"},
	}
	for _, c := range cases {
		if got := listsText(impl.CyclesOf(c.m)); got != c.vertices {
			t.Errorf("CyclesOf(%v) = %s, want %s", c.m, got, c.vertices)
		}
		if got := listsText(impl.FacesOf(c.m)); got != c.faces {
			t.Errorf("FacesOf(%v) = %s, want %s", c.m, got, c.faces)
		}
		if got := listText(impl.DualMap(c.m)); got != c.dual {
			t.Errorf("DualMap(%v) = %s, want %s", c.m, got, c.dual)
		}
		if got := listText(impl.MirrorMap(c.m)); got != c.mirror {
			t.Errorf("MirrorMap(%v) = %s, want %s", c.m, got, c.mirror)
		}
	}
}

// mateBy looks up the mate in a table, apart from the program's way to find it.
func mateBy(d int) int {
	if d%2 == 0 {
		return d + 1
	}
	return d - 1
}

// checkCycles expects each of n darts once, in cycles along follow that begin with their least darts and are ordered by these.
func checkCycles(t *testing.T, name string, m []int, cycles [][]int, follow func(d int) int) {
	t.Helper()
	all := slices.Sorted(slices.Values(slices.Concat(cycles...)))
	if !slices.Equal(all, identityMap(len(m))) {
		t.Errorf("%s of %v = %v has not each dart once", name, m, cycles)
	}
	if !sameLists(cycles, inOrder(cycles)) {
		t.Errorf("%s of %v = %v is out of order", name, m, cycles)
	}
	for _, cycle := range cycles {
		for i, d := range cycle {
			if next := cycle[(i+1)%len(cycle)]; follow(d) != next {
				t.Errorf("%s of %v = %v: %d is not followed by %d", name, m, cycles, d, next)
			}
		}
	}
}

func TestCyclesOfAll(t *testing.T) {
	for _, m := range manyMaps() {
		cycles := impl.CyclesOf(m)
		checkCycles(t, "CyclesOf", m, cycles, func(d int) int { return m[d] })
		if back := mapOfCycles(cycles); !slices.Equal(back, m) {
			t.Errorf("CyclesOf(%v) = %v", m, cycles)
		}
	}
}

func TestFacesOfAll(t *testing.T) {
	for _, m := range manyMaps() {
		checkCycles(t, "FacesOf", m, impl.FacesOf(m), func(d int) int { return m[mateBy(d)] })
	}
}

// mapKind is what a dual and a mirror keep.
type mapKind struct{ genus, parts, darts int }

func mapKindOf(m []int) mapKind { return mapKind{impl.GenusOf(m), impl.MapParts(m), len(m)} }

func TestDualMapOfAll(t *testing.T) {
	for _, m := range manyMaps() {
		dual := impl.DualMap(m)
		for d := range m {
			if len(dual) != len(m) || dual[d] != m[mateBy(d)] {
				t.Fatalf("DualMap(%v) = %v", m, dual)
			}
		}
		if !impl.IsMap(dual) || mapKindOf(dual) != mapKindOf(m) {
			t.Errorf("DualMap(%v) = %v is %v, not %v", m, dual, mapKindOf(dual), mapKindOf(m))
		}
		if back := impl.DualMap(dual); !slices.Equal(back, m) {
			t.Errorf("DualMap twice of %v = %v", m, back)
		}
		if !sameLists(impl.CyclesOf(dual), impl.FacesOf(m)) || !sameLists(impl.FacesOf(dual), impl.CyclesOf(m)) {
			t.Errorf("DualMap(%v) has the vertices %v and the faces %v", m, impl.CyclesOf(dual), impl.FacesOf(dual))
		}
	}
}

func TestMirrorMapOfAll(t *testing.T) {
	for _, m := range manyMaps() {
		mirror := impl.MirrorMap(m)
		for d := range m {
			if len(mirror) != len(m) || mirror[m[d]] != d {
				t.Fatalf("MirrorMap(%v) = %v", m, mirror)
			}
		}
		if !impl.IsMap(mirror) || mapKindOf(mirror) != mapKindOf(m) {
			t.Errorf("MirrorMap(%v) = %v is %v, not %v", m, mirror, mapKindOf(mirror), mapKindOf(m))
		}
		if back := impl.MirrorMap(mirror); !slices.Equal(back, m) {
			t.Errorf("MirrorMap twice of %v = %v", m, back)
		}
		if len(impl.FacesOf(mirror)) != len(impl.FacesOf(m)) {
			t.Errorf("MirrorMap(%v) has the faces %v", m, impl.FacesOf(mirror))
		}
		var backwards [][]int
		for _, cycle := range impl.CyclesOf(m) {
			slices.Reverse(cycle)
			backwards = append(backwards, cycle)
		}
		if got := impl.CyclesOf(mirror); !sameLists(got, inOrder(backwards)) {
			t.Errorf("MirrorMap(%v) has the vertices %v", m, got)
		}
	}
}

// partsByWalking visits darts from mate to mate and around the vertices, and counts how often it had to begin.
func partsByWalking(m []int) int {
	seen := map[int]bool{}
	var visit func(d int)
	visit = func(d int) {
		if !seen[d] {
			seen[d] = true
			visit(m[d])
			visit(mateBy(d))
		}
	}
	parts := 0
	for d := range m {
		if !seen[d] {
			parts++
			visit(d)
		}
	}
	return parts
}

func TestMapPartsOfAll(t *testing.T) {
	for _, m := range manyMaps() {
		if got, want := impl.MapParts(m), partsByWalking(m); got != want {
			t.Errorf("MapParts(%v) = %d, want %d", m, got, want)
		}
	}
}

// TestGenusOfGluedFaces glues the faces, as polygons, along the edges, and looks at the surface.
func TestGenusOfGluedFaces(t *testing.T) {
	glued := 0
	for _, m := range manyMaps() {
		var g [][]int
		for _, face := range impl.FacesOf(m) {
			var polygon []int
			for _, d := range face {
				polygon = append(polygon, (d/2+1)*(1-d%2*2))
			}
			g = append(g, polygon)
		}
		s, ok := impl.SurfaceOf(g)
		if !ok {
			continue
		}
		glued++
		if got := impl.GenusOf(m); s != (impl.Surface{Handles: got}) {
			t.Errorf("GenusOf(%v) = %d, but the faces make %v", m, got, s)
		}
		if vertices := impl.CyclesOf(m); impl.CountVertices(g) != len(vertices) {
			t.Errorf("CyclesOf(%v) = %v, but the faces have %d vertices", m, vertices, impl.CountVertices(g))
		}
	}
	if glued < 500 {
		t.Errorf("%d maps glued", glued)
	}
}

// TestGenusOfAll counts by the Euler number.
func TestGenusOfAll(t *testing.T) {
	greatest := 0
	for _, m := range manyMaps() {
		genus := impl.GenusOf(m)
		euler := len(impl.CyclesOf(m)) - len(m)/2 + len(impl.FacesOf(m))
		if genus < 0 || 2*partsByWalking(m)-2*genus != euler {
			t.Errorf("GenusOf(%v) = %d with the Euler number %d", m, genus, euler)
		}
		greatest = max(greatest, genus)
	}
	if greatest != 6 {
		t.Errorf("greatest genus %d", greatest)
	}
}

func TestMapsSideBySide(t *testing.T) {
	maps := slices.Concat(mapsOf(2), mapsOf(4), [][]int{stirredMap(10, 1), stirredMap(12, 2), stirredMap(12, 3)})
	for _, a := range maps {
		for _, b := range maps {
			both := mapKindOf(sideBySide(a, b))
			if both.parts != impl.MapParts(a)+impl.MapParts(b) || both.genus != impl.GenusOf(a)+impl.GenusOf(b) {
				t.Errorf("%v beside %v is %v", a, b, both)
			}
		}
	}
}

// The functions below change cycles of darts, apart from the program's lists, so that they are a second opinion.

func droppedCycles(cycles [][]int, e int) [][]int {
	var dropped [][]int
	for _, cycle := range cycles {
		var rest []int
		for _, d := range cycle {
			switch {
			case d < 2*e:
				rest = append(rest, d)
			case d > 2*e+1:
				rest = append(rest, d-2)
			}
		}
		if len(rest) > 0 {
			dropped = append(dropped, rest)
		}
	}
	return inOrder(dropped)
}

// followedCycles inserts darts behind another one.
func followedCycles(cycles [][]int, a int, darts ...int) [][]int {
	var followed [][]int
	for _, cycle := range cycles {
		if at := slices.Index(cycle, a); at >= 0 {
			cycle = slices.Concat(cycle[:at+1], darts, cycle[at+1:])
		}
		followed = append(followed, cycle)
	}
	return inOrder(followed)
}

func addedCycles(cycles [][]int, n int, a int, b int) [][]int {
	if a == b {
		return followedCycles(cycles, a, n, n+1)
	}
	return followedCycles(followedCycles(cycles, a, n), b, n+1)
}

func subdividedCycles(cycles [][]int, n int, e int) [][]int {
	subdivided := [][]int{{2*e + 1, n}}
	for _, cycle := range cycles {
		changed := slices.Clone(cycle)
		if at := slices.Index(cycle, 2*e+1); at >= 0 {
			changed[at] = n + 1
		}
		subdivided = append(subdivided, changed)
	}
	return inOrder(subdivided)
}

// checkMap expects the map of the cycles, or no result if there are none.
func checkMap(t *testing.T, name string, m []int, got []int, ok bool, want [][]int) {
	t.Helper()
	if want == nil {
		if ok || len(got) != 0 {
			t.Errorf("%s of %v = %v, %v, want none", name, m, got, ok)
		}
		return
	}
	if !ok || !slices.Equal(got, mapOfCycles(want)) || !impl.IsMap(got) {
		t.Errorf("%s of %v = %v, %v, want the vertices %v", name, m, got, ok, want)
	}
}

func TestDropEdgeCases(t *testing.T) {
	cases := []struct {
		name string
		m    []int
		e    int
		want string
	}{
		{"the only edge", []int{0, 1}, 0, "none"},
		{"the only edge, a loop", []int{1, 0}, 0, "none"},
		{"a loop at an edge", []int{1, 2, 0, 3}, 0, "0 1"},
		{"the edge at a loop", []int{1, 2, 0, 3}, 1, "0,1"},
		{"the edge at a loop, numbered first", []int{3, 1, 0, 2}, 0, "0,1"},
		{"a loop that crosses another one", []int{2, 3, 1, 0}, 0, "0,1"},
		{"the other loop that crosses", []int{2, 3, 1, 0}, 1, "0,1"},
		{"a loop beside another one", []int{1, 2, 3, 0}, 0, "0,1"},
		{"the other loop beside", []int{1, 2, 3, 0}, 1, "0,1"},
		{"a loop alone", []int{1, 0, 3, 2}, 1, "0,1"},
		{"a loop alone beside an edge", []int{1, 0, 2, 3}, 0, "0 1"},
		{"an edge alone", []int{0, 1, 3, 2}, 0, "0,1"},
		{"an edge of two", []int{0, 1, 2, 3}, 1, "0 1"},
		{"an end of a path", []int{0, 2, 1, 3}, 0, "0 1"},
		{"the other end of a path", []int{0, 2, 1, 3}, 1, "0 1"},
		{"the middle of a path", []int{0, 2, 1, 4, 3, 5}, 1, "0 1 2 3"},
		{"a side of a triangle", []int{5, 2, 1, 4, 3, 0}, 1, "0,3 1 2"},
		{"the first of three edges", []int{2, 5, 4, 1, 0, 3}, 0, "0,2 1,3"},
		{"a loop in which an edge ends", []int{2, 0, 1, 3}, 0, "0 1"},
		{"a loop around a loop", []int{2, 0, 3, 1}, 0, "0,1"},
		{"a loop in a loop", []int{2, 0, 3, 1}, 1, "0,1"},
	}
	for _, c := range cases {
		got, ok := impl.DropEdge(c.m, c.e)
		text := listsText(impl.CyclesOf(got))
		if !ok {
			text = "none"
		}
		if text != c.want || !ok && len(got) != 0 {
			t.Errorf("%s: DropEdge(%v, %d) = %v, %v, want %s", c.name, c.m, c.e, got, ok, c.want)
		}
	}
}

func TestDropEdgeOfAll(t *testing.T) {
	for _, m := range manyMaps() {
		edges := len(m) / 2
		for e := -3; e <= edges+2; e++ {
			got, ok := impl.DropEdge(m, e)
			var want [][]int
			if 0 <= e && e < edges && edges > 1 {
				want = droppedCycles(impl.CyclesOf(m), e)
			}
			checkMap(t, "DropEdge "+decimal(e), m, got, ok, want)
			if ok && impl.GenusOf(got) > impl.GenusOf(m) {
				t.Errorf("DropEdge(%v, %d) = %v has a greater genus", m, e, got)
			}
		}
		for _, far := range farNumbers {
			got, ok := impl.DropEdge(m, far)
			checkMap(t, "DropEdge of a far edge", m, got, ok, nil)
		}
	}
}

func TestAddEdgeCases(t *testing.T) {
	cases := []struct {
		name string
		m    []int
		a, b int
		want string
	}{
		{"between both ends", []int{0, 1}, 0, 1, "0,2 1,3"},
		{"between both ends, back", []int{0, 1}, 1, 0, "0,3 1,2"},
		{"a loop at an end", []int{0, 1}, 0, 0, "0,2,3 1"},
		{"a loop at the other end", []int{0, 1}, 1, 1, "0 1,2,3"},
		{"a loop that crosses", []int{1, 0}, 0, 1, "0,2,1,3"},
		{"a loop that crosses, back", []int{1, 0}, 1, 0, "0,3,1,2"},
		{"a loop beside", []int{1, 0}, 0, 0, "0,2,3,1"},
		{"a loop on the other side", []int{1, 0}, 1, 1, "0,1,2,3"},
		{"between two parts", []int{0, 1, 2, 3}, 1, 2, "0 1,4 2,5 3"},
		{"between two parts, back", []int{0, 1, 2, 3}, 2, 1, "0 1,5 2,4 3"},
		{"between two loops apart", []int{1, 0, 3, 2}, 0, 2, "0,4,1 2,5,3"},
		{"between three darts", []int{2, 1, 4, 3, 0, 5}, 0, 2, "0,6,2,7,4 1 3 5"},
		{"between three darts, back", []int{2, 1, 4, 3, 0, 5}, 2, 0, "0,7,2,6,4 1 3 5"},
		{"between the last and the first", []int{2, 1, 4, 3, 0, 5}, 4, 0, "0,7,2,4,6 1 3 5"},
		{"no dart a", []int{0, 1}, 2, 0, "none"},
		{"no dart b", []int{0, 1}, 0, 2, "none"},
		{"negative a", []int{0, 1}, -1, 0, "none"},
		{"negative b", []int{0, 1}, 0, -1, "none"},
		{"both no dart", []int{0, 1}, 2, 2, "none"},
		{"both the new darts", []int{0, 1}, 2, 3, "none"},
		{"both negative", []int{0, 1}, -1, -1, "none"},
	}
	for _, c := range cases {
		got, ok := impl.AddEdge(c.m, c.a, c.b)
		text := listsText(impl.CyclesOf(got))
		if !ok {
			text = "none"
		}
		if text != c.want || !ok && len(got) != 0 {
			t.Errorf("%s: AddEdge(%v, %d, %d) = %v, %v, want %s", c.name, c.m, c.a, c.b, got, ok, c.want)
		}
	}
}

// faceBehind returns the index of the face that has the corner between a dart and the one that follows it.
func faceBehind(m []int, d int) int {
	return slices.IndexFunc(impl.FacesOf(m), func(face []int) bool { return slices.Contains(face, m[d]) })
}

// samePart walks from a as far as possible.
func samePart(m []int, a int, b int) bool {
	seen := map[int]bool{}
	var visit func(d int)
	visit = func(d int) {
		if !seen[d] {
			seen[d] = true
			visit(m[d])
			visit(mateBy(d))
		}
	}
	visit(a)
	return seen[b]
}

// TestAddEdgeOfAll counts how often an edge divides a face, joins two faces of a part, or joins two parts, and drops it again.
func TestAddEdgeOfAll(t *testing.T) {
	divided, handles, joined := 0, 0, 0
	for _, m := range manyMaps() {
		n := len(m)
		for a := -2; a <= n+2; a++ {
			for b := -2; b <= n+2; b++ {
				got, ok := impl.AddEdge(m, a, b)
				if min(a, b) < 0 || max(a, b) >= n || n == 24 {
					checkMap(t, "AddEdge that fails", m, got, ok, nil)
					continue
				}
				checkMap(t, "AddEdge "+decimal(a)+" "+decimal(b), m, got, ok, addedCycles(impl.CyclesOf(m), n, a, b))
				if back, ok := impl.DropEdge(got, n/2); !ok || !slices.Equal(back, m) {
					t.Errorf("AddEdge(%v, %d, %d) = %v, dropped = %v, %v", m, a, b, got, back, ok)
				}
				want := mapKind{impl.GenusOf(m), impl.MapParts(m), n + 2}
				faces := len(impl.FacesOf(m))
				switch {
				case !samePart(m, a, b):
					joined++
					want.parts--
					faces--
				case faceBehind(m, a) == faceBehind(m, b):
					divided++
					faces++
				default:
					handles++
					want.genus++
					faces--
				}
				if mapKindOf(got) != want || len(impl.FacesOf(got)) != faces {
					t.Errorf("AddEdge(%v, %d, %d) = %v is %v with %v, want %v and %d faces", m, a, b, got, mapKindOf(got), impl.FacesOf(got), want, faces)
				}
			}
		}
		for _, far := range farNumbers {
			for _, pair := range [][2]int{{0, far}, {far, 0}, {far, far}, {far, 1}, {n, far}} {
				got, ok := impl.AddEdge(m, pair[0], pair[1])
				checkMap(t, "AddEdge at a far dart", m, got, ok, nil)
			}
		}
	}
	if divided < 1000 || handles < 1000 || joined < 1000 {
		t.Errorf("%d faces divided, %d handles made and %d parts joined", divided, handles, joined)
	}
}

func TestSubdivideEdgeCases(t *testing.T) {
	cases := []struct {
		name string
		m    []int
		e    int
		want string
	}{
		{"alone at its vertex", []int{0, 1}, 0, "0 1,2 3"},
		{"a loop alone", []int{1, 0}, 0, "0,3 1,2"},
		{"behind its mate", []int{1, 2, 0, 3}, 0, "0,5,2 1,4 3"},
		{"ahead of its mate", []int{2, 0, 1, 3}, 0, "0,2,5 1,4 3"},
		{"a loop that crosses", []int{2, 3, 1, 0}, 0, "0,2,5,3 1,4"},
		{"the other loop that crosses", []int{2, 3, 1, 0}, 1, "0,2,1,5 3,4"},
		{"a loop beside another one", []int{1, 2, 3, 0}, 1, "0,1,2,5 3,4"},
		{"an end of a path", []int{0, 2, 1, 3}, 0, "0 1,4 2,5 3"},
		{"the other end of a path", []int{0, 2, 1, 3}, 1, "0 1,2 3,4 5"},
		{"one part of two", []int{0, 1, 3, 2}, 1, "0 1 2,5 3,4"},
		{"the other part of two", []int{0, 1, 3, 2}, 0, "0 1,4 2,3 5"},
		{"a side of a triangle", []int{5, 2, 1, 4, 3, 0}, 2, "0,7 1,2 3,4 5,6"},
		{"no edge", []int{0, 1}, 1, "none"},
		{"no edge, but a dart", []int{5, 2, 1, 4, 3, 0}, 3, "none"},
		{"a negative edge", []int{0, 1}, -1, "none"},
	}
	for _, c := range cases {
		got, ok := impl.SubdivideEdge(c.m, c.e)
		text := listsText(impl.CyclesOf(got))
		if !ok {
			text = "none"
		}
		if text != c.want || !ok && len(got) != 0 {
			t.Errorf("%s: SubdivideEdge(%v, %d) = %v, %v, want %s", c.name, c.m, c.e, got, ok, c.want)
		}
	}
}

func TestSubdivideEdgeOfAll(t *testing.T) {
	for _, m := range manyMaps() {
		n := len(m)
		for e := -3; e <= n/2+2; e++ {
			got, ok := impl.SubdivideEdge(m, e)
			if e < 0 || e >= n/2 || n == 24 {
				checkMap(t, "SubdivideEdge that fails", m, got, ok, nil)
				continue
			}
			checkMap(t, "SubdivideEdge "+decimal(e), m, got, ok, subdividedCycles(impl.CyclesOf(m), n, e))
			want := mapKind{impl.GenusOf(m), impl.MapParts(m), n + 2}
			if mapKindOf(got) != want || len(impl.FacesOf(got)) != len(impl.FacesOf(m)) || len(impl.CyclesOf(got)) != len(impl.CyclesOf(m))+1 {
				t.Errorf("SubdivideEdge(%v, %d) = %v is %v, not %v", m, e, got, mapKindOf(got), want)
			}
			if !slices.Equal(slices.Sorted(slices.Values([]int{got[2*e+1], got[n]})), []int{2*e + 1, n}) {
				t.Errorf("SubdivideEdge(%v, %d) = %v has no vertex of the darts %d and %d", m, e, got, 2*e+1, n)
			}
		}
		for _, far := range farNumbers {
			got, ok := impl.SubdivideEdge(m, far)
			checkMap(t, "SubdivideEdge of a far edge", m, got, ok, nil)
		}
	}
}

// TestMapLimits goes from one edge to MaxDarts and back.
func TestMapLimits(t *testing.T) {
	steps := map[string]func(m []int) ([]int, bool){
		"AddEdge of a loop": func(m []int) ([]int, bool) { return impl.AddEdge(m, len(m)-1, len(m)-1) },
		"AddEdge":           func(m []int) ([]int, bool) { return impl.AddEdge(m, 0, len(m)-1) },
		"SubdivideEdge":     func(m []int) ([]int, bool) { return impl.SubdivideEdge(m, len(m)/2-1) },
	}
	for name, step := range steps {
		for _, first := range mapsOf(2) {
			m := first
			for n := 4; n <= 24; n += 2 {
				next, ok := step(m)
				if !ok || len(next) != n || !impl.IsMap(next) {
					t.Fatalf("%s of %v = %v, %v", name, m, next, ok)
				}
				m = next
			}
			if more, ok := step(m); ok || len(more) != 0 {
				t.Errorf("%s of %v = %v, %v, want none", name, m, more, ok)
			}
			for n := 22; n >= 2; n -= 2 {
				less, ok := impl.DropEdge(m, n/4)
				if !ok || len(less) != n || !impl.IsMap(less) {
					t.Fatalf("DropEdge of %v = %v, %v", m, less, ok)
				}
				m = less
			}
			if less, ok := impl.DropEdge(m, 0); ok || len(less) != 0 {
				t.Errorf("DropEdge of %v = %v, %v, want none", m, less, ok)
			}
		}
	}
}

func TestNoMap(t *testing.T) {
	for _, m := range noMaps() {
		if got := impl.CyclesOf(m); len(got) != 0 {
			t.Errorf("CyclesOf(%v) = %v, want none", m, got)
		}
		if got := impl.FacesOf(m); len(got) != 0 {
			t.Errorf("FacesOf(%v) = %v, want none", m, got)
		}
		if got := impl.DualMap(m); len(got) != 0 {
			t.Errorf("DualMap(%v) = %v, want none", m, got)
		}
		if got := impl.MirrorMap(m); len(got) != 0 {
			t.Errorf("MirrorMap(%v) = %v, want none", m, got)
		}
		if got := impl.MapParts(m); got != -1 {
			t.Errorf("MapParts(%v) = %d, want -1", m, got)
		}
		if got := impl.GenusOf(m); got != -1 {
			t.Errorf("GenusOf(%v) = %d, want -1", m, got)
		}
		for _, k := range slices.Concat(farNumbers, []int{0, 1, 2, 3, 4, 11, 12, 13, 22, 23}) {
			got, ok := impl.DropEdge(m, k)
			checkMap(t, "DropEdge "+decimal(k), m, got, ok, nil)
			got, ok = impl.SubdivideEdge(m, k)
			checkMap(t, "SubdivideEdge "+decimal(k), m, got, ok, nil)
			got, ok = impl.AddEdge(m, k, 0)
			checkMap(t, "AddEdge from "+decimal(k), m, got, ok, nil)
			got, ok = impl.AddEdge(m, 0, k)
			checkMap(t, "AddEdge to "+decimal(k), m, got, ok, nil)
			got, ok = impl.AddEdge(m, k, k)
			checkMap(t, "AddEdge at "+decimal(k), m, got, ok, nil)
		}
	}
}

// mapCalls are all functions of the chapter that return lists, the single ones as lists of one.
func mapCalls() map[string]func(m []int) [][]int {
	one := func(m []int, ok bool) [][]int { return [][]int{m} }
	return map[string]func(m []int) [][]int{
		"CyclesOf":            impl.CyclesOf,
		"FacesOf":             impl.FacesOf,
		"DualMap":             func(m []int) [][]int { return one(impl.DualMap(m), true) },
		"MirrorMap":           func(m []int) [][]int { return one(impl.MirrorMap(m), true) },
		"DropEdge, the first": func(m []int) [][]int { return one(impl.DropEdge(m, 0)) },
		"DropEdge, the last":  func(m []int) [][]int { return one(impl.DropEdge(m, len(m)/2-1)) },
		"AddEdge":             func(m []int) [][]int { return one(impl.AddEdge(m, 0, 3)) },
		"AddEdge of a loop":   func(m []int) [][]int { return one(impl.AddEdge(m, 2, 2)) },
		"SubdivideEdge":       func(m []int) [][]int { return one(impl.SubdivideEdge(m, 1)) },
		"numbers":             func(m []int) [][]int { return [][]int{{impl.MapParts(m), impl.GenusOf(m)}} },
		"IsMap":               func(m []int) [][]int { impl.IsMap(m); return [][]int{{1}} },
	}
}

// TestMapsAreNew changes and prolongs every result, and looks at the arguments with their unused capacity.
func TestMapsAreNew(t *testing.T) {
	for name, call := range mapCalls() {
		for _, first := range [][]int{{2, 3, 1, 0}, {0, 1, 2, 3}, {1, 2, 3, 0}, {1, 0, 3, 2, 5, 4}, {5, 2, 1, 4, 3, 0}, stirredMap(22, 1), identityMap(22)} {
			whole := append(slices.Clone(first), 77, 78, 79, 80, 81, 82)
			want := slices.Clone(whole)
			m := whole[:len(first)]
			got := call(m)
			text := listsText(got)
			if text == "" {
				t.Fatalf("%s of %v fails", name, m)
			}
			for _, list := range got {
				for i := range list {
					list[i] = 99
				}
				_ = append(list, 99, 99, 99, 99)
				clear(list[:cap(list)])
			}
			_ = append(got, []int{99}, []int{99})
			clear(got[:cap(got)])
			if !slices.Equal(whole, want) {
				t.Fatalf("%s of %v changed its argument to %v", name, first, whole)
			}
			if again := listsText(call(m)); again != text {
				t.Errorf("%s of %v = %s after a change of its last result, want %s", name, m, again, text)
			}
		}
	}
}

// TestMapCyclesAreApart changes each cycle of a result by itself, with its unused capacity, and looks at the other ones.
func TestMapCyclesAreApart(t *testing.T) {
	for _, m := range slices.Concat(mapsOf(4), [][]int{identityMap(24), stirredMap(24, 2), stirredMap(24, 5), {5, 2, 1, 4, 3, 0}}) {
		for name, call := range map[string]func(m []int) [][]int{"CyclesOf": impl.CyclesOf, "FacesOf": impl.FacesOf} {
			want := call(m)
			for i := range want {
				got := call(m)
				list := got[i][:cap(got[i])]
				for j := range list {
					list[j] = 99
				}
				got[i] = want[i]
				if !sameLists(got, want) {
					t.Errorf("%s of %v: with cycle %d, others changed to %v", name, m, i, got)
				}
			}
		}
	}
}

// TestMapArgumentsStay calls every function with every argument near the range, for an argument with unused capacity.
func TestMapArgumentsStay(t *testing.T) {
	for _, first := range slices.Concat(mapsOf(2), mapsOf(4), noMaps(), [][]int{identityMap(22), identityMap(24), stirredMap(24, 1)}) {
		whole := append(slices.Clone(first), 77, 78, 79, 80)
		want := slices.Clone(whole)
		m := whole[:len(first)]
		for name, call := range mapCalls() {
			call(m)
			if !slices.Equal(whole, want) {
				t.Fatalf("%s changed %v to %v", name, first, whole)
			}
		}
		for a := -1; a <= 5; a++ {
			impl.DropEdge(m, a)
			impl.SubdivideEdge(m, a)
			for b := -1; b <= 5; b++ {
				impl.AddEdge(m, a, b)
			}
		}
		if !slices.Equal(whole, want) {
			t.Fatalf("an edge changed %v to %v", first, whole)
		}
	}
}
