package tests

import (
	"slices"
	"strings"
	"testing"

	"loop.example/g03105/impl"
)

// graphOf reads the edges of a text, apart from the program's parser.
func graphOf(text string) [][]int {
	var g [][]int
	for _, part := range strings.Fields(text) {
		var edge []int
		for _, by := range part {
			edge = append(edge, int(by-'0'))
		}
		g = append(g, edge)
	}
	return g
}

// edgesText writes the edges with digits, apart from the program's GraphText.
func edgesText(g [][]int) string {
	var parts []string
	for _, edge := range g {
		parts = append(parts, decimal(edge[0])+decimal(edge[1]))
	}
	return strings.Join(parts, " ")
}

// oneEdges returns all edges of a graph with both ends among the vertices.
func oneEdges(vertices ...int) [][]int {
	var edges [][]int
	for _, a := range vertices {
		for _, b := range vertices {
			if a != b {
				edges = append(edges, []int{a, b})
			}
		}
	}
	return edges
}

// graphsWith returns all lists of n of the edges.
func graphsWith(edges [][]int, n int) [][][]int {
	graphs := [][][]int{nil}
	for range n {
		var longer [][][]int
		for _, g := range graphs {
			for _, edge := range edges {
				longer = append(longer, append(slices.Clone(g), edge))
			}
		}
		graphs = longer
	}
	return graphs
}

// stirredGraph has n edges between the vertices from 0 to most, by a rule that hardly repeats itself.
func stirredGraph(n int, most int, k int) [][]int {
	var g [][]int
	state := uint32(1000*n + 100*most + k)
	for len(g) < n {
		state = state*1664525 + 1013904223
		a := int(state>>8) % (most + 1)
		b := int(state>>16) % (most + 1)
		if a != b {
			g = append(g, []int{a, b})
		}
	}
	return g
}

// manyGraphs are all graphs of one edge, those of few edges between few vertices, those of the cases, and others up to MaxGraph edges.
func manyGraphs() [][][]int {
	graphs := graphsWith(oneEdges(0, 1, 2, 3, 4, 5, 6), 1)
	for n := 2; n <= 3; n++ {
		graphs = append(graphs, graphsWith(oneEdges(0, 3, 6), n)...)
	}
	graphs = append(graphs, graphsWith(oneEdges(1, 2, 4, 5), 2)...)
	for _, c := range graphCases {
		graphs = append(graphs, graphOf(c.text))
	}
	for n := 1; n <= 10; n++ {
		for most := 1; most <= 6; most++ {
			for k := range 6 {
				graphs = append(graphs, stirredGraph(n, most, k))
			}
		}
	}
	return graphs
}

// graphCases have what is known of each graph; an empty row is one that is not counted.
var graphCases = []struct {
	name, text, degrees string
	rotations           int
	first, row          string
	least               int
}{
	{"one edge", "01", "1,1,0,0,0,0,0", 1, "0,1", "1", 0},
	{"one edge, back", "10", "1,1,0,0,0,0,0", 1, "0,1", "1", 0},
	{"one edge of the last vertices", "56", "0,0,0,0,0,1,1", 1, "0,1", "1", 0},
	{"one edge of the first and the last vertex", "60", "1,0,0,0,0,0,1", 1, "0,1", "1", 0},
	{"two edges apart", "02 46", "1,0,1,0,1,0,1", 1, "0,1,2,3", "1", 0},
	{"three edges apart", "01 23 56", "1,1,1,1,0,1,1", 1, "0,1,2,3,4,5", "1", 0},
	{"a path", "34 45", "0,0,0,1,2,1,0", 1, "0,2,1,3", "1", 0},
	{"a path whose edges begin at its middle", "43 45", "0,0,0,1,2,1,0", 1, "2,1,0,3", "1", 0},
	{"a path whose edges end at its middle", "34 54", "0,0,0,1,2,1,0", 1, "0,3,2,1", "1", 0},
	{"two edges between two vertices", "01 01", "2,2,0,0,0,0,0", 1, "2,3,0,1", "1", 0},
	{"two edges between two vertices, one back", "01 10", "2,2,0,0,0,0,0", 1, "3,2,1,0", "1", 0},
	{"three edges between two vertices", "01 01 01", "3,3,0,0,0,0,0", 4, "2,3,4,5,0,1", "2,2", 0},
	{"three edges between two vertices, one back", "25 52 25", "0,0,3,0,0,3,0", 4, "3,2,5,4,0,1", "2,2", 0},
	{"four edges between two vertices", "06 06 06 06", "4,0,0,0,0,0,4", 36, "2,3,4,5,6,7,0,1", "6,30", 0},
	{"five edges between two vertices", "12 12 21 12 12", "0,5,5,0,0,0,0", 576, "2,3,5,4,7,6,8,9,0,1", "24,360,192", 0},
	{"six edges between two vertices", "01 01 01 01 01 01", "6,6,0,0,0,0,0", 14400, "2,3,4,5,6,7,8,9,10,11,0,1", "", -1},
	{"ten edges between two vertices", "01 01 01 01 01 01 01 01 01 01", "10,10,0,0,0,0,0", 131681894400, "2,3,4,5,6,7,8,9,10,11,12,13,14,15,16,17,18,19,0,1", "", -1},
	{"a star of three edges", "30 31 32", "1,1,1,3,0,0,0", 2, "2,1,4,3,0,5", "2", 0},
	{"a star of six edges", "01 02 03 04 05 06", "6,1,1,1,1,1,1", 120, "2,1,4,3,6,5,8,7,10,9,0,11", "120", 0},
	{"a triangle", "01 12 20", "2,2,2,0,0,0,0", 1, "5,2,1,4,3,0", "1", 0},
	{"a triangle, in another order", "20 01 12", "2,2,2,0,0,0,0", 1, "5,2,1,4,3,0", "1", 0},
	{"a triangle, one edge back", "01 21 20", "2,2,2,0,0,0,0", 1, "5,3,4,1,2,0", "1", 0},
	{"a triangle with an edge at it", "01 12 20 03", "3,2,2,1,0,0,0", 2, "5,2,1,4,3,6,0,7", "2", 0},
	{"two triangles with a common edge", "01 12 20 13 32", "2,3,3,2,0,0,0", 4, "5,2,6,4,9,0,1,8,7,3", "2,2", 0},
	{"two triangles with a common vertex", "01 12 20 03 34 40", "4,2,2,2,2,0,0", 6, "5,2,1,4,3,6,11,8,7,10,9,0", "4,2", 0},
	{"two triangles apart", "01 12 20 34 45 53", "2,2,2,2,2,2,0", 1, "5,2,1,4,3,0,11,8,7,10,9,6", "1", 0},
	{"a tetrahedron", "01 02 03 12 13 23", "3,3,3,3,0,0,0", 16, "2,6,4,7,0,9,8,10,1,11,3,5", "2,14", 0},
	{"three edges twice apart", "01 01 01 23 23 23", "3,3,3,3,0,0,0", 16, "2,3,4,5,0,1,8,9,10,11,6,7", "4,8,4", 0},
	{"three edges three times apart", "01 01 01 23 23 23 45 45 45", "3,3,3,3,3,3,0", 64, "2,3,4,5,0,1,8,9,10,11,6,7,14,15,16,17,12,13", "8,24,24,8", 0},
	{"three edges and, apart, a star", "01 01 01 23 24 25", "3,3,3,1,1,1,0", 8, "2,3,4,5,0,1,8,7,10,9,6,11", "4,4", 0},
	{"two times three points", "03 04 05 13 14 15 23 24 25", "3,3,3,3,3,3,0", 64, "2,7,4,9,0,11,8,13,10,15,6,17,14,1,16,3,12,5", "0,40,24", 1},
	{"two times three points, an edge divided", "03 04 05 13 14 15 23 24 26 65", "3,3,3,3,3,3,2", 64, "2,7,4,9,0,11,8,13,10,15,6,19,14,1,16,3,12,18,17,5", "0,40,24", 1},
	{"two times three points and an edge at them", "03 04 05 13 14 15 23 24 25 62", "3,3,4,3,3,3,1", 192, "2,7,4,9,0,11,8,13,10,15,6,17,14,1,16,3,19,5,18,12", "0,120,72", 1},
	{"five points", "01 02 03 04 12 13 14 23 24 34", "4,4,4,4,4,0,0", 7776, "2,8,4,9,6,11,0,13,10,14,12,15,1,17,16,18,3,19,5,7", "", -1},
}

func TestGraphCases(t *testing.T) {
	for _, c := range graphCases {
		g := graphOf(c.text)
		if !impl.IsGraph(g) {
			t.Errorf("%s: %v is no graph", c.name, g)
		}
		if got := impl.GraphText(g); got != c.text {
			t.Errorf("%s: GraphText = %q, want %q", c.name, got, c.text)
		}
		if got, ok := impl.ParseGraph(c.text); !ok || !sameLists(got, g) {
			t.Errorf("%s: ParseGraph = %v, %v, want %v", c.name, got, ok, g)
		}
		if got := listText(impl.DegreesOf(g)); got != c.degrees {
			t.Errorf("%s: DegreesOf = %s, want %s", c.name, got, c.degrees)
		}
		if got := impl.CountRotations(g); got != c.rotations {
			t.Errorf("%s: CountRotations = %d, want %d", c.name, got, c.rotations)
		}
		if got := listText(impl.FirstRotation(g)); got != c.first {
			t.Errorf("%s: FirstRotation = %s, want %s", c.name, got, c.first)
		}
		if got := listText(impl.GenusRow(g)); got != c.row {
			t.Errorf("%s: GenusRow = %s, want %s", c.name, got, c.row)
		}
		if got := impl.LeastGenus(g); got != c.least {
			t.Errorf("%s: LeastGenus = %d, want %d", c.name, got, c.least)
		}
	}
}

// noGraphs are lists that are no graphs.
func noGraphs() [][][]int {
	lists := [][][]int{nil, {}, {nil}, {{}}, {nil, nil}, {{}, {}, {}}}
	for _, n := range []int{11, 12, 21, 1000} {
		lists = append(lists, slices.Repeat([][]int{{0, 1}}, n), stirredGraph(n, 6, n))
	}
	edges := [][]int{
		nil, {}, {0}, {1}, {6}, {0, 1, 2}, {0, 1, 0}, {3, 4, 4}, {0, 1, 2, 3}, identityMap(7),
		{0, 0}, {1, 1}, {3, 3}, {6, 6}, {7, 7}, {-1, -1},
		{-1, 0}, {0, -1}, {6, -1}, {-1, 6}, {-1, 7}, {-2, -1}, {0, 7}, {7, 0}, {6, 7}, {7, 6}, {7, 8}, {1, 8}, {9, 1}, {10, 0},
	}
	for _, far := range farNumbers {
		edges = append(edges, []int{0, far}, []int{far, 6}, []int{far, far}, []int{far})
	}
	for _, edge := range edges {
		lists = append(lists, [][]int{edge}, [][]int{edge, {0, 1}}, [][]int{{5, 6}, edge}, [][]int{{0, 1}, edge, {1, 2}})
		lists = append(lists, append(stirredGraph(9, 6, 1), edge))
	}
	return lists
}

func TestIsGraph(t *testing.T) {
	if impl.MaxGraph != 10 {
		t.Errorf("MaxGraph is %d", impl.MaxGraph)
	}
	for _, g := range manyGraphs() {
		if !impl.IsGraph(g) {
			t.Errorf("IsGraph(%v) = false", g)
		}
	}
	for _, g := range noGraphs() {
		if impl.IsGraph(g) {
			t.Errorf("IsGraph(%v) = true", g)
		}
	}
	for n := range 40 {
		g := slices.Repeat([][]int{{2, 4}}, n)
		if got, want := impl.IsGraph(g), 1 <= n && n <= 10; got != want {
			t.Errorf("IsGraph of %d edges = %v", n, got)
		}
	}
}

// TestIsGraphOfShortEdges goes through all edges of up to 3 vertices from -2 to 8, alone and beside a good edge.
func TestIsGraphOfShortEdges(t *testing.T) {
	graphs := 0
	edges := [][]int{nil}
	for i := 0; i < len(edges); i++ {
		edge := edges[i]
		if len(edge) < 3 {
			for v := -2; v <= 8; v++ {
				edges = append(edges, append(slices.Clone(edge), v))
			}
		}
		want := len(edge) == 2 && edge[0] != edge[1] && slices.Min(edge) >= 0 && slices.Max(edge) <= 6
		for _, g := range [][][]int{{edge}, {edge, {0, 1}}, {{6, 5}, edge}} {
			if got := impl.IsGraph(g); got != want {
				t.Errorf("IsGraph(%v) = %v", g, got)
			}
		}
		if want {
			graphs++
		}
	}
	if graphs != 7*6 {
		t.Errorf("%d edges", graphs)
	}
}

func TestParseGraphOfGraphText(t *testing.T) {
	for _, g := range manyGraphs() {
		text := impl.GraphText(g)
		if text != edgesText(g) {
			t.Errorf("GraphText(%v) = %q, want %q", g, text, edgesText(g))
		}
		if back, ok := impl.ParseGraph(text); !ok || !sameLists(back, g) {
			t.Errorf("ParseGraph(%q) = %v, %v, want %v", text, back, ok, g)
		}
	}
}

func checkNoParse(t *testing.T, text string) {
	t.Helper()
	if got, ok := impl.ParseGraph(text); ok || len(got) != 0 {
		t.Errorf("ParseGraph(%q) = %v, %v, want none", text, got, ok)
	}
}

func TestParseGraphRejects(t *testing.T) {
	texts := []string{
		"", "0", "6", "012", "0123", "0112", "01 1", "1 01", "01 123", "012 3", "01 2 3", "0 1", "0 1 12",
		"00", "11", "66", "01 22", "33 01", "07", "70", "77", "78", "89", "19", "01 17", "71 01",
		" ", "  ", " 01", "01 ", "  01", "01  ", "01  12", " 01 12", "01 12 ", "01   12", " 0 1", "\n01", "01\n", "01\n12", "01\t12", "01,12", "01-12", "01;12", "01|12", "01\x0012", "01\xa012", "01\u00a012",
		"-", "-1", "0-1", "-1 0", "-10", "+1", "+0 1", "0+", "01-", "0.", "0a", "a0", "ab", "AB", "0A", "x", "0x1", "o1", "0l", "0/", "/0", "0:", ":0", "6:", "5/", "0\x00", "\x00\x01", "0\x01", "0\xff", "\xff\xfe", "0\xb1", "0\x81", "01\x00", "01 0\xb2",
		"\u0660\u0661", "\uff10\uff11", "0\u0661", "\u00b9\u00b2",
		"000001", "010", "01 012 12", "[[0 1]]", "{0,1}", "0,1", "(01)", "01 12 2", "01 12 20 0",
		"999999999999 01", "18446744073709551617", "4294967297",
	}
	for _, text := range texts {
		checkNoParse(t, text)
	}
	for _, n := range []int{11, 12, 100, 100000} {
		checkNoParse(t, strings.TrimSuffix(strings.Repeat("01 ", n), " "))
	}
	checkNoParse(t, strings.Repeat("0", 100000))
	checkNoParse(t, strings.Repeat(" ", 100000))
	for n := 1; n <= 10; n++ {
		text := strings.TrimSuffix(strings.Repeat("60 ", n), " ")
		if got, ok := impl.ParseGraph(text); !ok || len(got) != n {
			t.Errorf("ParseGraph(%q) = %v, %v", text, got, ok)
		}
		checkNoParse(t, text+" ")
		checkNoParse(t, " "+text)
		checkNoParse(t, text+" 0")
		checkNoParse(t, text+" 07")
	}
}

// TestParseGraphBytes puts every byte in the place of each one of a text.
func TestParseGraphBytes(t *testing.T) {
	for by := range 256 {
		for i := range 5 {
			bytes := []byte("06 60")
			bytes[i] = byte(by)
			good := i != 2 && '0' <= by && by <= '6' && bytes[0] != bytes[1] && bytes[3] != bytes[4] || i == 2 && by == ' '
			if !good {
				checkNoParse(t, string(bytes))
			} else if got, ok := impl.ParseGraph(string(bytes)); !ok || impl.GraphText(got) != string(bytes) {
				t.Errorf("ParseGraph(%q) = %v, %v", bytes, got, ok)
			}
		}
		checkNoParse(t, string([]byte{byte(by)}))
		checkNoParse(t, "01"+string([]byte{byte(by)}))
		checkNoParse(t, string([]byte{byte(by)})+"01")
	}
}

// TestParseShortGraphs goes through all texts of up to 6 bytes of a few, and counts those that are parsed.
func TestParseShortGraphs(t *testing.T) {
	parsed := 0
	texts := []string{""}
	for i := 0; i < len(texts); i++ {
		text := texts[i]
		if len(text) < 6 {
			for _, by := range "067 -" {
				texts = append(texts, text+string(by))
			}
		}
		if got, ok := impl.ParseGraph(text); !ok {
			checkNoParse(t, text)
		} else if parsed++; edgesText(got) != text || !impl.IsGraph(got) {
			t.Errorf("ParseGraph(%q) = %v", text, got)
		}
	}
	// 06 and 60, and each of them ahead of each of them.
	if parsed != 2+4 {
		t.Errorf("%d texts parsed", parsed)
	}
}

// endsAt returns the darts at a vertex, in ascending order, counted along the edges.
func endsAt(g [][]int, v int) []int {
	var darts []int
	for e, edge := range g {
		if edge[0] == v {
			darts = append(darts, 2*e)
		}
		if edge[1] == v {
			darts = append(darts, 2*e+1)
		}
	}
	return darts
}

// starsOf returns the darts of each vertex that occurs.
func starsOf(g [][]int) [][]int {
	var stars [][]int
	for v := range 7 {
		if darts := endsAt(g, v); len(darts) > 0 {
			stars = append(stars, darts)
		}
	}
	return stars
}

func TestDegreesOfAll(t *testing.T) {
	for _, g := range manyGraphs() {
		got := impl.DegreesOf(g)
		if len(got) != 7 {
			t.Fatalf("DegreesOf(%v) = %v", g, got)
		}
		for v, degree := range got {
			if want := len(endsAt(g, v)); degree != want {
				t.Errorf("DegreesOf(%v) = %v, want %d for %d", g, got, want, v)
			}
		}
	}
}

func TestFirstRotationOfAll(t *testing.T) {
	for _, g := range manyGraphs() {
		got := impl.FirstRotation(g)
		if !impl.IsMap(got) || len(got) != 2*len(g) {
			t.Fatalf("FirstRotation(%v) = %v", g, got)
		}
		if vertices := impl.CyclesOf(got); !sameLists(vertices, inOrder(starsOf(g))) {
			t.Errorf("FirstRotation(%v) = %v with the vertices %v, want %v", g, got, vertices, starsOf(g))
		}
	}
}

// ordersOf returns the list in all orders in which its first number stays.
func ordersOf(list []int) [][]int {
	orders := [][]int{list[:1]}
	for _, x := range list[1:] {
		var longer [][]int
		for _, order := range orders {
			for at := 1; at <= len(order); at++ {
				longer = append(longer, slices.Insert(slices.Clone(order), at, x))
			}
		}
		orders = longer
	}
	return orders
}

// rotationsOf returns all rotations as maps, from the orders around each vertex.
func rotationsOf(g [][]int) [][]int {
	choices := [][][]int{nil}
	for _, star := range starsOf(g) {
		var longer [][][]int
		for _, choice := range choices {
			for _, order := range ordersOf(star) {
				longer = append(longer, append(slices.Clone(choice), order))
			}
		}
		choices = longer
	}
	var rotations [][]int
	for _, choice := range choices {
		rotations = append(rotations, mapOfCycles(choice))
	}
	return rotations
}

// rowOf counts maps by their genus, from the Euler number.
func rowOf(maps [][]int) []int {
	var row []int
	for _, m := range maps {
		euler := len(impl.CyclesOf(m)) - len(m)/2 + len(impl.FacesOf(m))
		genus := partsByWalking(m) - euler/2
		for len(row) <= genus {
			row = append(row, 0)
		}
		row[genus]++
	}
	return row
}

// checkRow expects the row of the maps, and what follows of it.
func checkRow(t *testing.T, g [][]int, rotations [][]int) {
	t.Helper()
	want := rowOf(rotations)
	got := impl.GenusRow(g)
	if !slices.Equal(got, want) {
		t.Errorf("GenusRow(%v) = %v, want %v", g, got, want)
	}
	if got := impl.CountRotations(g); got != len(rotations) {
		t.Errorf("CountRotations(%v) = %d, want %d", g, got, len(rotations))
	}
	least := slices.IndexFunc(want, func(n int) bool { return n > 0 })
	if got := impl.LeastGenus(g); got != least {
		t.Errorf("LeastGenus(%v) = %d, want %d", g, got, least)
	}
}

// TestGenusRowOfAllMaps takes, of all maps of up to 6 darts, those whose vertices are those of the graph.
func TestGenusRowOfAllMaps(t *testing.T) {
	maps := map[int][][]int{1: mapsOf(2), 2: mapsOf(4), 3: mapsOf(6)}
	for _, g := range manyGraphs() {
		var rotations [][]int
		for _, m := range maps[len(g)] {
			var vertices [][]int
			for _, cycle := range impl.CyclesOf(m) {
				vertices = append(vertices, slices.Sorted(slices.Values(cycle)))
			}
			if sameLists(vertices, inOrder(starsOf(g))) {
				rotations = append(rotations, m)
			}
		}
		if len(g) <= 3 {
			checkRow(t, g, rotations)
		}
	}
}

// TestGenusRowByOrders tries the orders around the vertices in another way.
func TestGenusRowByOrders(t *testing.T) {
	counted, notCounted := 0, 0
	for _, g := range manyGraphs() {
		if productOfFactorials(g) > 2000 {
			notCounted++
			if row, least := impl.GenusRow(g), impl.LeastGenus(g); len(row) != 0 || least != -1 {
				t.Errorf("GenusRow(%v) = %v, LeastGenus = %d", g, row, least)
			}
			continue
		}
		counted++
		checkRow(t, g, rotationsOf(g))
	}
	if counted < 500 || notCounted < 50 {
		t.Errorf("%d rows counted, %d not", counted, notCounted)
	}
}

// productOfFactorials multiplies what can stand behind the first dart of each vertex.
func productOfFactorials(g [][]int) int {
	product := 1
	for _, star := range starsOf(g) {
		for left := len(star) - 1; left > 0; left-- {
			product *= left
		}
	}
	return product
}

func TestCountRotationsOfAll(t *testing.T) {
	greatest := 0
	for _, g := range manyGraphs() {
		got := impl.CountRotations(g)
		if want := productOfFactorials(g); got != want {
			t.Errorf("CountRotations(%v) = %d, want %d", g, got, want)
		}
		greatest = max(greatest, got)
		row := impl.GenusRow(g)
		sum := 0
		for _, n := range row {
			sum += n
		}
		if got <= 2000 && (sum != got || row[len(row)-1] == 0) {
			t.Errorf("GenusRow(%v) = %v of %d rotations", g, row, got)
		}
	}
	if greatest != 362880*362880 {
		t.Errorf("greatest number of rotations %d", greatest)
	}
}

// TestGenusRowLimit has graphs of up to 2000 rotations and of more: 1920 and 2304 are the numbers next to 2000 that a graph has.
func TestGenusRowLimit(t *testing.T) {
	cases := []struct {
		text      string
		rotations int
	}{
		{"01 02 03 04 05 06 01", 720},
		{"01 01 01 01 01 23 23", 24 * 24},
		{"01 02 03 12 13 23 04 14 24", 6 * 6 * 6 * 2 * 2},
		{"01 02 03 04 05 06 01 12", 720 * 2},
		{"01 01 02 02 03 12 13 23", 24 * 6 * 6 * 2},
		{"01 01 02 02 03 04 12 34 34", 120 * 2 * 2 * 2 * 2},
		{"01 01 02 02 03 04 12 34 34 56", 120 * 2 * 2 * 2 * 2},
		{"01 01 01 02 03 12 13 23", 24 * 24 * 2 * 2},
		{"01 01 01 01 02 23 23 13", 24 * 24 * 2 * 2},
		{"01 01 01 01 01 23 23 23", 24 * 24 * 2 * 2},
		{"01 02 03 04 05 06 01 12 23", 720 * 2 * 2},
		{"01 01 02 02 03 03 12 12 13 13", 120 * 120 * 6 * 6},
		{"01 02 03 04 05 06 01 02", 5040},
		{"01 01 01 01 01 01 01", 720 * 720},
	}
	for _, c := range cases {
		g := graphOf(c.text)
		if got := impl.CountRotations(g); got != c.rotations {
			t.Errorf("CountRotations of %s = %d, want %d", c.text, got, c.rotations)
		}
		if c.rotations <= 2000 {
			checkRow(t, g, rotationsOf(g))
		} else if row, least := impl.GenusRow(g), impl.LeastGenus(g); len(row) != 0 || least != -1 {
			t.Errorf("GenusRow of %s = %v, LeastGenus = %d", c.text, row, least)
		}
	}
}

// changedGraph has the edges from index k on around, the odd ones with their vertices in the other order, and each vertex v renamed as v times the factor modulo 7.
func changedGraph(g [][]int, k int, factor int) [][]int {
	var changed [][]int
	for i := range g {
		edge := g[(i+k)%len(g)]
		a, b := edge[0]*factor%7, edge[1]*factor%7
		if i%2 == 1 {
			a, b = b, a
		}
		changed = append(changed, []int{a, b})
	}
	return changed
}

// TestChangedGraphs expects that neither the order of the edges, nor that of their vertices, nor the names of the vertices matter to the numbers.
func TestChangedGraphs(t *testing.T) {
	for i, g := range manyGraphs() {
		factor := i%6 + 1
		changed := changedGraph(g, i%len(g), factor)
		if a, b := impl.CountRotations(g), impl.CountRotations(changed); a != b {
			t.Errorf("CountRotations(%v) = %d, but %d of %v", g, a, b, changed)
		}
		if a, b := impl.GenusRow(g), impl.GenusRow(changed); !slices.Equal(a, b) {
			t.Errorf("GenusRow(%v) = %v, but %v of %v", g, a, b, changed)
		}
		if a, b := impl.LeastGenus(g), impl.LeastGenus(changed); a != b {
			t.Errorf("LeastGenus(%v) = %d, but %d of %v", g, a, b, changed)
		}
		was, is := impl.DegreesOf(g), impl.DegreesOf(changed)
		for v := range 7 {
			if was[v] != is[v*factor%7] {
				t.Errorf("DegreesOf(%v) = %v, but %v of %v", g, was, is, changed)
			}
		}
	}
}

// movedBy has the vertices renamed to follow those from 0 to by - 1.
func movedBy(g [][]int, by int) [][]int {
	var moved [][]int
	for _, edge := range g {
		moved = append(moved, []int{edge[0] + by, edge[1] + by})
	}
	return moved
}

// rowTimes multiplies two rows: the genus of a map is the sum of that of its parts.
func rowTimes(a []int, b []int) []int {
	times := make([]int, len(a)+len(b)-1)
	for i, x := range a {
		for j, y := range b {
			times[i+j] += x * y
		}
	}
	return times
}

// TestGraphsSideBySide puts a graph of the vertices 0 to 2 beside one of 3 to 6, and their edges in turn.
func TestGraphsSideBySide(t *testing.T) {
	second := []string{"01", "01 01 01", "01 12 20", "01 23", "01 02 03 12 13 23", "01 12 23 30", "01 01 01 01", "01 01 01 23 23 23", "01 01 12 23 23"}
	for n := 1; n <= 4; n++ {
		for k := range 5 {
			a := stirredGraph(n, 2, k)
			for _, text := range second {
				b := graphOf(text)
				both := slices.Concat(a, movedBy(b, 3))
				rotations := impl.CountRotations(a) * impl.CountRotations(b)
				if got := impl.CountRotations(both); got != rotations {
					t.Errorf("CountRotations(%v) = %d, want %d", both, got, rotations)
				}
				if rotations > 2000 {
					continue
				}
				if got, want := impl.GenusRow(both), rowTimes(impl.GenusRow(a), impl.GenusRow(b)); !slices.Equal(got, want) {
					t.Errorf("GenusRow(%v) = %v, want %v", both, got, want)
				}
				if got, want := impl.LeastGenus(both), impl.LeastGenus(a)+impl.LeastGenus(b); got != want {
					t.Errorf("LeastGenus(%v) = %d, want %d", both, got, want)
				}
				if got, want := impl.MapParts(impl.FirstRotation(both)), impl.MapParts(impl.FirstRotation(a))+impl.MapParts(impl.FirstRotation(b)); got != want {
					t.Errorf("FirstRotation(%v) has %d parts, want %d", both, got, want)
				}
			}
		}
	}
}

// TestFirstRotationIsCounted expects that the genus of the first rotation is one that the row counts.
func TestFirstRotationIsCounted(t *testing.T) {
	for _, g := range manyGraphs() {
		row := impl.GenusRow(g)
		genus := impl.GenusOf(impl.FirstRotation(g))
		if len(row) > 0 && (genus >= len(row) || row[genus] == 0) {
			t.Errorf("GenusRow(%v) = %v without the genus %d of FirstRotation", g, row, genus)
		}
	}
}

// TestRotationsOfOne expects one rotation exactly if no vertex has more than two edges.
func TestRotationsOfOne(t *testing.T) {
	for _, g := range manyGraphs() {
		want := slices.Max(impl.DegreesOf(g)) <= 2
		if got := impl.CountRotations(g) == 1; got != want {
			t.Errorf("CountRotations(%v) = %d", g, impl.CountRotations(g))
		}
		if want && (listText(impl.GenusRow(g)) != "1" || impl.LeastGenus(g) != 0) {
			t.Errorf("GenusRow(%v) = %v", g, impl.GenusRow(g))
		}
	}
}

// checkFamily expects the graph of the text, or none for the empty text.
func checkFamily(t *testing.T, name string, got [][]int, want string) {
	t.Helper()
	if edgesText(got) != want {
		t.Errorf("%s = %v, want %q", name, got, want)
	}
	if want != "" && (!impl.IsGraph(got) || impl.GraphText(got) != want) {
		t.Errorf("%s = %v is no graph", name, got)
	}
}

func TestCompleteGraph(t *testing.T) {
	wants := map[int]string{
		2: "01",
		3: "01 02 12",
		4: "01 02 03 12 13 23",
		5: "01 02 03 04 12 13 14 23 24 34",
	}
	rows := map[int]string{2: "1", 3: "1", 4: "2,14", 5: ""}
	for _, n := range slices.Concat(farNumbers, []int{-8, -7, -6, -5, -4, -3, -2, -1, 0, 1, 2, 3, 4, 5, 6, 7, 8, 9, 10, 11, 1000}) {
		g := impl.CompleteGraph(n)
		checkFamily(t, "CompleteGraph "+decimal(n), g, wants[n])
		if got := listText(impl.GenusRow(g)); got != rows[n] {
			t.Errorf("GenusRow of CompleteGraph %d = %s, want %s", n, got, rows[n])
		}
		if wants[n] == "" {
			continue
		}
		for v, degree := range impl.DegreesOf(g) {
			if v < n && degree != n-1 || v >= n && degree != 0 {
				t.Errorf("CompleteGraph %d has the degree %d at %d", n, degree, v)
			}
		}
	}
}

// bipartiteText is the text of the graph by its rule, or "" if it would be none.
func bipartiteText(a int, b int) string {
	if a < 1 || b < 1 || a > 6 || b > 6 || a+b > 7 || a*b > 10 {
		return ""
	}
	var parts []string
	for e := range a * b {
		parts = append(parts, decimal(e/b)+decimal(a+e%b))
	}
	return strings.Join(parts, " ")
}

func TestBipartiteGraphTexts(t *testing.T) {
	cases := []struct {
		a, b int
		want string
	}{
		{1, 1, "01"}, {1, 2, "01 02"}, {2, 1, "02 12"}, {2, 2, "02 03 12 13"}, {2, 3, "02 03 04 12 13 14"}, {3, 2, "03 04 13 14 23 24"},
		{1, 6, "01 02 03 04 05 06"}, {6, 1, "06 16 26 36 46 56"}, {3, 3, "03 04 05 13 14 15 23 24 25"},
		{2, 5, "02 03 04 05 06 12 13 14 15 16"}, {5, 2, "05 06 15 16 25 26 35 36 45 46"}, {2, 4, "02 03 04 05 12 13 14 15"}, {4, 2, "04 05 14 15 24 25 34 35"},
		{1, 7, ""}, {7, 1, ""}, {2, 6, ""}, {6, 2, ""}, {3, 4, ""}, {4, 3, ""}, {4, 4, ""}, {7, 7, ""}, {1, 10, ""}, {10, 1, ""},
		{0, 0, ""}, {0, 1, ""}, {1, 0, ""}, {0, 7, ""}, {7, 0, ""}, {-1, -1, ""}, {-1, 1, ""}, {1, -1, ""}, {-2, -3, ""}, {-1, 6, ""}, {8, -1, ""}, {-1, 8, ""}, {9, -3, ""},
	}
	for _, c := range cases {
		if bipartiteText(c.a, c.b) != c.want {
			t.Errorf("the rule makes %q of %d and %d", bipartiteText(c.a, c.b), c.a, c.b)
		}
		checkFamily(t, "BipartiteGraph "+decimal(c.a)+" "+decimal(c.b), impl.BipartiteGraph(c.a, c.b), c.want)
	}
}

func TestBipartiteGraphOfAll(t *testing.T) {
	graphs := 0
	numbers := slices.Concat(farNumbers, []int{-1, 0, 1, 2, 3, 4, 5, 6, 7, 8, 9, 10, 11})
	for _, a := range numbers {
		for _, b := range numbers {
			g := impl.BipartiteGraph(a, b)
			want := bipartiteText(a, b)
			checkFamily(t, "BipartiteGraph "+decimal(a)+" "+decimal(b), g, want)
			if want == "" {
				continue
			}
			graphs++
			for v, degree := range impl.DegreesOf(g) {
				if v < a && degree != b || a <= v && v < a+b && degree != a || v >= a+b && degree != 0 {
					t.Errorf("BipartiteGraph %d %d has the degree %d at %d", a, b, degree, v)
				}
			}
			least := 0
			if a == 3 && b == 3 {
				least = 1
			}
			if got := impl.LeastGenus(g); got != least {
				t.Errorf("LeastGenus of BipartiteGraph %d %d = %d, want %d", a, b, got, least)
			}
		}
	}
	if graphs != 6+5+3+2+2+1 {
		t.Errorf("%d graphs", graphs)
	}
}

func TestRingGraph(t *testing.T) {
	wants := map[int]string{
		3: "01 12 20",
		4: "01 12 23 30",
		5: "01 12 23 34 40",
		6: "01 12 23 34 45 50",
		7: "01 12 23 34 45 56 60",
	}
	for _, n := range slices.Concat(farNumbers, []int{-7, -4, -3, -2, -1, 0, 1, 2, 3, 4, 5, 6, 7, 8, 9, 10, 11, 1000}) {
		g := impl.RingGraph(n)
		checkFamily(t, "RingGraph "+decimal(n), g, wants[n])
		if wants[n] == "" {
			continue
		}
		m := impl.FirstRotation(g)
		if len(impl.CyclesOf(m)) != n || len(impl.FacesOf(m)) != 2 || impl.MapParts(m) != 1 || listText(impl.GenusRow(g)) != "1" || impl.LeastGenus(g) != 0 {
			t.Errorf("RingGraph %d: FirstRotation = %v, GenusRow = %v", n, m, impl.GenusRow(g))
		}
	}
}

func TestNoGraph(t *testing.T) {
	for _, g := range noGraphs() {
		if got := impl.GraphText(g); got != "" {
			t.Errorf("GraphText(%v) = %q", g, got)
		}
		if got := impl.DegreesOf(g); len(got) != 0 {
			t.Errorf("DegreesOf(%v) = %v, want none", g, got)
		}
		if got := impl.CountRotations(g); got != -1 {
			t.Errorf("CountRotations(%v) = %d, want -1", g, got)
		}
		if got := impl.FirstRotation(g); len(got) != 0 {
			t.Errorf("FirstRotation(%v) = %v, want none", g, got)
		}
		if got := impl.GenusRow(g); len(got) != 0 {
			t.Errorf("GenusRow(%v) = %v, want none", g, got)
		}
		if got := impl.LeastGenus(g); got != -1 {
			t.Errorf("LeastGenus(%v) = %d, want -1", g, got)
		}
	}
}

// graphCalls are all functions of the chapter that take a graph, and what they return as lists.
func graphCalls() map[string]func(g [][]int) [][]int {
	return map[string]func(g [][]int) [][]int{
		"DegreesOf":     func(g [][]int) [][]int { return [][]int{impl.DegreesOf(g)} },
		"FirstRotation": func(g [][]int) [][]int { return [][]int{impl.FirstRotation(g)} },
		"GenusRow":      func(g [][]int) [][]int { return [][]int{impl.GenusRow(g)} },
		"numbers":       func(g [][]int) [][]int { return [][]int{{impl.CountRotations(g), impl.LeastGenus(g)}} },
		"GraphText":     func(g [][]int) [][]int { return graphOf(impl.GraphText(g)) },
		"IsGraph":       func(g [][]int) [][]int { impl.IsGraph(g); return [][]int{{1}} },
	}
}

// newGraphCalls are all functions of the chapter that return a graph.
func newGraphCalls() map[string]func() [][]int {
	return map[string]func() [][]int{
		"ParseGraph":           func() [][]int { g, _ := impl.ParseGraph("01 12 20 56 65 56"); return g },
		"ParseGraph of one":    func() [][]int { g, _ := impl.ParseGraph("60"); return g },
		"ParseGraph of ten":    func() [][]int { g, _ := impl.ParseGraph("01 01 01 01 01 01 01 01 01 01"); return g },
		"CompleteGraph 2":      func() [][]int { return impl.CompleteGraph(2) },
		"CompleteGraph 5":      func() [][]int { return impl.CompleteGraph(5) },
		"BipartiteGraph 1 6":   func() [][]int { return impl.BipartiteGraph(1, 6) },
		"BipartiteGraph 5 2":   func() [][]int { return impl.BipartiteGraph(5, 2) },
		"BipartiteGraph 3 3":   func() [][]int { return impl.BipartiteGraph(3, 3) },
		"RingGraph 3":          func() [][]int { return impl.RingGraph(3) },
		"RingGraph 7":          func() [][]int { return impl.RingGraph(7) },
		"CompleteGraph, again": func() [][]int { return impl.CompleteGraph(4) },
	}
}

// roomyGraph returns the graph with unused capacity, in its edges too, and a function that reports whether all of it is still what it was.
func roomyGraph(g [][]int) ([][]int, func() bool) {
	var whole [][]int
	for _, edge := range g {
		whole = append(whole, append(slices.Clone(edge), 77, 78, 79))
	}
	whole = append(whole, []int{7, 8, 9}, []int{0, 1}, nil)
	roomy := slices.Clone(whole)
	for i, edge := range g {
		roomy[i] = roomy[i][:len(edge)]
	}
	want := make([][]int, len(whole))
	for i, edge := range whole {
		want[i] = slices.Clone(edge)
	}
	return roomy[:len(g)], func() bool {
		if !sameLists(whole, want) || !sameLists(roomy[len(g):], want[len(g):]) {
			return false
		}
		for i, edge := range g {
			if len(roomy[i]) != len(edge) || len(edge) > 0 && &roomy[i][0] != &whole[i][0] {
				return false
			}
		}
		return true
	}
}

// spoil changes and prolongs lists, with their unused capacity.
func spoil(lists [][]int) {
	for _, list := range lists {
		list = list[:cap(list)]
		for i := range list {
			list[i] = 99
		}
	}
	_ = append(lists, []int{99}, []int{99})
	clear(lists[:cap(lists)])
}

// TestGraphArgumentsStay calls every function, changes every result, and looks at the arguments with their unused capacity.
func TestGraphArgumentsStay(t *testing.T) {
	graphs := noGraphs()
	for _, c := range graphCases {
		graphs = append(graphs, graphOf(c.text))
	}
	for _, first := range graphs {
		g, stays := roomyGraph(first)
		for name, call := range graphCalls() {
			got := call(g)
			text := listsText(got)
			spoil(got)
			if !stays() {
				t.Fatalf("%s changed %v to %v", name, first, g)
			}
			if again := listsText(call(g)); again != text {
				t.Errorf("%s of %v = %s after a change of its last result, want %s", name, first, again, text)
			}
		}
	}
}

// TestGraphResultsAreNew changes one result, or one edge of it, and looks at another result and at the other edges.
func TestGraphResultsAreNew(t *testing.T) {
	for name, call := range newGraphCalls() {
		want := edgesText(call())
		if want == "" {
			t.Fatalf("%s fails", name)
		}
		other := call()
		spoil(call())
		if edgesText(other) != want || edgesText(call()) != want {
			t.Errorf("%s = %v after a change of another result", name, other)
		}
		for i := range other {
			g := call()
			kept := slices.Clone(g[i])
			spoil([][]int{g[i]})
			g[i] = kept
			if edgesText(g) != want {
				t.Errorf("%s: with edge %d, others changed to %v", name, i, g)
			}
		}
	}
}
