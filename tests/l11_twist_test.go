package tests

import (
	"math"
	"slices"
	"testing"

	"loop.example/g03105/impl"
)

// The functions below write the sums out and multiply tables without limits, as a second version.

func writtenForm(x []int, y []int) int {
	switch len(x) {
	case 2:
		return x[0]*y[1] - x[1]*y[0]
	case 4:
		return x[0]*y[1] - x[1]*y[0] + x[2]*y[3] - x[3]*y[2]
	}
	return x[0]*y[1] - x[1]*y[0] + x[2]*y[3] - x[3]*y[2] + x[4]*y[5] - x[5]*y[4]
}

// twistedOneByOne adds c, or takes it away, once for each crossing of each single twist.
func twistedOneByOne(c []int, x []int, k int) []int {
	twisted := slices.Clone(x)
	for range magnitude(k) {
		crossings := writtenForm(c, twisted)
		if k < 0 {
			crossings = -crossings
		}
		for i := range twisted {
			twisted[i] += crossings * c[i]
		}
	}
	return twisted
}

func identityTable(n int) [][]int {
	var t [][]int
	for i := range n {
		row := make([]int, n)
		row[i] = 1
		t = append(t, row)
	}
	return t
}

// unitClass is 1 at index i; the identity has it as its row i, too.
func unitClass(g int, i int) []int { return identityTable(2 * g)[i] }

// writtenTwist adds to the identity, for each column, what the crossings with the other number of its handle make of c.
func writtenTwist(c []int) [][]int {
	t := identityTable(len(c))
	for i, row := range t {
		for j := range row {
			if j%2 == 0 {
				row[j] -= c[i] * c[j+1]
			} else {
				row[j] += c[i] * c[j-1]
			}
		}
	}
	return t
}

func writtenImage(t [][]int, x []int) []int {
	var image []int
	for _, row := range t {
		sum := 0
		for j, n := range row {
			sum += n * x[j]
		}
		image = append(image, sum)
	}
	return image
}

func columnAt(t [][]int, j int) []int {
	var column []int
	for _, row := range t {
		column = append(column, row[j])
	}
	return column
}

func turnedTable(t [][]int) [][]int {
	var columns [][]int
	for j := range t {
		columns = append(columns, columnAt(t, j))
	}
	return columns
}

func writtenProduct(s [][]int, t [][]int) [][]int {
	var columns [][]int
	for _, column := range turnedTable(t) {
		columns = append(columns, writtenImage(s, column))
	}
	return turnedTable(columns)
}

func areWithin(lists ...[]int) bool {
	for _, x := range slices.Concat(lists...) {
		if magnitude(x) > 1000 {
			return false
		}
	}
	return true
}

// writtenSymplectic multiplies the table of the form from both sides.
func writtenSymplectic(t [][]int) bool {
	form := make([][]int, len(t))
	for i := range form {
		form[i] = make([]int, len(t))
		for j := range form {
			form[i][j] = writtenForm(identityTable(len(t))[i], identityTable(len(t))[j])
		}
	}
	return sameLists(writtenProduct(turnedTable(t), writtenProduct(form, t)), form)
}

// writtenTwists multiplies from the left to the right, and tells whether every table on the way is within the limits.
func writtenTwists(classes ...[]int) ([][]int, bool) {
	product := writtenTwist(classes[0])
	within := areWithin(product...)
	for _, c := range classes[1:] {
		next := writtenTwist(c)
		product = writtenProduct(product, next)
		within = within && areWithin(next...) && areWithin(product...)
	}
	return product, within
}

func writtenBraid(c []int, d []int) bool {
	one, ok := writtenTwists(c, d, c)
	other, fine := writtenTwists(d, c, d)
	return ok && fine && sameLists(one, other)
}

func writtenCommute(c []int, d []int) bool {
	one, ok := writtenTwists(c, d)
	other, fine := writtenTwists(d, c)
	return ok && fine && sameLists(one, other)
}

func numbersOrNone(list []int, ok bool) string {
	if len(list) == 0 {
		return tableOrNone(nil, ok)
	}
	return tableOrNone([][]int{list}, ok)
}

func tableOrNone(t [][]int, ok bool) string {
	if !ok && len(t) == 0 {
		return "none"
	}
	if !ok {
		return "none, but not nil"
	}
	return listsText(t)
}

// textIf is the text of numbers that a function returns if it succeeds.
func textIf(ok bool, lists ...[]int) string {
	if !ok {
		return "none"
	}
	return listsText(lists)
}

// classesWith returns all classes of g handles with numbers from -most to most.
func classesWith(g int, most int) [][]int {
	classes := [][]int{nil}
	for range 2 * g {
		var longer [][]int
		for _, x := range classes {
			for n := -most; n <= most; n++ {
				longer = append(longer, append(slices.Clone(x), n))
			}
		}
		classes = longer
	}
	return classes
}

// stirredNumbers has n numbers from -most to most, by a rule that hardly repeats itself.
func stirredNumbers(n int, most int, k int) []int {
	var numbers []int
	state := uint32(7919*n + 31*most + k)
	for range n {
		state = state*1664525 + 1013904223
		numbers = append(numbers, int(state>>8)%(2*most+1)-most)
	}
	return numbers
}

func stirredTable(n int, most int, k int) [][]int {
	var t [][]int
	for i := range n {
		t = append(t, stirredNumbers(n, most, n*k+i))
	}
	return t
}

// manyClasses are those of few handles and small numbers, the units, those at the limits, and others.
func manyClasses(g int) [][]int {
	classes := [][]int{make([]int, 2*g)}
	switch g {
	case 1:
		classes = classesWith(1, 3)
	case 2:
		classes = classesWith(2, 1)
	}
	for i, unit := range identityTable(2 * g) {
		for _, n := range []int{-1, 1, -1000, 1000, 31, -32} {
			x := slices.Clone(unit)
			x[i] = n
			classes = append(classes, x)
		}
	}
	for _, most := range []int{1, 2, 3, 6, 12, 31, 200, 1000} {
		for k := range 6 {
			classes = append(classes, stirredNumbers(2*g, most, k))
		}
	}
	return append(classes, slices.Repeat([]int{1000}, 2*g), slices.Repeat([]int{-1000, 1000}, g))
}

// farMagnitudes are no numbers of a class.
var farMagnitudes = []int{math.MinInt64, math.MinInt64 + 1, -1 << 62, -1 << 32, -100000, -1002, -1001, 1001, 1002, 100000, 1 << 32, 1 << 62, math.MaxInt64 - 1, math.MaxInt64}

// noHandles are no numbers of handles of a class; twice some of them is 2, 4 or 6 in 64 bits.
func noHandles() []int {
	return slices.Concat(farNumbers, []int{math.MinInt64 + 3, 1<<62 + 1, -4, 0, 4, 5, 6, 8, 12})
}

// noClasses are too short, too long, or have a number that is too great.
func noClasses(g int) [][]int {
	lists := [][]int{nil, {}, make([]int, 0, 9), make([]int, 1000)}
	for n := 1; n <= 9; n++ {
		if n != 2*g {
			lists = append(lists, make([]int, n), identityTable(n)[0], slices.Repeat([]int{1}, n))
		}
	}
	for i := range 2 * g {
		for _, far := range farMagnitudes {
			lone, among := make([]int, 2*g), slices.Repeat([]int{1}, 2*g)
			lone[i], among[i] = far, far
			lists = append(lists, lone, among)
		}
	}
	return append(lists, slices.Repeat([]int{1001}, 2*g), slices.Repeat([]int{math.MinInt64}, 2*g))
}

// noTables are empty, too great, not as wide as high, or have a number that is too great.
func noTables() [][][]int {
	tables := [][][]int{nil, {}, {nil}, {{}}, {nil, nil}, {{}, {}, {}, {}, {}, {}}, {{1, 0}}, {{1}, {1}}, {{1, 0, 0}, {0, 1, 0}}, {{1, 0}, {0, 1}, {0, 0}}}
	for _, n := range []int{7, 8, 9, 12, 300} {
		tables = append(tables, identityTable(n), stirredTable(n, 3, 1))
	}
	for n := 1; n <= 6; n++ {
		for i := range n {
			for _, row := range [][]int{nil, {}, make([]int, n-1), make([]int, n+1), make([]int, 7)} {
				t := identityTable(n)
				t[i] = row
				tables = append(tables, t)
			}
			longer := identityTable(n)
			longer[i] = append(longer[i], 0)
			shorter := identityTable(n)
			shorter[i] = shorter[i][:n-1]
			tables = append(tables, longer, shorter)
			for j := range n {
				for _, far := range farMagnitudes {
					t := identityTable(n)
					t[i][j] = far
					tables = append(tables, t)
				}
			}
		}
		tables = append(tables, identityTable(n)[:n-1], append(identityTable(n), make([]int, n)))
	}
	return tables
}

func TestIsClass(t *testing.T) {
	for g := 1; g <= 3; g++ {
		for _, x := range manyClasses(g) {
			for handles := -1; handles <= 5; handles++ {
				if got := impl.IsClass(handles, x); got != (handles == g) {
					t.Errorf("IsClass(%d, %v) = %v", handles, x, got)
				}
			}
		}
		for i := range 2 * g {
			for n := -1003; n <= 1003; n++ {
				for _, x := range [][]int{make([]int, 2*g), slices.Repeat([]int{1000}, 2*g), slices.Repeat([]int{-1000}, 2*g)} {
					x[i] = n
					if got := impl.IsClass(g, x); got != (magnitude(n) <= 1000) {
						t.Fatalf("IsClass(%d, %v) = %v", g, x, got)
					}
				}
			}
		}
		for _, x := range noClasses(g) {
			if impl.IsClass(g, x) {
				t.Errorf("IsClass(%d, %v) = true", g, x)
			}
		}
	}
}

func TestFormCases(t *testing.T) {
	cases := []struct {
		g    int
		x, y []int
		want int
	}{
		{1, []int{1, 0}, []int{0, 1}, 1},
		{1, []int{0, 1}, []int{1, 0}, -1},
		{1, []int{1, 0}, []int{1, 0}, 0},
		{1, []int{2, 3}, []int{5, 7}, -1},
		{1, []int{2, 3}, []int{-5, 7}, 29},
		{1, []int{4, 6}, []int{-2, -3}, 0},
		{1, []int{1000, 1000}, []int{-1000, 1000}, 2000000},
		{1, []int{1000, -1000}, []int{1000, 1000}, 2000000},
		{1, []int{1000, 999}, []int{999, 998}, -1},
		{2, []int{1, 0, 0, 0}, []int{0, 0, 1, 0}, 0},
		{2, []int{0, 1, 0, 0}, []int{0, 0, 1, 0}, 0},
		{2, []int{0, 0, 1, 0}, []int{0, 0, 0, 1}, 1},
		{2, []int{0, 0, 0, 1}, []int{0, 0, 1, 0}, -1},
		{2, []int{1, 2, 3, 4}, []int{5, 6, 7, 8}, -8},
		{2, []int{1, 2, 3, 4}, []int{2, 1, 4, 3}, -10},
		{2, []int{1, 0, 1, 0}, []int{0, 1, 0, -1}, 0},
		{2, []int{1, 0, 1, 0}, []int{0, 1, 0, 1}, 2},
		{2, []int{1000, 1000, 1000, 1000}, []int{-1000, 1000, -1000, 1000}, 4000000},
		{3, []int{0, 0, 0, 0, 1, 0}, []int{0, 0, 0, 0, 0, 1}, 1},
		{3, []int{0, 0, 0, 0, 0, 1}, []int{0, 0, 0, 0, 1, 0}, -1},
		{3, []int{0, 0, 0, 1, 0, 0}, []int{0, 0, 0, 0, 1, 0}, 0},
		{3, []int{1, 2, 3, 4, 5, 6}, []int{6, 5, 4, 3, 2, 1}, -21},
		{3, []int{1, -1, 2, -2, 3, -3}, []int{1, 1, 1, 1, 1, 1}, 12},
		{3, []int{1000, -1000, 1000, -1000, 1000, -1000}, []int{1000, 1000, 1000, 1000, 1000, 1000}, 6000000},
	}
	for _, c := range cases {
		if got := impl.FormOf(c.g, c.x, c.y); got != c.want {
			t.Errorf("FormOf(%d, %v, %v) = %d, want %d", c.g, c.x, c.y, got, c.want)
		}
	}
}

// TestFormOfPairs compares with the written sum, with the form in the other order, and of a class with itself.
func TestFormOfPairs(t *testing.T) {
	for g := 1; g <= 3; g++ {
		for _, x := range manyClasses(g) {
			for _, y := range manyClasses(g) {
				got := impl.FormOf(g, x, y)
				if got != writtenForm(x, y) || impl.FormOf(g, y, x) != -got {
					t.Fatalf("FormOf(%d, %v, %v) = %d, in the other order %d", g, x, y, got, impl.FormOf(g, y, x))
				}
			}
			if got := impl.FormOf(g, x, x); got != 0 {
				t.Fatalf("FormOf(%d) of %v and itself = %d", g, x, got)
			}
		}
	}
}

func TestTwistCases(t *testing.T) {
	cases := []struct {
		g    int
		c, x []int
		k    int
		want string
	}{
		{1, []int{1, 0}, []int{0, 1}, 1, "1,1"},
		{1, []int{1, 0}, []int{0, 1}, -1, "-1,1"},
		{1, []int{1, 0}, []int{0, 1}, 20, "20,1"},
		{1, []int{1, 0}, []int{0, 1}, -20, "-20,1"},
		{1, []int{0, 1}, []int{1, 0}, 1, "1,-1"},
		{1, []int{0, 1}, []int{1, 0}, -3, "1,3"},
		{1, []int{-1, 0}, []int{0, 1}, 1, "1,1"},
		{1, []int{1, 0}, []int{5, 0}, 7, "5,0"},
		{1, []int{2, 1}, []int{1, 1}, 1, "3,2"},
		{1, []int{2, 1}, []int{1, 1}, 3, "7,4"},
		{1, []int{2, 0}, []int{0, 1}, 1, "4,1"},
		{1, []int{2, 4}, []int{1, 1}, 2, "-7,-15"},
		{1, []int{10, 0}, []int{0, 1}, 10, "1000,1"},
		{1, []int{10, 0}, []int{0, 1}, -10, "-1000,1"},
		{1, []int{10, 0}, []int{1, 1}, 10, "none"},
		{1, []int{10, 0}, []int{-1, 1}, -10, "none"},
		{1, []int{10, 0}, []int{0, 1}, 11, "none"},
		{1, []int{0, 10}, []int{1, 0}, -10, "1,1000"},
		{1, []int{0, 10}, []int{1, 0}, 10, "1,-1000"},
		{1, []int{0, 10}, []int{1, 1}, -10, "none"},
		{1, []int{0, 10}, []int{1, -1}, 10, "none"},
		{1, []int{1000, 0}, []int{0, 1}, 1, "none"},
		{1, []int{1000, 0}, []int{1000, 0}, 20, "1000,0"},
		{1, []int{1000, 999}, []int{1, 1}, 1, "none"},
		{1, []int{1000, 999}, []int{1, 1}, 0, "1,1"},
		{1, []int{1, 0}, []int{-1000, 1000}, 2, "1000,1000"},
		{1, []int{1, 0}, []int{-1000, 1000}, 1, "0,1000"},
		{1, []int{1, 0}, []int{-999, 1000}, 2, "none"},
		{2, []int{1, 0, 0, 0}, []int{1, 2, 3, 4}, 1, "3,2,3,4"},
		{2, []int{0, 0, 1, 0}, []int{1, 2, 3, 4}, 1, "1,2,7,4"},
		{2, []int{0, 0, 0, 1}, []int{1, 2, 3, 4}, 1, "1,2,3,1"},
		{2, []int{1, 0, 1, 0}, []int{1, 2, 3, 4}, 1, "7,2,9,4"},
		{2, []int{1, 0, -1, 0}, []int{1, 2, 3, 4}, 1, "-1,2,5,4"},
		{2, []int{1, 0, -1, 0}, []int{1, 2, 3, 4}, -2, "5,2,-1,4"},
		{2, []int{1, 0, 1, 0}, []int{1, 2, 3, -2}, 20, "1,2,3,-2"},
		{3, []int{0, 0, 0, 0, 1, 0}, []int{1, 1, 1, 1, 1, 1}, 4, "1,1,1,1,5,1"},
		{3, []int{1, 1, 1, 1, 1, 1}, []int{1, 0, 0, 0, 0, 0}, 1, "0,-1,-1,-1,-1,-1"},
		{3, []int{1, 2, 3, 4, 5, 6}, []int{6, 5, 4, 3, 2, 1}, 1, "-15,-37,-59,-81,-103,-125"},
		{3, []int{1, 2, 3, 4, 5, 6}, []int{6, 5, 4, 3, 2, 1}, -1, "27,47,67,87,107,127"},
	}
	for _, c := range cases {
		if got := numbersOrNone(impl.TwistClass(c.g, c.c, c.x, c.k)); got != c.want {
			t.Errorf("TwistClass(%d, %v, %v, %d) = %s, want %s", c.g, c.c, c.x, c.k, got, c.want)
		}
	}
}

// TestTwistsOneByOne compares k twists with k single ones, and undoes them.
func TestTwistsOneByOne(t *testing.T) {
	for g := 1; g <= 3; g++ {
		counts := map[bool]int{}
		for _, c := range manyClasses(g) {
			for _, x := range manyClasses(g) {
				for k := -20; k <= 20; k++ {
					want := twistedOneByOne(c, x, k)
					got, ok := impl.TwistClass(g, c, x, k)
					counts[ok]++
					if numbersOrNone(got, ok) != textIf(areWithin(want), want) {
						t.Fatalf("TwistClass(%d, %v, %v, %d) = %v, %v, want %v", g, c, x, k, got, ok, want)
					}
					if !ok {
						continue
					}
					if back := numbersOrNone(impl.TwistClass(g, c, got, -k)); back != listText(x) {
						t.Fatalf("TwistClass(%d, %v, %v, %d) = %s does not undo", g, c, got, -k, back)
					}
				}
				if got := numbersOrNone(impl.TwistClass(g, c, x, 0)); got != listText(x) {
					t.Fatalf("TwistClass(%d, %v, %v, 0) = %s", g, c, x, got)
				}
			}
		}
		if counts[true] < 10000 || counts[false] < 10000 {
			t.Errorf("%d twists of %d handles succeed, %d fail", counts[true], g, counts[false])
		}
	}
}

// TestTwistsKeepTheForm twists two classes along a third one.
func TestTwistsKeepTheForm(t *testing.T) {
	for g := 1; g <= 3; g++ {
		kept := 0
		classes := manyClasses(g)
		for i, c := range classes {
			for j, x := range classes {
				for k := -20; k <= 20; k++ {
					y := classes[(31*i+17*j+7*(k+20))%len(classes)]
					one, ok := impl.TwistClass(g, c, x, k)
					other, fine := impl.TwistClass(g, c, y, k)
					if !ok || !fine {
						continue
					}
					kept++
					if got, want := impl.FormOf(g, one, other), impl.FormOf(g, x, y); got != want {
						t.Fatalf("%d twists along %v: FormOf(%d) of %v and %v becomes %d, want %d", k, c, g, x, y, got, want)
					}
				}
			}
		}
		if kept < 10000 {
			t.Errorf("%d pairs of classes of %d handles were twisted", kept, g)
		}
	}
}

// TestTwistLimits lets each number come to 1000 and to 1001, and to their negatives.
func TestTwistLimits(t *testing.T) {
	for g := 1; g <= 3; g++ {
		for i := range 2 * g {
			c := unitClass(g, i)
			x := unitClass(g, i^1)
			sign := impl.FormOf(g, c, x)
			if magnitude(sign) != 1 {
				t.Fatalf("FormOf(%d, %v, %v) = %d", g, c, x, sign)
			}
			for k := 1; k <= 20; k++ {
				want := unitClass(g, i^1)
				x[i], want[i] = 1000-k, 1000
				if got := numbersOrNone(impl.TwistClass(g, c, x, sign*k)); got != listText(want) {
					t.Errorf("TwistClass(%d, %v, %v, %d) = %s", g, c, x, sign*k, got)
				}
				x[i]++
				if got := numbersOrNone(impl.TwistClass(g, c, x, sign*k)); got != "none" {
					t.Errorf("TwistClass(%d, %v, %v, %d) = %s", g, c, x, sign*k, got)
				}
				x[i], want[i] = k-1000, -1000
				if got := numbersOrNone(impl.TwistClass(g, c, x, -sign*k)); got != listText(want) {
					t.Errorf("TwistClass(%d, %v, %v, %d) = %s", g, c, x, -sign*k, got)
				}
				x[i]--
				if got := numbersOrNone(impl.TwistClass(g, c, x, -sign*k)); got != "none" {
					t.Errorf("TwistClass(%d, %v, %v, %d) = %s", g, c, x, -sign*k, got)
				}
			}
		}
	}
}

// TestTooManyTwists has twists that would change nothing, and others.
func TestTooManyTwists(t *testing.T) {
	for g := 1; g <= 3; g++ {
		zero := make([]int, 2*g)
		for _, k := range slices.Concat(farMagnitudes, []int{-25, -22, -21, 21, 22, 25, 40, 256, -256}) {
			for _, c := range [][]int{zero, unitClass(g, 0), unitClass(g, 2*g-1)} {
				for _, x := range [][]int{zero, unitClass(g, 0), unitClass(g, 2*g-1)} {
					if got := numbersOrNone(impl.TwistClass(g, c, x, k)); got != "none" {
						t.Errorf("TwistClass(%d, %v, %v, %d) = %s", g, c, x, k, got)
					}
				}
			}
		}
		for _, k := range []int{-20, 20} {
			if got := numbersOrNone(impl.TwistClass(g, zero, unitClass(g, 1), k)); got != listText(unitClass(g, 1)) {
				t.Errorf("TwistClass(%d) along 0, %d times, = %s", g, k, got)
			}
		}
	}
}

func TestTwistMatrixCases(t *testing.T) {
	cases := []struct {
		c    []int
		want string
	}{
		{[]int{1, 0}, "1,1 0,1"},
		{[]int{-1, 0}, "1,1 0,1"},
		{[]int{0, 1}, "1,0 -1,1"},
		{[]int{0, -1}, "1,0 -1,1"},
		{[]int{1, 1}, "0,1 -1,2"},
		{[]int{1, -1}, "2,1 -1,0"},
		{[]int{2, 3}, "-5,4 -9,7"},
		{[]int{-3, 2}, "7,9 -4,-5"},
		{[]int{31, 0}, "1,961 0,1"},
		{[]int{0, -31}, "1,0 -961,1"},
		{[]int{31, 31}, "-960,961 -961,962"},
		{[]int{-31, 31}, "962,961 -961,-960"},
		{[]int{32, 0}, "none"},
		{[]int{0, 32}, "none"},
		{[]int{-32, 0}, "none"},
		{[]int{0, -32}, "none"},
		{[]int{31, 32}, "none"},
		{[]int{1000, 1}, "none"},
		{[]int{1, 1000}, "none"},
		{[]int{0, 0, 1, 0}, "1,0,0,0 0,1,0,0 0,0,1,1 0,0,0,1"},
		{[]int{0, 0, 0, 1}, "1,0,0,0 0,1,0,0 0,0,1,0 0,0,-1,1"},
		{[]int{1, 0, -1, 0}, "1,1,0,-1 0,1,0,0 0,-1,1,1 0,0,0,1"},
		{[]int{0, 1, 0, 1}, "1,0,0,0 -1,1,-1,0 0,0,1,0 -1,0,-1,1"},
		{[]int{1, 2, 3, 4}, "-1,1,-4,3 -4,3,-8,6 -6,3,-11,9 -8,4,-16,13"},
		{[]int{1, 1, 0, 32}, "none"},
		{[]int{0, 0, 0, 0, 2, 1}, "1,0,0,0,0,0 0,1,0,0,0,0 0,0,1,0,0,0 0,0,0,1,0,0 0,0,0,0,-1,4 0,0,0,0,-1,3"},
		{[]int{1, 0, 0, 0, 1, 0}, "1,1,0,0,0,1 0,1,0,0,0,0 0,0,1,0,0,0 0,0,0,1,0,0 0,1,0,0,1,1 0,0,0,0,0,1"},
	}
	for _, c := range cases {
		if got := tableOrNone(impl.TwistMatrix(len(c.c)/2, c.c)); got != c.want {
			t.Errorf("TwistMatrix of %v = %s, want %s", c.c, got, c.want)
		}
	}
}

// TestTwistMatrixOfAll compares with the written table, asks each column for its twist, and applies the table.
func TestTwistMatrixOfAll(t *testing.T) {
	for g := 1; g <= 3; g++ {
		for _, c := range manyClasses(g) {
			want := writtenTwist(c)
			table, ok := impl.TwistMatrix(g, c)
			if tableOrNone(table, ok) != textIf(areWithin(want...), want...) {
				t.Fatalf("TwistMatrix(%d, %v) = %v, %v", g, c, table, ok)
			}
			if !ok {
				continue
			}
			for j := range 2 * g {
				if got := numbersOrNone(impl.TwistClass(g, c, unitClass(g, j), 1)); got != listText(columnAt(table, j)) {
					t.Fatalf("TwistMatrix(%d, %v) = %v, but TwistClass at %d is %s", g, c, table, j, got)
				}
			}
			if !impl.IsSymplectic(g, table) {
				t.Fatalf("IsSymplectic(%d, %v) = false, a twist along %v", g, table, c)
			}
			for _, x := range manyClasses(g) {
				if got, want := numbersOrNone(impl.ApplyTable(table, x)), numbersOrNone(impl.TwistClass(g, c, x, 1)); got != want {
					t.Fatalf("ApplyTable(%v, %v) = %s, but TwistClass along %v is %s", table, x, got, c, want)
				}
			}
		}
	}
}

func TestApplyCases(t *testing.T) {
	cases := []struct {
		table [][]int
		x     []int
		want  string
	}{
		{[][]int{{1}}, []int{5}, "5"},
		{[][]int{{0}}, []int{1000}, "0"},
		{[][]int{{1000}}, []int{1}, "1000"},
		{[][]int{{1000}}, []int{-1}, "-1000"},
		{[][]int{{500}}, []int{2}, "1000"},
		{[][]int{{-500}}, []int{2}, "-1000"},
		{[][]int{{7}}, []int{143}, "none"},
		{[][]int{{7}}, []int{-143}, "none"},
		{[][]int{{1000}}, []int{1000}, "none"},
		{[][]int{{1000}}, []int{0}, "0"},
		{[][]int{{1001}}, []int{0}, "none"},
		{[][]int{{0}}, []int{1001}, "none"},
		{[][]int{{-1001}}, []int{0}, "none"},
		{[][]int{{0}}, []int{-1001}, "none"},
		{[][]int{{1, 1}, {0, 1}}, []int{2, 3}, "5,3"},
		{[][]int{{1, 2}, {3, 4}}, []int{5, 6}, "17,39"},
		{[][]int{{1, 2}, {3, 4}}, []int{-5, 6}, "7,9"},
		{[][]int{{0, 0}, {0, 0}}, []int{5, 6}, "0,0"},
		{[][]int{{1, 1}, {0, 1}}, []int{999, 1}, "1000,1"},
		{[][]int{{1, 1}, {0, 1}}, []int{1000, 1}, "none"},
		{[][]int{{1, 1}, {0, 1}}, []int{-999, -1}, "-1000,-1"},
		{[][]int{{1, 1}, {0, 1}}, []int{-1000, -1}, "none"},
		{[][]int{{1, 0}, {1, 1}}, []int{1, 999}, "1,1000"},
		{[][]int{{1, 0}, {1, 1}}, []int{1, 1000}, "none"},
		{[][]int{{1, 0}, {1, 1}}, []int{-1, -1000}, "none"},
		// The products are too great, but their sums are not.
		{[][]int{{1000, -1000}, {-1000, 1000}}, []int{1000, 999}, "1000,-1000"},
		{[][]int{{1000, -1000}, {-1000, 1000}}, []int{1000, 998}, "none"},
		{[][]int{{1, 2, 3}, {4, 5, 6}, {7, 8, 9}}, []int{1, 0, -1}, "-2,-2,-2"},
		{[][]int{{0, 1, 0, 0}, {0, 0, 1, 0}, {0, 0, 0, 1}, {1, 0, 0, 0}}, []int{1, 2, 3, 4}, "2,3,4,1"},
		{[][]int{{1, 0, 0, 0, 0}, {1, 1, 0, 0, 0}, {1, 1, 1, 0, 0}, {1, 1, 1, 1, 0}, {1, 1, 1, 1, 1}}, []int{1, 2, 3, 4, 5}, "1,3,6,10,15"},
		{slices.Repeat([][]int{{1, 1, 1, 1, 1, 1}}, 6), []int{166, 166, 166, 166, 166, 170}, "1000,1000,1000,1000,1000,1000"},
		{slices.Repeat([][]int{{1, 1, 1, 1, 1, 1}}, 6), []int{166, 166, 166, 166, 166, 171}, "none"},
		{[][]int{{1, 2}, {3, 4}}, []int{5}, "none"},
		{[][]int{{1, 2}, {3, 4}}, []int{5, 6, 0}, "none"},
		{[][]int{{1, 2}, {3, 4}}, nil, "none"},
		{[][]int{{1}}, []int{1, 1}, "none"},
	}
	for _, c := range cases {
		if got := numbersOrNone(impl.ApplyTable(c.table, c.x)); got != c.want {
			t.Errorf("ApplyTable(%v, %v) = %s, want %s", c.table, c.x, got, c.want)
		}
	}
}

// manyTables have n rows: the identity, others with a few numbers, and twists if there are such.
func manyTables(n int) [][][]int {
	tables := [][][]int{identityTable(n), turnedTable(slices.Repeat([][]int{slices.Repeat([]int{1}, n)}, n)), slices.Repeat([][]int{make([]int, n)}, n)}
	for _, most := range []int{1, 2, 3, 10, 40, 1000} {
		for k := range 4 {
			tables = append(tables, stirredTable(n, most, k))
		}
	}
	if n%2 == 0 {
		for _, most := range []int{1, 2, 5, 20} {
			for k := range 4 {
				tables = append(tables, writtenTwist(stirredNumbers(n, most, k)))
			}
		}
	}
	return tables
}

// TestTablesOneAfterTheOther multiplies and applies tables of 1 to 6 rows.
func TestTablesOneAfterTheOther(t *testing.T) {
	for n := 1; n <= 6; n++ {
		counts := map[bool]int{}
		for _, s := range manyTables(n) {
			for _, other := range manyTables(n) {
				want := writtenProduct(s, other)
				product, ok := impl.TimesTable(s, other)
				counts[ok]++
				if tableOrNone(product, ok) != textIf(areWithin(want...), want...) {
					t.Fatalf("TimesTable(%v, %v) = %v, %v, want %v", s, other, product, ok, want)
				}
				for k := range 8 {
					x := stirredNumbers(n, 1+3*k, k)
					between, fine := impl.ApplyTable(other, x)
					if fine != areWithin(writtenImage(other, x)) {
						t.Fatalf("ApplyTable(%v, %v) = %v, %v", other, x, between, fine)
					}
					after := writtenImage(s, writtenImage(other, x))
					if !ok || !fine {
						continue
					}
					if got := numbersOrNone(impl.ApplyTable(s, between)); got != textIf(areWithin(after), after) {
						t.Fatalf("ApplyTable(%v) after that of %v of %v = %s, want %v", s, other, x, got, after)
					}
					if got := numbersOrNone(impl.ApplyTable(product, x)); got != textIf(areWithin(after), after) {
						t.Fatalf("ApplyTable(%v, %v) = %s, want %v", product, x, got, after)
					}
				}
			}
		}
		if counts[true] < 50 || counts[false] < 50 {
			t.Errorf("%d products of %d rows succeed, %d fail", counts[true], n, counts[false])
		}
	}
}

func TestTimesCases(t *testing.T) {
	cases := []struct {
		s, t [][]int
		want string
	}{
		{[][]int{{2}}, [][]int{{-3}}, "-6"},
		{[][]int{{500}}, [][]int{{2}}, "1000"},
		{[][]int{{-500}}, [][]int{{2}}, "-1000"},
		{[][]int{{7}}, [][]int{{143}}, "none"},
		{[][]int{{-7}}, [][]int{{143}}, "none"},
		{[][]int{{0}}, [][]int{{1001}}, "none"},
		{[][]int{{1001}}, [][]int{{0}}, "none"},
		{[][]int{{1, 1}, {0, 1}}, [][]int{{1, 0}, {-1, 1}}, "0,1 -1,1"},
		{[][]int{{1, 0}, {-1, 1}}, [][]int{{1, 1}, {0, 1}}, "1,1 -1,0"},
		{[][]int{{1, 2}, {3, 4}}, [][]int{{5, 6}, {7, 8}}, "19,22 43,50"},
		{[][]int{{5, 6}, {7, 8}}, [][]int{{1, 2}, {3, 4}}, "23,34 31,46"},
		{[][]int{{1, 500}, {0, 1}}, [][]int{{1, 500}, {0, 1}}, "1,1000 0,1"},
		{[][]int{{1, 500}, {0, 1}}, [][]int{{1, 501}, {0, 1}}, "none"},
		{[][]int{{1, 0}, {-500, 1}}, [][]int{{1, 0}, {-500, 1}}, "1,0 -1000,1"},
		{[][]int{{1, 0}, {-501, 1}}, [][]int{{1, 0}, {-500, 1}}, "none"},
		{[][]int{{10, 0}, {0, 1}}, [][]int{{100, 0}, {0, 1000}}, "1000,0 0,1000"},
		{[][]int{{1, 0}, {0, 10}}, [][]int{{1, 0}, {0, 101}}, "none"},
		{[][]int{{1, 0}, {0, 1}}, [][]int{{1}}, "none"},
		{[][]int{{1}}, [][]int{{1, 0}, {0, 1}}, "none"},
		// The columns of these are as long as the first table asks for.
		{[][]int{{1, 0}, {0, 1}}, [][]int{{1}, {1}}, "none"},
		{[][]int{{1, 0}, {0, 1}}, [][]int{{1, 2, 3}, {4, 5, 6}}, "none"},
		{[][]int{{1, 0}, {0, 1}}, [][]int{{1, 2}, {4, 5, 6}}, "none"},
		{[][]int{{1, 0}, {0, 1}}, [][]int{{1, 2, 3}, {4, 5}}, "none"},
		{[][]int{{1, 0}, {0, 1}}, [][]int{{1, 2}, {4}}, "none"},
		{[][]int{{1, 0}, {0, 1}}, [][]int{{1}, {4, 5}}, "none"},
		{[][]int{{1, 0}, {0, 1}}, [][]int{{}, {}}, "none"},
		{[][]int{{1}}, [][]int{{1, 2}}, "none"},
		{[][]int{{1}}, [][]int{{}}, "none"},
		{nil, nil, "none"},
		{[][]int{{1}}, nil, "none"},
		{nil, [][]int{{1}}, "none"},
		{identityTable(7), nil, "none"},
		{identityTable(7), identityTable(7), "none"},
	}
	for _, c := range cases {
		if got := tableOrNone(impl.TimesTable(c.s, c.t)); got != c.want {
			t.Errorf("TimesTable(%v, %v) = %s, want %s", c.s, c.t, got, c.want)
		}
	}
}

// TestNoTable has lists that are no tables in each place, and tables of different sizes.
func TestNoTable(t *testing.T) {
	for _, bad := range noTables() {
		for n := range 8 {
			for _, x := range [][]int{make([]int, n), slices.Repeat([]int{1}, n)} {
				if got := numbersOrNone(impl.ApplyTable(bad, x)); got != "none" {
					t.Errorf("ApplyTable(%v, %v) = %s", bad, x, got)
				}
			}
			zero := slices.Repeat([][]int{make([]int, n)}, n)
			for _, other := range [][][]int{identityTable(n), zero, bad} {
				if got := tableOrNone(impl.TimesTable(bad, other)); got != "none" {
					t.Errorf("TimesTable(%v, %v) = %s", bad, other, got)
				}
				if got := tableOrNone(impl.TimesTable(other, bad)); got != "none" {
					t.Errorf("TimesTable(%v, %v) = %s", other, bad, got)
				}
			}
		}
		for _, g := range slices.Concat(noHandles(), []int{1, 2, 3}) {
			if impl.IsSymplectic(g, bad) {
				t.Errorf("IsSymplectic(%d, %v) = true", g, bad)
			}
		}
	}
	for m := 1; m <= 6; m++ {
		for n := 1; n <= 6; n++ {
			if got := tableOrNone(impl.TimesTable(identityTable(m), identityTable(n))); got != textIf(m == n, identityTable(n)...) {
				t.Errorf("TimesTable of %d and of %d rows = %s", m, n, got)
			}
			for _, x := range [][]int{make([]int, n), slices.Repeat([]int{1}, n)} {
				if got := numbersOrNone(impl.ApplyTable(identityTable(m), x)); got != textIf(m == n, x) {
					t.Errorf("ApplyTable of %d rows of %v = %s", m, x, got)
				}
			}
		}
	}
}

// TestApplyNoNumbers puts a number that is too great where the table would not look at it.
func TestApplyNoNumbers(t *testing.T) {
	for n := 1; n <= 6; n++ {
		zero := slices.Repeat([][]int{make([]int, n)}, n)
		for i := range n {
			for _, far := range farMagnitudes {
				x := make([]int, n)
				x[i] = far
				for _, table := range [][][]int{zero, identityTable(n)} {
					if got := numbersOrNone(impl.ApplyTable(table, x)); got != "none" {
						t.Errorf("ApplyTable(%v, %v) = %s", table, x, got)
					}
				}
			}
		}
	}
}

func TestSymplecticCases(t *testing.T) {
	cases := []struct {
		name  string
		table [][]int
		want  int
	}{
		{"identity", [][]int{{1, 0}, {0, 1}}, 1},
		{"half a turn", [][]int{{-1, 0}, {0, -1}}, 1},
		{"a quarter of a turn", [][]int{{0, 1}, {-1, 0}}, 1},
		{"an exchange", [][]int{{0, 1}, {1, 0}}, 0},
		{"a mirror", [][]int{{1, 0}, {0, -1}}, 0},
		{"twice the second one", [][]int{{1, 0}, {0, 2}}, 0},
		{"twice both", [][]int{{2, 0}, {0, 2}}, 0},
		{"zero", [][]int{{0, 0}, {0, 0}}, 0},
		{"ones", [][]int{{1, 1}, {1, 1}}, 0},
		{"a stretch", [][]int{{2, 1}, {1, 1}}, 1},
		{"great numbers", [][]int{{1000, 999}, {1, 1}}, 1},
		{"the greatest number", [][]int{{1, 1000}, {0, 1}}, 1},
		{"the least number", [][]int{{1, 0}, {-1000, 1}}, 1},
		{"too great", [][]int{{1, 1001}, {0, 1}}, 0},
		{"too small", [][]int{{1, 0}, {-1001, 1}}, 0},
		{"identity of 2", identityTable(4), 2},
		{"two handles exchanged", [][]int{{0, 0, 1, 0}, {0, 0, 0, 1}, {1, 0, 0, 0}, {0, 1, 0, 0}}, 2},
		{"a number moved to the other handle", [][]int{{1, 0, 0, 0}, {0, 0, 1, 0}, {0, 1, 0, 0}, {0, 0, 0, 1}}, 0},
		{"one handle mirrored", [][]int{{1, 0, 0, 0}, {0, -1, 0, 0}, {0, 0, 1, 0}, {0, 0, 0, 1}}, 0},
		{"both handles mirrored", [][]int{{1, 0, 0, 0}, {0, -1, 0, 0}, {0, 0, 1, 0}, {0, 0, 0, -1}}, 0},
		{"one handle over the other", [][]int{{1, 0, 1, 0}, {0, 1, 0, 0}, {0, 0, 1, 0}, {0, -1, 0, 1}}, 2},
		{"half a handle over the other", [][]int{{1, 0, 1, 0}, {0, 1, 0, 0}, {0, 0, 1, 0}, {0, 0, 0, 1}}, 0},
		{"one handle alone", [][]int{{2, 1, 0, 0}, {1, 1, 0, 0}, {0, 0, 1, 0}, {0, 0, 0, 1}}, 2},
		{"one handle twice", [][]int{{1, 0, 1, 0}, {0, 1, 0, 1}, {1, 0, 1, 0}, {0, 1, 0, 1}}, 0},
		{"identity of 3", identityTable(6), 3},
		{"the first and the last handle exchanged", [][]int{{0, 0, 0, 0, 1, 0}, {0, 0, 0, 0, 0, 1}, {0, 0, 1, 0, 0, 0}, {0, 0, 0, 1, 0, 0}, {1, 0, 0, 0, 0, 0}, {0, 1, 0, 0, 0, 0}}, 3},
		{"the last handle mirrored", [][]int{{1, 0, 0, 0, 0, 0}, {0, 1, 0, 0, 0, 0}, {0, 0, 1, 0, 0, 0}, {0, 0, 0, 1, 0, 0}, {0, 0, 0, 0, 1, 0}, {0, 0, 0, 0, 0, -1}}, 0},
		{"the last handle over the first one", [][]int{{1, 0, 0, 0, 0, 0}, {0, 1, 0, 0, 0, 1}, {0, 0, 1, 0, 0, 0}, {0, 0, 0, 1, 0, 0}, {1, 0, 0, 0, 1, 0}, {0, 0, 0, 0, 0, 1}}, 0},
		{"one number", [][]int{{1}}, 0},
		{"three rows", identityTable(3), 0},
		{"five rows", identityTable(5), 0},
		{"eight rows", identityTable(8), 0},
		{"no rows", nil, 0},
	}
	for _, c := range cases {
		for _, g := range slices.Concat(noHandles(), []int{1, 2, 3}) {
			if got := impl.IsSymplectic(g, c.table); got != (g == c.want && g > 0) {
				t.Errorf("%s: IsSymplectic(%d, %v) = %v", c.name, g, c.table, got)
			}
		}
	}
}

// TestSymplecticOfSmallTables asks for what A D - B C is, which must be 1.
func TestSymplecticOfSmallTables(t *testing.T) {
	for _, n := range classesWith(2, 4) {
		table := [][]int{{n[0], n[1]}, {n[2], n[3]}}
		if got := impl.IsSymplectic(1, table); got != (n[0]*n[3]-n[1]*n[2] == 1) {
			t.Errorf("IsSymplectic(1, %v) = %v", table, got)
		}
	}
}

// TestSymplecticProducts multiplies twists, changes single numbers of the products and exchanges two of their rows and columns.
func TestSymplecticProducts(t *testing.T) {
	for g := 1; g <= 3; g++ {
		counts := map[bool]int{}
		check := func(table [][]int) {
			want := areWithin(table...) && writtenSymplectic(table)
			counts[want]++
			for handles := -1; handles <= 4; handles++ {
				if got := impl.IsSymplectic(handles, table); got != (want && handles == g) {
					t.Fatalf("IsSymplectic(%d, %v) = %v", handles, table, got)
				}
			}
		}
		for k := range 150 {
			product := identityTable(2 * g)
			for i := range 1 + k%5 {
				twist, ok := impl.TwistMatrix(g, stirredNumbers(2*g, 1+i%2, 5*k+i))
				longer, fine := impl.TimesTable(product, twist)
				if !ok || !fine {
					break
				}
				product = longer
			}
			if !impl.IsSymplectic(g, product) {
				t.Fatalf("IsSymplectic(%d, %v) = false, a product of twists", g, product)
			}
			check(product)
			check(turnedTable(product))
			for i := range product {
				j := (i + 1 + k) % (2 * g)
				changed := turnedTable(product)
				changed[i][j] += 1 - 2*(k%2)
				check(changed)
				exchanged := slices.Clone(product)
				exchanged[i], exchanged[j] = exchanged[j], exchanged[i]
				check(exchanged)
				check(turnedTable(exchanged))
			}
		}
		for _, table := range manyTables(2 * g) {
			check(table)
		}
		if counts[true] < 300 || counts[false] < 300 {
			t.Errorf("%d tables of %d handles are symplectic, %d are not", counts[true], g, counts[false])
		}
	}
}

// writtenPrimitive tries every divisor.
func writtenPrimitive(x []int) bool {
	for divisor := 2; divisor <= 1000; divisor++ {
		if !slices.ContainsFunc(x, func(n int) bool { return n%divisor != 0 }) {
			return false
		}
	}
	return true
}

func TestPrimitiveCases(t *testing.T) {
	cases := []struct {
		x    []int
		want bool
	}{
		{[]int{0, 0}, false}, {[]int{0, 1}, true}, {[]int{0, -1}, true}, {[]int{1, 0}, true}, {[]int{-1, 0}, true}, {[]int{1, -1}, true}, {[]int{-1, -1}, true},
		{[]int{0, 2}, false}, {[]int{-2, 0}, false}, {[]int{2, 4}, false}, {[]int{2, 3}, true}, {[]int{-2, 4}, false}, {[]int{-2, -4}, false}, {[]int{-2, 3}, true}, {[]int{-3, -6}, false}, {[]int{6, -4}, false}, {[]int{6, 35}, true},
		{[]int{1000, 999}, true}, {[]int{1000, 1000}, false}, {[]int{-1000, 1000}, false}, {[]int{0, 1000}, false}, {[]int{997, 0}, false}, {[]int{997, -997}, false}, {[]int{997, -1000}, true}, {[]int{1001, 1}, false}, {[]int{1, -1001}, false},
		{[]int{0, 0, 0, 0}, false}, {[]int{0, 0, 0, 1}, true}, {[]int{0, 0, -1, 0}, true}, {[]int{6, 10, 15, 0}, true}, {[]int{6, 10, 14, 0}, false}, {[]int{-6, 10, -15, 30}, true}, {[]int{-6, 12, -18, 30}, false}, {[]int{4, 4, 4, 2}, false}, {[]int{4, 4, 4, 1}, true},
		{[]int{0, 0, 0, 0, 0, 0}, false}, {[]int{0, 0, 0, 0, 0, -1}, true}, {[]int{0, 0, 0, 0, 0, -3}, false}, {[]int{0, 0, 7, 0, -14, 0}, false}, {[]int{30, 42, 70, 105, 210, 0}, true}, {[]int{30, 42, 70, 140, 210, 0}, false}, {[]int{-30, -60, 90, 120, -150, 77}, true}, {[]int{1000, 1000, 1000, 1000, 1000, 998}, false},
	}
	for _, c := range cases {
		if got := impl.IsPrimitiveClass(len(c.x)/2, c.x); got != c.want {
			t.Errorf("IsPrimitiveClass of %v = %v", c.x, got)
		}
	}
}

func TestPrimitiveByDivisors(t *testing.T) {
	for g := 1; g <= 3; g++ {
		classes := manyClasses(g)
		for _, x := range manyClasses(g) {
			for _, factor := range []int{-7, -2, 2, 3, 10} {
				multiple := slices.Clone(x)
				for i := range multiple {
					multiple[i] *= factor
				}
				if areWithin(multiple) {
					classes = append(classes, multiple)
				}
			}
		}
		if g == 1 {
			classes = append(classes, classesWith(1, 12)...)
		}
		counts := map[bool]int{}
		for _, x := range classes {
			want := writtenPrimitive(x)
			counts[want]++
			for handles := -1; handles <= 4; handles++ {
				if got := impl.IsPrimitiveClass(handles, x); got != (want && handles == g) {
					t.Errorf("IsPrimitiveClass(%d, %v) = %v", handles, x, got)
				}
			}
		}
		if counts[true] < 30 || counts[false] < 100 {
			t.Errorf("%d classes of %d handles are primitive, %d are not", counts[true], g, counts[false])
		}
	}
}

func TestRelationCases(t *testing.T) {
	cases := []struct {
		name           string
		c, d           []int
		braid, commute bool
	}{
		{"crossing once", []int{1, 0}, []int{0, 1}, true, false},
		{"crossing once, the other way", []int{0, 1}, []int{1, 0}, true, false},
		{"crossing once, one reversed", []int{1, 0}, []int{0, -1}, true, false},
		{"crossing once, steeply", []int{2, 3}, []int{1, 1}, true, false},
		{"the same", []int{1, 0}, []int{1, 0}, true, true},
		{"the same, reversed", []int{2, -3}, []int{-2, 3}, true, true},
		{"along the same, twice", []int{1, 0}, []int{2, 0}, false, true},
		{"crossing twice", []int{1, 0}, []int{0, 2}, false, false},
		{"crossing twice, primitive", []int{1, 0}, []int{1, 2}, false, false},
		{"crossing thrice", []int{1, 0}, []int{1, -3}, false, false},
		{"crossing four times, both twice", []int{2, 0}, []int{0, 2}, false, false},
		{"apart", []int{1, 0, 0, 0}, []int{0, 0, 1, 0}, false, true},
		{"apart, the others", []int{0, 1, 0, 0}, []int{0, 0, 0, 1}, false, true},
		{"once there, once back", []int{1, 0, 1, 0}, []int{0, 1, 0, -1}, false, true},
		{"twice in the same way", []int{1, 0, 1, 0}, []int{0, 1, 0, 1}, false, false},
		{"once, on the second handle", []int{0, 0, 1, 0}, []int{1, 0, 0, 1}, true, false},
		{"along two handles", []int{1, 0, -1, 0}, []int{0, 1, 0, 0}, true, false},
		{"along two handles, both", []int{1, 0, -1, 0}, []int{0, 1, 0, 1}, false, true},
		{"three handles, once", []int{0, 0, 0, 0, 1, 0}, []int{0, 0, 0, 0, 0, 1}, true, false},
		{"three handles, apart", []int{1, 0, 0, 0, 0, 0}, []int{0, 0, 0, 0, 0, 1}, false, true},
		{"three handles, once in all", []int{1, 0, 1, 0, 1, 0}, []int{0, 1, 0, 1, 0, -1}, true, false},
		{"three handles, thrice", []int{1, 0, 1, 0, 1, 0}, []int{0, 1, 0, 1, 0, 1}, false, false},
		{"0 twice", []int{0, 0}, []int{0, 0}, true, true},
		{"0 and another one", []int{0, 0}, []int{1, 0}, false, true},
		{"another one and 0", []int{0, 1}, []int{0, 0}, false, true},
		{"no twist of the first one", []int{32, 0}, []int{0, 0}, false, false},
		{"no twist of the second one", []int{0, 0}, []int{0, 32}, false, false},
		{"no twist, crossing once", []int{1000, 999}, []int{1, 1}, false, false},
		{"no twist of the same", []int{1000, 0}, []int{1000, 0}, false, false},
		{"the product of two is at the limit", []int{10, 0}, []int{30, 0}, false, true},
		{"the product of two is past the limit", []int{11, 0}, []int{30, 0}, false, false},
		{"the product of the same is past the limit", []int{0, 23}, []int{0, 23}, false, false},
		{"the product of the same three times is past the limit", []int{0, 20}, []int{0, 20}, false, true},
		{"the product of the same three times is below the limit", []int{0, 18}, []int{0, 18}, true, true},
		{"crossing once, past the limit", []int{31, 30}, []int{30, 29}, false, false},
		{"crossing once, within the limit", []int{8, 7}, []int{7, 6}, true, false},
	}
	for _, c := range cases {
		g := len(c.c) / 2
		if got := impl.BraidHolds(g, c.c, c.d); got != c.braid {
			t.Errorf("%s: BraidHolds(%d, %v, %v) = %v", c.name, g, c.c, c.d, got)
		}
		if got := impl.CommuteHolds(g, c.c, c.d); got != c.commute {
			t.Errorf("%s: CommuteHolds(%d, %v, %v) = %v", c.name, g, c.c, c.d, got)
		}
	}
}

// TestRelationsOfPairs multiplies the written tables, and expects of small numbers what the form tells.
func TestRelationsOfPairs(t *testing.T) {
	for g := 1; g <= 3; g++ {
		counts := map[string]int{}
		for _, c := range manyClasses(g) {
			for _, d := range manyClasses(g) {
				braid, commute := impl.BraidHolds(g, c, d), impl.CommuteHolds(g, c, d)
				if braid != writtenBraid(c, d) || commute != writtenCommute(c, d) {
					t.Fatalf("BraidHolds(%d, %v, %v) = %v, CommuteHolds = %v", g, c, d, braid, commute)
				}
				form := magnitude(impl.FormOf(g, c, d))
				_, ok := writtenTwists(c, d, c)
				_, fine := writtenTwists(d, c, d)
				switch {
				case !ok || !fine:
					counts["past the limit"]++
				case braid != (form == 1 || sameTwists(c, d)) || commute != (form == 0):
					t.Fatalf("FormOf(%d, %v, %v) = %d, BraidHolds is %v and CommuteHolds %v", g, c, d, form, braid, commute)
				default:
					counts["crossing "+decimal(min(form, 2))]++
				}
			}
		}
		for _, kind := range []string{"past the limit", "crossing 0", "crossing 1", "crossing 2"} {
			if counts[kind] < 100 {
				t.Errorf("%d pairs of %d handles are %s", counts[kind], g, kind)
			}
		}
	}
}

// sameTwists tells whether the twists are the same, along a class or along its negative.
func sameTwists(c []int, d []int) bool { return sameLists(writtenTwist(c), writtenTwist(d)) }

func TestClassZero(t *testing.T) {
	for g := 1; g <= 3; g++ {
		zero := make([]int, 2*g)
		if !impl.IsClass(g, zero) || impl.IsPrimitiveClass(g, zero) {
			t.Errorf("0 is no class of %d handles, or a primitive one", g)
		}
		if got := tableOrNone(impl.TwistMatrix(g, zero)); got != listsText(identityTable(2*g)) {
			t.Errorf("TwistMatrix(%d) of 0 = %s", g, got)
		}
		for _, x := range manyClasses(g) {
			if impl.FormOf(g, zero, x) != 0 || impl.FormOf(g, x, zero) != 0 {
				t.Errorf("FormOf(%d) of 0 and %v is not 0", g, x)
			}
			for k := -20; k <= 20; k++ {
				if got := numbersOrNone(impl.TwistClass(g, zero, x, k)); got != listText(x) {
					t.Errorf("TwistClass(%d, %v, %v, %d) = %s", g, zero, x, k, got)
				}
				if got := numbersOrNone(impl.TwistClass(g, x, zero, k)); got != listText(zero) {
					t.Errorf("TwistClass(%d, %v, %v, %d) = %s", g, x, zero, k, got)
				}
			}
			if got := numbersOrNone(impl.ApplyTable(identityTable(2*g), x)); got != listText(x) {
				t.Errorf("ApplyTable of the identity of %v = %s", x, got)
			}
			_, ok := impl.TwistMatrix(g, x)
			if impl.CommuteHolds(g, zero, x) != ok || impl.CommuteHolds(g, x, zero) != ok {
				t.Errorf("CommuteHolds(%d) of 0 and %v is not %v", g, x, ok)
			}
			if isZero := slices.Equal(x, zero); impl.BraidHolds(g, zero, x) != isZero || impl.BraidHolds(g, x, zero) != isZero {
				t.Errorf("BraidHolds(%d) of 0 and %v is not %v", g, x, isZero)
			}
		}
	}
}

// checkNoClass expects what the functions return for a list that is no class of g handles, beside another one.
func checkNoClass(t *testing.T, g int, bad []int, other []int) {
	t.Helper()
	if impl.IsClass(g, bad) || impl.IsPrimitiveClass(g, bad) {
		t.Errorf("IsClass(%d, %v) or IsPrimitiveClass = true", g, bad)
	}
	if got := tableOrNone(impl.TwistMatrix(g, bad)); got != "none" {
		t.Errorf("TwistMatrix(%d, %v) = %s", g, bad, got)
	}
	for _, pair := range [][2][]int{{bad, other}, {other, bad}, {bad, bad}} {
		c, d := pair[0], pair[1]
		if got := impl.FormOf(g, c, d); got != 0 {
			t.Errorf("FormOf(%d, %v, %v) = %d", g, c, d, got)
		}
		for _, k := range []int{-21, -1, 0, 1, 20} {
			if got := numbersOrNone(impl.TwistClass(g, c, d, k)); got != "none" {
				t.Errorf("TwistClass(%d, %v, %v, %d) = %s", g, c, d, k, got)
			}
		}
		if impl.BraidHolds(g, c, d) || impl.CommuteHolds(g, c, d) {
			t.Errorf("BraidHolds(%d, %v, %v) or CommuteHolds = true", g, c, d)
		}
	}
}

func TestNoClass(t *testing.T) {
	for g := 1; g <= 3; g++ {
		others := [][]int{make([]int, 2*g), unitClass(g, 0), slices.Repeat([]int{1}, 2*g)}
		for _, bad := range noClasses(g) {
			for _, other := range others {
				checkNoClass(t, g, bad, other)
			}
		}
	}
	// A twist would bring the number back, and the other one would change nothing.
	if got := numbersOrNone(impl.TwistClass(1, []int{1, 0}, []int{1001, 1}, -1)); got != "none" {
		t.Errorf("TwistClass of 1001,1 = %s", got)
	}
	if got := numbersOrNone(impl.TwistClass(1, []int{1001, 0}, []int{1, 0}, 1)); got != "none" {
		t.Errorf("TwistClass along 1001,0 = %s", got)
	}
}

func TestNoHandles(t *testing.T) {
	lists := [][]int{nil, {}, {0}, {1, 0}, {0, 1}, {0, 0}, {1, 0, 0, 0}, {0, 0, 0, 0, 0, 1}, {1, 1, 1, 1, 1, 1, 1, 1}, make([]int, 8), make([]int, 10), make([]int, 12), make([]int, 16)}
	for _, g := range noHandles() {
		for _, bad := range lists {
			for _, other := range lists {
				checkNoClass(t, g, bad, other)
			}
		}
		for n := range 13 {
			if impl.IsSymplectic(g, identityTable(n)) {
				t.Errorf("IsSymplectic(%d) of the identity of %d rows = true", g, n)
			}
		}
	}
}

// twistLists are two tables and two classes.
type twistLists struct {
	s, t [][]int
	c, x []int
}

// twistCalls are all functions of the chapter, and what they return as lists, with a 77 for true.
func twistCalls() map[string]func(g int, a twistLists) [][]int {
	sign := func(ok bool) [][]int { return surfaceLists(nil, ok) }
	calls := map[string]func(g int, a twistLists) [][]int{
		"IsClass":          func(g int, a twistLists) [][]int { return sign(impl.IsClass(g, a.c)) },
		"IsPrimitiveClass": func(g int, a twistLists) [][]int { return sign(impl.IsPrimitiveClass(g, a.c)) },
		"FormOf":           func(g int, a twistLists) [][]int { return [][]int{{impl.FormOf(g, a.c, a.x)}} },
		"TwistMatrix":      func(g int, a twistLists) [][]int { m, _ := impl.TwistMatrix(g, a.c); return m },
		"ApplyTable":       func(g int, a twistLists) [][]int { y, _ := impl.ApplyTable(a.s, a.x); return [][]int{y} },
		"TimesTable":       func(g int, a twistLists) [][]int { m, _ := impl.TimesTable(a.s, a.t); return m },
		"IsSymplectic":     func(g int, a twistLists) [][]int { return sign(impl.IsSymplectic(g, a.s)) },
		"BraidHolds":       func(g int, a twistLists) [][]int { return sign(impl.BraidHolds(g, a.c, a.x)) },
		"CommuteHolds":     func(g int, a twistLists) [][]int { return sign(impl.CommuteHolds(g, a.c, a.x)) },
	}
	for _, k := range []int{-21, -20, -1, 0, 1, 2, 20} {
		calls["TwistClass "+decimal(k)] = func(g int, a twistLists) [][]int {
			y, _ := impl.TwistClass(g, a.c, a.x, k)
			return [][]int{y}
		}
	}
	return calls
}

// twistArguments are two tables, one after the other, with two classes behind them.
func twistArguments() [][][]int {
	var arguments [][][]int
	for n := 1; n <= 7; n++ {
		for k := range 4 {
			arguments = append(arguments, slices.Concat(stirredTable(n, 1+k, k), stirredTable(n, 1+2*k, k+9), stirredTable(n, 1+k, k+5)[:1], stirredTable(n, 1+k, k+7)[:1]))
		}
		class := slices.Repeat([]int{1}, n)
		arguments = append(arguments, slices.Concat(identityTable(n), identityTable(n), [][]int{class, identityTable(n)[0]}))
		arguments = append(arguments, slices.Concat(identityTable(n), stirredTable(n, 1000, 1), [][]int{slices.Repeat([]int{1000}, n), stirredNumbers(n, 1001, 3)}))
		ragged := slices.Concat(identityTable(n), identityTable(n), [][]int{class, class})
		ragged[n-1] = append(ragged[n-1], 0)
		ragged[n] = ragged[n][:n-1]
		arguments = append(arguments, ragged)
	}
	return append(arguments, [][]int{nil, nil}, [][]int{{}, nil, {}, {}})
}

// TestTwistArgumentsStay calls every function, changes every result, and looks at the arguments with their unused capacity.
func TestTwistArgumentsStay(t *testing.T) {
	for _, first := range twistArguments() {
		whole, stays := roomyGraph(first)
		n := len(whole)/2 - 1
		lists := twistLists{whole[:n], whole[n : 2*n], whole[2*n], whole[2*n+1]}
		for g := range 5 {
			for name, call := range twistCalls() {
				got := call(g, lists)
				text := listsText(got)
				spoil(got)
				if !stays() {
					t.Fatalf("%s(%d) changed %v to %v", name, g, first, whole)
				}
				if again := listsText(call(g, lists)); again != text {
					t.Errorf("%s(%d) of %v = %s after a change of its last result, want %s", name, g, first, again, text)
				}
			}
		}
	}
}

// TestTwistResultsAreNew changes one result, or one row of it, and looks at another result and at the other rows.
func TestTwistResultsAreNew(t *testing.T) {
	for g := 1; g <= 3; g++ {
		c, x := slices.Repeat([]int{1, 2}, g), slices.Repeat([]int{3, 1}, g)
		for _, table := range [][][]int{identityTable(2 * g), writtenTwist(x)} {
			lists := twistLists{table, writtenTwist(c), c, x}
			for name, call := range twistCalls() {
				result := func() [][]int { return call(g, lists) }
				want := listsText(result())
				other := result()
				spoil(result())
				if listsText(other) != want || listsText(result()) != want {
					t.Errorf("%s(%d) = %v after a change of another result, want %s", name, g, other, want)
				}
				for i := range other {
					changed := result()
					kept := slices.Clone(changed[i])
					spoil([][]int{changed[i]})
					changed[i] = kept
					if listsText(changed) != want {
						t.Errorf("%s(%d): with row %d, others changed to %v", name, g, i, changed)
					}
				}
			}
		}
	}
}

// TestSharedRows has one row in every place of a table, one list as both classes, and rows and classes that overlap in memory.
func TestSharedRows(t *testing.T) {
	row := []int{1, 1, 1, 1}
	same := slices.Repeat([][]int{row}, 4)
	long := []int{1, 0, 1, 0, 1}
	overlapping := [][]int{long[:2], long[1:3]}
	cases := []struct {
		name string
		got  func() ([][]int, bool)
		want string
	}{
		{"TimesTable of one row in eight places", func() ([][]int, bool) { return impl.TimesTable(same, same) }, "4,4,4,4 4,4,4,4 4,4,4,4 4,4,4,4"},
		{"ApplyTable of one row in five places", func() ([][]int, bool) { y, ok := impl.ApplyTable(same, row); return [][]int{y}, ok }, "4,4,4,4"},
		{"TimesTable of rows that overlap", func() ([][]int, bool) { return impl.TimesTable(overlapping, overlapping) }, "1,0 0,1"},
		{"ApplyTable of rows that overlap", func() ([][]int, bool) { y, ok := impl.ApplyTable(overlapping, long[3:]); return [][]int{y}, ok }, "0,1"},
		{"TwistClass along itself", func() ([][]int, bool) { y, ok := impl.TwistClass(2, row, row, 20); return [][]int{y}, ok }, "1,1,1,1"},
		{"TwistClass of classes that overlap", func() ([][]int, bool) { y, ok := impl.TwistClass(1, long[:2], long[1:3], 20); return [][]int{y}, ok }, "20,1"},
		{"TwistMatrix of a part of a list", func() ([][]int, bool) { return impl.TwistMatrix(1, long[1:3]) }, "1,0 -1,1"},
	}
	for _, c := range cases {
		first, ok := c.got()
		if got := tableOrNone(first, ok); got != c.want {
			t.Errorf("%s = %s, want %s", c.name, got, c.want)
		}
		spoil(first)
		if again := tableOrNone(c.got()); again != c.want {
			t.Errorf("%s = %s after a change of its last result, want %s", c.name, again, c.want)
		}
	}
	if impl.FormOf(2, row, row) != 0 || !impl.BraidHolds(2, row, row) || !impl.CommuteHolds(2, row, row) || !impl.BraidHolds(1, long[:2], long[1:3]) || impl.IsSymplectic(2, same) || !impl.IsSymplectic(1, overlapping) {
		t.Errorf("FormOf, IsSymplectic, BraidHolds or CommuteHolds of lists that share memory are wrong")
	}
	if !slices.Equal(row, []int{1, 1, 1, 1}) || !slices.Equal(long, []int{1, 0, 1, 0, 1}) {
		t.Errorf("the lists are changed to %v and %v", row, long)
	}
}
