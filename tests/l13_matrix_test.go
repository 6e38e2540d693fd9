package tests

import (
	"math"
	"math/big"
	"slices"
	"strings"
	"testing"

	"loop.example/g03105/impl"
)

func matrixWith(a int, b int, c int, d int) impl.Matrix {
	return impl.Matrix{A: a, B: b, C: c, D: d}
}

func numbersOf(m impl.Matrix) []int { return []int{m.A, m.B, m.C, m.D} }

// numbersText writes the numbers out, be they those of a matrix or not.
func numbersText(m impl.Matrix) string { return listText(numbersOf(m)) }

// matrixNamed reads a text apart from the program's own; the numbers may be any.
func matrixNamed(text string) impl.Matrix {
	var numbers []int
	for _, part := range strings.Split(text, ",") {
		n, _ := impl.ParseInt(part)
		numbers = append(numbers, n)
	}
	return matrixWith(numbers[0], numbers[1], numbers[2], numbers[3])
}

func matricesNamed(texts ...string) []impl.Matrix {
	var list []impl.Matrix
	for _, text := range texts {
		list = append(list, matrixNamed(text))
	}
	return list
}

// matrixOrNone writes a result out; "none" is the zero Matrix with false.
func matrixOrNone(m impl.Matrix, ok bool) string {
	if !ok && m == (impl.Matrix{}) {
		return "none"
	}
	if !ok {
		return "none, but not zero"
	}
	return numbersText(m)
}

// The functions below write the determinant and the products out, add columns for turns, and walk from sum to sum for a slope, as a second version.

// writtenMatrix takes the determinant with numbers of any size.
func writtenMatrix(m impl.Matrix) bool {
	for _, n := range numbersOf(m) {
		if isOutOfRange(n) {
			return false
		}
	}
	left := new(big.Int).Mul(big.NewInt(int64(m.A)), big.NewInt(int64(m.D)))
	right := new(big.Int).Mul(big.NewInt(int64(m.B)), big.NewInt(int64(m.C)))
	return left.Sub(left, right).Cmp(big.NewInt(1)) == 0
}

// matrixTimes asks for no limits.
func matrixTimes(m impl.Matrix, n impl.Matrix) impl.Matrix {
	return impl.Matrix{
		A: m.A*n.A + m.B*n.C,
		B: m.A*n.B + m.B*n.D,
		C: m.C*n.A + m.D*n.C,
		D: m.C*n.B + m.D*n.D,
	}
}

func timesText(m impl.Matrix, n impl.Matrix) string {
	if !writtenMatrix(m) || !writtenMatrix(n) || !writtenMatrix(matrixTimes(m, n)) {
		return "none"
	}
	return numbersText(matrixTimes(m, n))
}

func movedText(m impl.Matrix, s impl.Slope) string {
	if !writtenMatrix(m) || !triedSlope(s.P, s.Q) {
		return "none"
	}
	return triedQuotient(m.A*s.P+m.B*s.Q, m.C*s.P+m.D*s.Q)
}

// turnsText adds one column to the other, or takes it away, for each turn, as long as the numbers are in range.
func turnsText(text string) string {
	m := matrixWith(1, 0, 0, 1)
	if len(text) > 24 {
		return "none"
	}
	for _, by := range []byte(text) {
		switch by {
		case 'R':
			m.B, m.D = m.B+m.A, m.D+m.C
		case 'r':
			m.B, m.D = m.B-m.A, m.D-m.C
		case 'L':
			m.A, m.C = m.A+m.B, m.C+m.D
		case 'l':
			m.A, m.C = m.A-m.B, m.C-m.D
		default:
			return "none"
		}
		if !writtenMatrix(m) {
			return "none"
		}
	}
	return numbersText(m)
}

// walkedTurns goes from 1/1 to the slope, each time to the sum of the last slope with the nearest one above it (R) or below it (L).
func walkedTurns(s impl.Slope) string {
	if !triedSlope(s.P, s.Q) || s.P < 1 || s.Q < 1 {
		return ""
	}
	below, above := slopeWith(0, 1), slopeWith(1, 0)
	var text strings.Builder
	for text.Len() <= 24 {
		p, q := below.P+above.P, below.Q+above.Q
		switch side := s.P*q - p*s.Q; {
		case side == 0:
			return text.String()
		case side > 0:
			below = slopeWith(p, q)
			text.WriteString("R")
		default:
			above = slopeWith(p, q)
			text.WriteString("L")
		}
	}
	return ""
}

// poweredOrder tries the powers up to the 24th one, with numbers of any size.
func poweredOrder(m impl.Matrix) int {
	numbers := func(m impl.Matrix) []*big.Int {
		var list []*big.Int
		for _, n := range numbersOf(m) {
			list = append(list, big.NewInt(int64(n)))
		}
		return list
	}
	sum := func(a, b, c, d *big.Int) *big.Int {
		return new(big.Int).Add(new(big.Int).Mul(a, b), new(big.Int).Mul(c, d))
	}
	base, power := numbers(m), numbers(m)
	for k := 1; k <= 24; k++ {
		if slices.EqualFunc(power, numbers(matrixWith(1, 0, 0, 1)), func(a, b *big.Int) bool { return a.Cmp(b) == 0 }) {
			return k
		}
		power = []*big.Int{
			sum(power[0], base[0], power[1], base[2]),
			sum(power[0], base[1], power[1], base[3]),
			sum(power[2], base[0], power[3], base[2]),
			sum(power[2], base[1], power[3], base[3]),
		}
	}
	return 0
}

func writtenKind(m impl.Matrix) string {
	if text := numbersText(m); text == "1,0,0,1" || text == "-1,0,0,-1" {
		return "identity"
	}
	switch magnitude(m.A + m.D) {
	case 0, 1:
		return "periodic"
	case 2:
		return "twist"
	}
	return "stretch"
}

// smallMatrices are all matrices with numbers of magnitudes up to most.
func smallMatrices(most int) []impl.Matrix {
	var list []impl.Matrix
	for a := -most; a <= most; a++ {
		for b := -most; b <= most; b++ {
			for c := -most; c <= most; c++ {
				for d := -most; d <= most; d++ {
					if a*d-b*c == 1 {
						list = append(list, matrixWith(a, b, c, d))
					}
				}
			}
		}
	}
	return list
}

// limitMatrices have numbers at the limits and next to them, of every trace from -3 to 3 and of others.
func limitMatrices() []impl.Matrix {
	return matricesNamed(
		"1,1000,0,1", "1,-1000,0,1", "1,0,1000,1", "1,0,-1000,1", "-1,1000,0,-1", "-1,-1000,0,-1", "-1,0,1000,-1", "-1,0,-1000,-1",
		"1,999,0,1", "1,-999,0,1", "1,0,999,1", "-1,0,-999,-1",
		"1000,-1,1,0", "0,-1,1,1000", "-1000,-1,1,0", "0,1,-1,-1000", "1000,1,-1,0", "0,1,-1,1000",
		"1000,999,1,1", "1,1,999,1000", "-1000,-999,-1,-1", "-1,-1,-999,-1000", "1000,-999,-1,1", "1,999,1,1000", "1000,333,3,1",
		"999,1000,998,999", "-999,-1000,-998,-999", "999,-1000,-998,999", "999,998,1000,999",
		"1000,999,-999,-998", "-998,999,-999,1000", "998,999,-999,-1000", "-1000,999,-999,998", "901,1000,-810,-899", "901,-810,1000,-899", "-901,-1000,810,899", "931,-900,961,-929",
		"931,962,-901,-931", "931,901,-962,-931", "-931,962,-901,931", "836,997,-701,-836", "31,-26,37,-31",
		"962,993,-931,-961", "-961,931,-993,962", "693,997,-481,-692", "961,993,-931,-962", "-962,931,-993,961", "692,997,-481,-693",
		"958,991,-929,-961", "961,991,-929,-958", "859,995,-739,-856", "-961,929,-991,958",
		"610,377,377,233", "610,987,377,610", "-987,610,-610,377", "97,1000,42,433", "471,1000,203,431",
	)
}

func manyMatrices() []impl.Matrix { return append(smallMatrices(3), limitMatrices()...) }

// noMatrices have another determinant or a number out of range. In 64 bits, the determinant of some comes back to 1.
func noMatrices() []impl.Matrix {
	list := matricesNamed(
		"0,0,0,0", "1,1,1,1", "1,0,0,0", "0,0,0,1", "2,1,4,2", "1000,1000,1000,1000", "-1000,1000,1000,-1000", "0,1000,0,1000", "7,0,0,0",
		"1,0,0,-1", "-1,0,0,1", "0,1,1,0", "0,-1,-1,0", "1,1,1,0", "2,3,1,1", "1000,-999,-999,998", "377,610,233,377", "1,1000,0,-1", "2,1,1,0",
		"2,0,0,1", "1,0,0,2", "-1,0,0,-2", "1,1,-1,1", "2,2,1,2", "0,-2,1,0", "0,2,-1,0", "1000,998,1,1", "1,1000,0,2",
		"3,0,0,1", "2,0,0,2", "-2,0,0,1", "5,3,1,1", "1000,0,0,1000", "1000,1000,-1000,1000", "1000,1,1,-1000", "999,1000,999,999",
		"1,1001,0,1", "1,-1001,0,1", "1,0,1001,1", "1,0,-1001,1", "-1,1001,0,-1", "-1,0,-1001,-1",
		"1001,-1,1,0", "0,-1,1,1001", "-1001,-1,1,0", "0,1,-1,-1001", "1001,1000,1,1", "1,1,1000,1001", "-1001,-1000,-1,-1", "-1,-1,-1000,-1001",
		"1001,1000,-1000,-999", "-999,1000,-1000,1001", "1000,1001,999,1000", "1000,999,1001,1000", "1001,1,1000,1", "1,1000,1,1001",
		"1000000,999999,1,1", "1,999999999999,0,1", "1,0,-999999999999,1",
	)
	for _, far := range farMagnitudes {
		list = append(list,
			matrixWith(1, far, 0, 1), matrixWith(1, 0, far, 1), matrixWith(-1, far, 0, -1), matrixWith(-1, 0, far, -1),
			matrixWith(far, -1, 1, 0), matrixWith(0, -1, 1, far), matrixWith(far, far-1, 1, 1), matrixWith(1, 1, far-1, far),
			matrixWith(far, 0, 0, far), matrixWith(far, far, far, far), matrixWith(far, 0, 0, 1), matrixWith(0, far, -1, 0),
		)
	}
	return append(list,
		matrixWith(1<<32, -1, 1, 1<<32), matrixWith(1<<32, -1, 1, 1<<33), matrixWith(1, 1<<32, 1<<32, 1), matrixWith(1, 1<<40, 1<<30, 1),
		matrixWith(math.MinInt64, 1, -1, 0), matrixWith(math.MinInt64, -1, 1, 2), matrixWith(math.MaxInt64, 0, 0, math.MaxInt64), matrixWith(math.MinInt64+1, 0, 0, math.MinInt64+1),
		matrixWith(1, math.MinInt64, 2, 1), matrixWith(1, 2, math.MinInt64, 1),
	)
}

func TestIsMatrix(t *testing.T) {
	check := func(m impl.Matrix) bool {
		want := writtenMatrix(m)
		if got := impl.IsMatrix(m); got != want {
			t.Errorf("IsMatrix of %s = %v", numbersText(m), got)
		}
		return want
	}
	counts := map[bool]int{}
	for a := -7; a <= 7; a++ {
		for b := -7; b <= 7; b++ {
			for c := -7; c <= 7; c++ {
				for d := -7; d <= 7; d++ {
					counts[check(matrixWith(a, b, c, d))]++
				}
			}
		}
	}
	edges := []int{-1001, -1000, -999, -998, -2, -1, 0, 1, 2, 998, 999, 1000, 1001}
	for _, a := range edges {
		for _, b := range edges {
			for _, c := range edges {
				for _, d := range edges {
					counts[check(matrixWith(a, b, c, d))]++
				}
			}
		}
	}
	if counts[true] < 700 || counts[false] < 1000 {
		t.Errorf("%d matrices, %d others", counts[true], counts[false])
	}
	for _, m := range manyMatrices() {
		if !check(m) {
			t.Errorf("%s has a determinant other than 1", numbersText(m))
		}
	}
	for _, m := range noMatrices() {
		if check(m) {
			t.Errorf("%s is a matrix", numbersText(m))
		}
	}
}

// TestMatricesKeepTheForm looks at a matrix as a table of chapter 11, which keeps FormOf exactly if it is a matrix.
func TestMatricesKeepTheForm(t *testing.T) {
	for _, m := range slices.Concat(manyMatrices(), noMatrices()) {
		table := [][]int{{m.A, m.B}, {m.C, m.D}}
		if got, want := impl.IsMatrix(m), impl.IsSymplectic(1, table); got != want {
			t.Errorf("IsMatrix of %s = %v, IsSymplectic = %v", numbersText(m), got, want)
		}
	}
}

func TestTimesMatrixCases(t *testing.T) {
	cases := []struct{ m, n, want string }{
		{"1,1,0,1", "1,0,1,1", "2,1,1,1"},
		{"1,0,1,1", "1,1,0,1", "1,1,1,2"},
		{"1,1,0,1", "1,1,0,1", "1,2,0,1"},
		{"2,1,1,1", "2,1,1,1", "5,3,3,2"},
		{"2,1,1,1", "1,-1,-1,2", "1,0,0,1"},
		{"0,-1,1,0", "0,-1,1,0", "-1,0,0,-1"},
		{"0,-1,1,0", "2,1,1,1", "-1,-1,2,1"},
		{"2,1,1,1", "0,-1,1,0", "1,-2,1,-1"},
		{"1,2,3,7", "5,3,3,2", "11,7,36,23"},
		{"5,3,3,2", "1,2,3,7", "14,31,9,20"},
		{"-1,0,0,-1", "-1,0,0,-1", "1,0,0,1"},
		{"-1,0,0,-1", "3,2,4,3", "-3,-2,-4,-3"},
		// One number after the other comes to a limit, and past it.
		{"1,999,0,1", "1,1,0,1", "1,1000,0,1"},
		{"1,1000,0,1", "1,1,0,1", "none"},
		{"1,-999,0,1", "1,-1,0,1", "1,-1000,0,1"},
		{"1,-1000,0,1", "1,-1,0,1", "none"},
		{"1,0,999,1", "1,0,1,1", "1,0,1000,1"},
		{"1,0,1000,1", "1,0,1,1", "none"},
		{"1,0,-999,1", "1,0,-1,1", "1,0,-1000,1"},
		{"1,0,-1000,1", "1,0,-1,1", "none"},
		{"1,999,0,1", "1,0,1,1", "1000,999,1,1"},
		{"1,1000,0,1", "1,0,1,1", "none"},
		{"1,0,999,1", "1,1,0,1", "1,1,999,1000"},
		{"1,0,1000,1", "1,1,0,1", "none"},
		{"-1,-999,0,-1", "1,0,1,1", "-1000,-999,-1,-1"},
		{"-1,-1000,0,-1", "1,0,1,1", "none"},
		{"-1,0,-999,-1", "1,1,0,1", "-1,-1,-999,-1000"},
		{"-1,0,-1000,-1", "1,1,0,1", "none"},
		{"1000,999,1,1", "1,0,1,1", "none"},
		{"1,1,999,1000", "1,1,0,1", "none"},
		{"1,1000,0,1", "1,-1000,0,1", "1,0,0,1"},
		{"1,1000,0,1", "1,0,1000,1", "none"},
		{"1,0,1000,1", "1,1000,0,1", "none"},
		{"31,30,1,1", "31,30,1,1", "991,960,32,31"},
		{"32,31,1,1", "32,31,1,1", "none"},
		{"610,377,377,233", "1,1,0,1", "610,987,377,610"},
		{"610,987,377,610", "1,0,1,1", "none"},
		{"610,987,377,610", "1,-1,0,1", "610,377,377,233"},
		{"999,1000,998,999", "999,-1000,-998,999", "1,0,0,1"},
		{"999,1000,998,999", "999,1000,998,999", "none"},
		// A product that would be a matrix, of others.
		{"1,0,0,-1", "1,0,0,-1", "none"},
		{"0,1,1,0", "0,1,1,0", "none"},
		{"1,1001,0,1", "1,-1,0,1", "none"},
		{"1,-1,0,1", "1,1001,0,1", "none"},
		{"1,0,-1001,1", "1,0,1,1", "none"},
		{"1,0,1,1", "1,0,-1001,1", "none"},
		{"1001,-1,1,0", "1,0,1,1", "none"},
		{"1,1001,0,1", "1,-1001,0,1", "none"},
		{"0,0,0,0", "1,0,0,1", "none"},
		{"1,0,0,1", "0,0,0,0", "none"},
		{"2,0,0,1", "1,0,0,1", "none"},
		{"1,0,0,1", "1,0,0,2", "none"},
	}
	for _, c := range cases {
		if got := matrixOrNone(impl.TimesMatrix(matrixNamed(c.m), matrixNamed(c.n))); got != c.want {
			t.Errorf("TimesMatrix of %s and %s = %s, want %s", c.m, c.n, got, c.want)
		}
	}
}

func TestTimesMatrixPairs(t *testing.T) {
	matrices := manyMatrices()
	counts := map[bool]int{}
	for _, m := range matrices {
		for _, n := range matrices {
			product, ok := impl.TimesMatrix(m, n)
			counts[ok]++
			if got, want := matrixOrNone(product, ok), timesText(m, n); got != want {
				t.Errorf("TimesMatrix of %s and %s = %s, want %s", numbersText(m), numbersText(n), got, want)
			}
			table, fine := impl.TimesTable([][]int{{m.A, m.B}, {m.C, m.D}}, [][]int{{n.A, n.B}, {n.C, n.D}})
			if fine != ok || ok && listText(slices.Concat(table...)) != numbersText(product) {
				t.Errorf("TimesMatrix of %s and %s = %s, but TimesTable %v", numbersText(m), numbersText(n), matrixOrNone(product, ok), table)
			}
			if ok && !impl.IsMatrix(product) {
				t.Errorf("TimesMatrix of %s and %s = %s is no matrix", numbersText(m), numbersText(n), numbersText(product))
			}
		}
	}
	if counts[true] < 10000 || counts[false] < 1000 {
		t.Errorf("%d products succeed, %d fail", counts[true], counts[false])
	}
}

// TestProductsOfThree has both ways to put the brackets.
func TestProductsOfThree(t *testing.T) {
	matrices := smallMatrices(2)
	for _, a := range matrices {
		for _, b := range matrices {
			for _, c := range matrices {
				left, _ := impl.TimesMatrix(a, b)
				left, ok := impl.TimesMatrix(left, c)
				right, _ := impl.TimesMatrix(b, c)
				right, fine := impl.TimesMatrix(a, right)
				if !ok || !fine || left != right {
					t.Fatalf("the products of %s, %s and %s are %s and %s", numbersText(a), numbersText(b), numbersText(c), matrixOrNone(left, ok), matrixOrNone(right, fine))
				}
			}
		}
	}
}

// TestProductsMoveSlopes moves a slope by a product, and by its second and then by its first matrix.
func TestProductsMoveSlopes(t *testing.T) {
	slopes := manySlopes()
	compared := 0
	for i, m := range manyMatrices() {
		for j, n := range manyMatrices() {
			product, ok := impl.TimesMatrix(m, n)
			if !ok {
				continue
			}
			for k := range 8 {
				s := slopes[(5*i+7*j+13*k)%len(slopes)]
				between, ok := impl.MoveSlope(n, s)
				if !ok {
					continue
				}
				twice, ok := impl.MoveSlope(m, between)
				once, fine := impl.MoveSlope(product, s)
				if slopeOrNone(twice, ok) != slopeOrNone(once, fine) {
					t.Fatalf("MoveSlope of %v by %s and then by %s = %s, by their product %s", s, numbersText(n), numbersText(m), slopeOrNone(twice, ok), slopeOrNone(once, fine))
				}
				if ok {
					compared++
				}
			}
		}
	}
	if compared < 50000 {
		t.Errorf("only %d slopes were moved twice", compared)
	}
}

func TestInverseMatrixCases(t *testing.T) {
	cases := map[string]string{
		"1,0,0,1":            "1,0,0,1",
		"-1,0,0,-1":          "-1,0,0,-1",
		"1,1,0,1":            "1,-1,0,1",
		"1,0,1,1":            "1,0,-1,1",
		"2,1,1,1":            "1,-1,-1,2",
		"0,-1,1,0":           "0,1,-1,0",
		"1,2,3,7":            "7,-2,-3,1",
		"-5,2,2,-1":          "-1,-2,-2,-5",
		"1000,999,1,1":       "1,-999,-1,1000",
		"1,1000,0,1":         "1,-1000,0,1",
		"1,0,-1000,1":        "1,0,1000,1",
		"-1000,-1,1,0":       "0,1,-1,-1000",
		"999,1000,998,999":   "999,-1000,-998,999",
		"998,999,-999,-1000": "-1000,-999,999,998",
		"1,1001,0,1":         "0,0,0,0",
		"1001,1000,1,1":      "0,0,0,0",
		"1,0,0,-1":           "0,0,0,0",
		"1,0,0,2":            "0,0,0,0",
		"1,2,2,4":            "0,0,0,0",
		"0,0,0,0":            "0,0,0,0",
	}
	for text, want := range cases {
		if got := numbersText(impl.InverseMatrix(matrixNamed(text))); got != want {
			t.Errorf("InverseMatrix of %s = %s, want %s", text, got, want)
		}
	}
}

func TestInverseMatrices(t *testing.T) {
	slopes := manySlopes()
	for i, m := range append(smallMatrices(6), limitMatrices()...) {
		inverse := impl.InverseMatrix(m)
		if want := matrixWith(m.D, -m.B, -m.C, m.A); inverse != want {
			t.Errorf("InverseMatrix of %s = %s", numbersText(m), numbersText(inverse))
		}
		for _, pair := range [][2]impl.Matrix{{m, inverse}, {inverse, m}} {
			if got := matrixOrNone(impl.TimesMatrix(pair[0], pair[1])); got != "1,0,0,1" {
				t.Errorf("TimesMatrix of %s and %s = %s", numbersText(pair[0]), numbersText(pair[1]), got)
			}
		}
		if got := impl.InverseMatrix(inverse); got != m {
			t.Errorf("InverseMatrix twice of %s = %s", numbersText(m), numbersText(got))
		}
		for k := range 12 {
			s := slopes[(i+17*k)%len(slopes)]
			moved, ok := impl.MoveSlope(m, s)
			if !ok {
				continue
			}
			if got := slopeOrNone(impl.MoveSlope(inverse, moved)); got != quotientText(s.P, s.Q) {
				t.Errorf("MoveSlope of %v by %s and back = %s", s, numbersText(m), got)
			}
		}
	}
}

// TestInverseOfProducts has the inverses in the opposite order.
func TestInverseOfProducts(t *testing.T) {
	for _, m := range smallMatrices(3) {
		for _, n := range smallMatrices(3) {
			product, _ := impl.TimesMatrix(m, n)
			if got := matrixOrNone(impl.TimesMatrix(impl.InverseMatrix(n), impl.InverseMatrix(m))); got != numbersText(impl.InverseMatrix(product)) {
				t.Errorf("InverseMatrix of the product of %s and %s = %s, the product of the inverses %s", numbersText(m), numbersText(n), numbersText(impl.InverseMatrix(product)), got)
			}
		}
	}
}

func TestMoveSlopeCases(t *testing.T) {
	cases := []struct{ m, s, want string }{
		{"1,1,0,1", "0/1", "1/1"},
		{"1,1,0,1", "1/1", "2/1"},
		{"1,1,0,1", "2/3", "5/3"},
		{"1,1,0,1", "-1/1", "0/1"},
		{"1,1,0,1", "1/0", "1/0"},
		{"1,0,1,1", "1/0", "1/1"},
		{"1,0,1,1", "0/1", "0/1"},
		{"1,0,1,1", "2/3", "2/5"},
		{"1,0,1,1", "-1/1", "1/0"},
		{"1,0,1,1", "-2/1", "2/1"},
		{"1,0,1,1", "-3/2", "3/1"},
		{"2,1,1,1", "1/1", "3/2"},
		{"2,1,1,1", "1/0", "2/1"},
		{"2,1,1,1", "0/1", "1/1"},
		{"2,1,1,1", "-1/2", "0/1"},
		{"2,1,1,1", "-1/1", "1/0"},
		{"2,1,1,1", "-3/2", "4/1"},
		{"1,-1,-1,2", "1/1", "0/1"},
		{"0,-1,1,0", "2/3", "-3/2"},
		{"0,-1,1,0", "-2/3", "3/2"},
		{"0,-1,1,0", "1/0", "0/1"},
		{"0,-1,1,0", "0/1", "1/0"},
		{"0,1,-1,0", "0/1", "1/0"},
		{"0,1,-1,0", "1/0", "0/1"},
		{"1,2,3,7", "1/0", "1/3"},
		{"1,2,3,7", "0/1", "2/7"},
		{"-1,2,-3,5", "1/0", "1/3"},
		{"-1,-2,1,1", "1/0", "-1/1"},
		{"1,0,0,1", "-7/12", "-7/12"},
		{"-1,0,0,-1", "-7/12", "-7/12"},
		{"-1,0,0,-1", "1/0", "1/0"},
		// The limits: a number comes to 1000, and to 1001 or more.
		{"1,1,0,1", "999/1", "1000/1"},
		{"1,1,0,1", "1000/1", "none"},
		{"1,1,0,1", "-1000/1", "-999/1"},
		{"1,-1,0,1", "-999/1", "-1000/1"},
		{"1,-1,0,1", "-1000/1", "none"},
		{"1,0,1,1", "1/999", "1/1000"},
		{"1,0,1,1", "1/1000", "none"},
		{"1,0,-1,1", "-1/999", "-1/1000"},
		{"1,0,-1,1", "-1/1000", "none"},
		{"1,0,-1,1", "1/1000", "1/999"},
		{"1,0,1,1", "1000/1", "none"},
		{"1,0,-1,1", "1000/1", "-1000/999"},
		{"1,1,0,1", "1000/999", "none"},
		{"1,-1,0,1", "1000/999", "1/999"},
		{"1,1000,0,1", "1/0", "1/0"},
		{"1,1000,0,1", "0/1", "1000/1"},
		{"1,1000,0,1", "1/1", "none"},
		{"1,1000,0,1", "-1/1", "999/1"},
		{"1,1000,0,1", "-1000/1", "0/1"},
		{"1,0,1000,1", "1/0", "1/1000"},
		{"1,0,1000,1", "0/1", "0/1"},
		{"1,0,1000,1", "1/1", "none"},
		{"1,0,1000,1", "-1/1000", "1/0"},
		{"1000,999,1,1", "1/0", "1000/1"},
		{"1000,999,1,1", "0/1", "999/1"},
		{"1000,999,1,1", "-1/1", "1/0"},
		{"1000,999,1,1", "1/1", "none"},
		{"999,1000,998,999", "1/0", "999/998"},
		{"999,1000,998,999", "0/1", "1000/999"},
		{"999,1000,998,999", "1000/999", "none"},
		{"999,-1000,-998,999", "1000/999", "0/1"},
		// No matrix or no slope, though the result would be one.
		{"1,0,0,-1", "1/2", "none"},
		{"2,0,0,1", "1/2", "none"},
		{"0,1,1,0", "1/2", "none"},
		{"1,1001,0,1", "-1000/1", "none"},
		{"1,1001,0,1", "1/0", "none"},
		{"0,0,0,0", "1/2", "none"},
		{"1,0,0,1", "2/4", "none"},
		{"1,0,0,1", "-1/0", "none"},
		{"1,0,0,1", "1/-2", "none"},
		{"1,0,0,1", "0/0", "none"},
		{"1,-1,0,1", "1001/1", "none"},
		{"1,0,-1,1", "1/1001", "none"},
	}
	for _, c := range cases {
		if got := slopeOrNone(impl.MoveSlope(matrixNamed(c.m), slopeNamed(c.s))); got != c.want {
			t.Errorf("MoveSlope by %s of %s = %s, want %s", c.m, c.s, got, c.want)
		}
	}
}

// TestMovedSlopes compares with the definition and lets two slopes cross as often as before.
func TestMovedSlopes(t *testing.T) {
	slopes := manySlopes()
	counts := map[bool]int{}
	for i, m := range manyMatrices() {
		for j, s := range slopes {
			moved, ok := impl.MoveSlope(m, s)
			counts[ok]++
			if got, want := slopeOrNone(moved, ok), movedText(m, s); got != want {
				t.Fatalf("MoveSlope by %s of %v = %s, want %s", numbersText(m), s, got, want)
			}
			if !ok {
				continue
			}
			other := slopes[(3*i+11*j)%len(slopes)]
			if second, fine := impl.MoveSlope(m, other); fine && impl.CrossNumber(moved, second) != impl.CrossNumber(s, other) {
				t.Fatalf("MoveSlope by %s changes how often %v and %v cross", numbersText(m), s, other)
			}
			// The opposite numbers move slopes alike.
			if got := slopeOrNone(impl.MoveSlope(matrixWith(-m.A, -m.B, -m.C, -m.D), s)); got != slopeOrNone(moved, ok) {
				t.Fatalf("MoveSlope by the opposite of %s of %v = %s", numbersText(m), s, got)
			}
		}
	}
	if counts[true] < 5000 || counts[false] < 1000 {
		t.Errorf("%d slopes were moved, %d not", counts[true], counts[false])
	}
}

func TestTurnsOfCases(t *testing.T) {
	rl := strings.Repeat("RL", 12)
	cases := map[string]string{
		"":                       "1,0,0,1",
		"R":                      "1,1,0,1",
		"L":                      "1,0,1,1",
		"r":                      "1,-1,0,1",
		"l":                      "1,0,-1,1",
		"RL":                     "2,1,1,1",
		"LR":                     "1,1,1,2",
		"rl":                     "2,-1,-1,1",
		"lr":                     "1,-1,-1,2",
		"Rl":                     "0,1,-1,1",
		"lR":                     "1,1,-1,0",
		"rL":                     "0,-1,1,1",
		"RrLl":                   "1,0,0,1",
		"RLlr":                   "1,0,0,1",
		"RLRL":                   "5,3,3,2",
		"RRL":                    "3,2,1,1",
		"LLR":                    "1,1,2,3",
		"RlR":                    "0,1,-1,0",
		"rLr":                    "0,-1,1,0",
		"RlRRlR":                 "-1,0,0,-1",
		"RlRlRl":                 "-1,0,0,-1",
		strings.Repeat("RlR", 4): "1,0,0,1",
		strings.Repeat("R", 24):  "1,24,0,1",
		strings.Repeat("L", 24):  "1,0,24,1",
		strings.Repeat("r", 24):  "1,-24,0,1",
		strings.Repeat("l", 24):  "1,0,-24,1",
		strings.Repeat("Rl", 12): "1,0,0,1",
		strings.Repeat("Rr", 12): "1,0,0,1",
		strings.Repeat("R", 25):  "none",
		strings.Repeat("l", 25):  "none",
		strings.Repeat("Rr", 13): "none",
		strings.Repeat("Rl", 13): "none",
		strings.Repeat("R", 12) + strings.Repeat("L", 12): "145,12,12,1",
		// The numbers come to 1000, and past it, at the end and on the way.
		"RRLLLRRRRLLLRRRRRRRRRR":   "97,1000,42,433",
		"RRLLLRRRRLLLRRRRRRRRRRR":  "none",
		"RRLLLRRRRLLLRRRRRRRRRRRr": "none",
		"rrlllrrrrlllrrrrrrrrrr":   "97,-1000,-42,433",
		"rrlllrrrrlllrrrrrrrrrrr":  "none",
		"RRLLLRRRRRRRRLLLLLLLLRR":  "471,1000,203,431",
		"LLRRRLLLLRRRLLLLLLLLLL":   "433,42,1000,97",
		"LLRRRLLLLRRRLLLLLLLLLLL":  "none",
		"LLRRRLLLLRRRLLLLLLLLLLLl": "none",
		rl[:14]:                    "610,377,377,233",
		rl[:15]:                    "610,987,377,610",
		rl[:16]:                    "none",
		rl[:16] + "l":              "none",
		rl[:16] + "lr":             "none",
		rl[:16] + "lrlrlrlr":       "none",
		rl:                         "none",
		rl[:15] + "rlrlrlr":        "34,21,21,13",
		rl[:12] + "lrlrlrlrlrlr":   "1,0,0,1",
	}
	for text, want := range cases {
		if got := matrixOrNone(impl.TurnsOf(text)); got != want {
			t.Errorf("TurnsOf(%q) = %s, want %s", text, got, want)
		}
	}
}

// textsOf has all texts of up to n bytes from some.
func textsOf(bytes string, n int) []string {
	texts := []string{""}
	for i := 0; i < len(texts); i++ {
		if len(texts[i]) < n {
			for _, by := range []byte(bytes) {
				texts = append(texts, texts[i]+string([]byte{by}))
			}
		}
	}
	return texts
}

// TestTurnsOfShortTexts compares with columns that are added and with the product of both halves.
func TestTurnsOfShortTexts(t *testing.T) {
	for i, text := range textsOf("RLrl", 7) {
		m, ok := impl.TurnsOf(text)
		if got, want := matrixOrNone(m, ok), turnsText(text); got != want {
			t.Fatalf("TurnsOf(%q) = %s, want %s", text, got, want)
		}
		at := i % (len(text) + 1)
		first, _ := impl.TurnsOf(text[:at])
		second, _ := impl.TurnsOf(text[at:])
		if got := matrixOrNone(impl.TimesMatrix(first, second)); got != numbersText(m) {
			t.Fatalf("TurnsOf(%q) = %s, the product of its parts is %s", text, numbersText(m), got)
		}
	}
}

// stirredTurns is a text of n bytes, of which few are turned back if few is true.
func stirredTurns(n int, few bool, k int) string {
	bytes, text := "RLrl", make([]byte, n)
	if few {
		bytes = "RLRLRLRLRLRRLLRRLLRl"
	}
	for i := range text {
		k = (k*1103515245 + 12345) % (1 << 31)
		text[i] = bytes[k>>8%len(bytes)]
	}
	return string(text)
}

func TestTurnsOfLongTexts(t *testing.T) {
	counts := map[bool]int{}
	for k := range 20000 {
		text := stirredTurns(8+k%18, k%3 == 0, k)
		m, ok := impl.TurnsOf(text)
		counts[ok]++
		if got, want := matrixOrNone(m, ok), turnsText(text); got != want {
			t.Fatalf("TurnsOf(%q) = %s, want %s", text, got, want)
		}
	}
	if counts[true] < 5000 || counts[false] < 2000 {
		t.Errorf("%d texts have a matrix, %d none", counts[true], counts[false])
	}
}

func TestTurnsOfRejects(t *testing.T) {
	texts := []string{
		"x", "RX", "XR", "RXL", "R L", " R", "R ", " ", "R\n", "\nR", "\tR", "-", "1", "0", "R1", "1R", "R2", "RL,", "R,L", "r-", "+R", "R\x00", "\x00", "\x00R",
		"\xff", "R\xff", "\xd2", "\xcc", "S", "Q", "M", "K", "s", "q", "m", "k", "b", "RLB", "b l", "empty", "identity", "\u211b", "\u2112", "\uff32", "\uff2c", "R\u0300", "\u0280", "\u042f",
		"RLRLRLRLRLRLRLRLRLRLRLR?", "?RLRLRLRLRLRLRLRLRLRLRLR", "RLRLRLRLRLRLR?RLRLRLRLR", "RrRrRrRrRrRrRrRrRrRrRrR?", "RrRrRrRrRrRrRrRrRrRrRrR\x00",
		strings.Repeat("R", 26), strings.Repeat("r", 100), strings.Repeat("RLlr", 7), strings.Repeat("Rr", 500000), strings.Repeat("L", 256), strings.Repeat("L", 65536), strings.Repeat("x", 24), strings.Repeat("x", 25),
	}
	for _, text := range texts {
		if got := matrixOrNone(impl.TurnsOf(text)); got != "none" {
			t.Errorf("TurnsOf(%q) = %s", text[:min(len(text), 40)], got)
		}
	}
	for b := range 256 {
		by := string([]byte{byte(b)})
		for _, text := range []string{by, "R" + by, by + "L", "r" + by + "l", by + by, strings.Repeat("Rr", 11) + "l" + by} {
			if got, want := matrixOrNone(impl.TurnsOf(text)), turnsText(text); got != want || strings.Contains("RLrl", by) == (got == "none") {
				t.Errorf("TurnsOf(%q) = %s, want %s", text, got, want)
			}
		}
	}
}

func TestTurnsToCases(t *testing.T) {
	cases := map[string]string{
		"1/1":       "",
		"2/1":       "R",
		"1/2":       "L",
		"3/1":       "RR",
		"1/3":       "LL",
		"3/2":       "RL",
		"2/3":       "LR",
		"5/3":       "RLR",
		"3/5":       "LRL",
		"5/2":       "RRL",
		"7/3":       "RRLL",
		"3/7":       "LLRR",
		"7/12":      "LRLLR",
		"25/1":      strings.Repeat("R", 24),
		"1/25":      strings.Repeat("L", 24),
		"24/1":      strings.Repeat("R", 23),
		"26/1":      "",
		"1/26":      "",
		"27/1":      "",
		"26/25":     "",
		"25/24":     "R" + strings.Repeat("L", 23),
		"24/25":     "L" + strings.Repeat("R", 23),
		"25/26":     "",
		"24/23":     "R" + strings.Repeat("L", 22),
		"13/168":    strings.Repeat("L", 12) + "R" + strings.Repeat("L", 11),
		"168/13":    strings.Repeat("R", 12) + "L" + strings.Repeat("R", 11),
		"13/181":    "",
		"181/13":    "",
		"987/610":   "RLRLRLRLRLRLRL",
		"610/987":   "LRLRLRLRLRLRLR",
		"1000/1":    "",
		"1/1000":    "",
		"1000/999":  "",
		"999/1000":  "",
		"1000/7":    "",
		"0/1":       "",
		"1/0":       "",
		"-1/1":      "",
		"-2/1":      "",
		"-1/2":      "",
		"-3/2":      "",
		"-25/1":     "",
		"-1000/999": "",
		"0/0":       "",
		"2/2":       "",
		"4/2":       "",
		"2/4":       "",
		"3/3":       "",
		"1/-2":      "",
		"-3/-2":     "",
		"2/-1":      "",
		"2/0":       "",
		"0/2":       "",
		"-1/0":      "",
		"1001/1000": "",
		"1001/1":    "",
		"1/1001":    "",
		// These have few turns, but a number out of range.
		"1001/619":    "",
		"619/1001":    "",
		"1597/987":    "",
		"987/1597":    "",
		"75025/46368": "",
		"46368/75025": "",
	}
	for text, want := range cases {
		if got := impl.TurnsTo(slopeNamed(text)); got != want {
			t.Errorf("TurnsTo of %s = %q, want %q", text, got, want)
		}
	}
}

// checkTurnsTo compares with a walk and goes it.
func checkTurnsTo(t *testing.T, s impl.Slope) bool {
	t.Helper()
	text := impl.TurnsTo(s)
	if want := walkedTurns(s); text != want {
		t.Errorf("TurnsTo of %v = %q, want %q", s, text, want)
	}
	if text == "" {
		return false
	}
	m, ok := impl.TurnsOf(text)
	if !ok {
		t.Errorf("TurnsTo of %v = %q has no matrix", s, text)
	}
	if got := slopeOrNone(impl.MoveSlope(m, slopeWith(1, 1))); got != quotientText(s.P, s.Q) {
		t.Errorf("TurnsTo of %v = %q moves 1/1 to %s", s, text, got)
	}
	return true
}

func TestTurnsTo(t *testing.T) {
	counts := map[bool]int{}
	for _, s := range append(smallSlopes(90), limitSlopes()...) {
		counts[checkTurnsTo(t, s)]++
	}
	for _, n := range []int{377, 610, 720, 987, 997, 998, 999, 1000} {
		for m := 1; m <= 1000; m++ {
			if triedSlope(n, m) {
				counts[checkTurnsTo(t, slopeWith(n, m))]++
				counts[checkTurnsTo(t, slopeWith(m, n))]++
			}
		}
	}
	if counts[true] < 4000 || counts[false] < 4000 {
		t.Errorf("%d slopes have turns, %d none", counts[true], counts[false])
	}
}

// TestTurnsToIsShortest has all texts of R and L of up to 12 bytes: no two of them move 1/1 to the same slope.
func TestTurnsToIsShortest(t *testing.T) {
	seen := map[impl.Slope]bool{}
	for _, text := range textsOf("RL", 12) {
		m, ok := impl.TurnsOf(text)
		s, fine := impl.MoveSlope(m, slopeWith(1, 1))
		if !ok || !fine {
			t.Fatalf("TurnsOf(%q) = %s moves 1/1 to %s", text, matrixOrNone(m, ok), slopeOrNone(s, fine))
		}
		if got := impl.TurnsTo(s); got != text {
			t.Fatalf("TurnsTo of %v = %q, want %q", s, got, text)
		}
		seen[s] = true
	}
	if len(seen) != 1<<13-1 {
		t.Errorf("%d slopes", len(seen))
	}
}

// TestTurnsToLongest has slopes with 24 turns, in two and in three runs, and those with one more.
func TestTurnsToLongest(t *testing.T) {
	compared := 0
	for k := 0; k <= 24; k++ {
		for j := k; j <= 24; j++ {
			for _, rights := range []string{"RL", "LR"} {
				one, other := rights[:1], rights[1:]
				text := strings.Repeat(one, k) + strings.Repeat(other, j-k) + strings.Repeat(one, 24-j)
				m, ok := impl.TurnsOf(text)
				s, fine := impl.MoveSlope(m, slopeWith(1, 1))
				if !ok || !fine {
					continue
				}
				compared++
				if got := impl.TurnsTo(s); got != text {
					t.Errorf("TurnsTo of %v = %q, want %q", s, got, text)
				}
				for _, more := range []string{"R", "L"} {
					turn, _ := impl.TurnsOf(more)
					longer, ok := impl.MoveSlope(turn, s)
					if ok && impl.TurnsTo(longer) != "" {
						t.Errorf("TurnsTo of %v = %q", longer, impl.TurnsTo(longer))
					}
				}
			}
		}
	}
	if compared < 300 {
		t.Errorf("only %d slopes have 24 turns", compared)
	}
}

func TestTraceOf(t *testing.T) {
	cases := map[string]int{
		"1,0,0,1": 2, "-1,0,0,-1": -2, "2,1,1,1": 3, "-2,-1,-1,-1": -3, "0,-1,1,0": 0, "0,-1,1,1": 1, "0,-1,1,-1": -1, "1,1,0,1": 2, "-1,1,0,-1": -2,
		"1000,-1,1,0": 1000, "-1000,-1,1,0": -1000, "1000,999,1,1": 1001, "999,1000,998,999": 1998, "-999,-1000,-998,-999": -1998, "1000,999,-999,-998": 2, "998,999,-999,-1000": -2,
		"0,0,0,0": 0, "1,0,0,2": 0, "1,0,0,0": 0, "7,0,0,0": 0, "1001,1000,1,1": 0, "1,1001,0,1": 0, "2,0,0,2": 0,
	}
	for text, want := range cases {
		if got := impl.TraceOf(matrixNamed(text)); got != want {
			t.Errorf("TraceOf %s = %d, want %d", text, got, want)
		}
	}
	for _, m := range append(smallMatrices(6), limitMatrices()...) {
		if got := impl.TraceOf(m); got != m.A+m.D || impl.TraceOf(impl.InverseMatrix(m)) != got {
			t.Errorf("TraceOf %s = %d, of the inverse %d", numbersText(m), got, impl.TraceOf(impl.InverseMatrix(m)))
		}
	}
}

func TestKindOf(t *testing.T) {
	cases := map[string][]string{
		"identity": {"1,0,0,1", "-1,0,0,-1"},
		"periodic": {
			"0,-1,1,0", "0,1,-1,0", "0,-1,1,1", "0,-1,1,-1", "1,-1,1,0", "-1,-1,1,0", "1,1,-1,0", "2,-5,1,-2", "1,-2,1,-1", "2,-3,1,-1", "1,-3,1,-2",
			"931,962,-901,-931", "836,997,-701,-836", "962,993,-931,-961", "961,993,-931,-962", "-962,931,-993,961", "692,997,-481,-693",
		},
		"twist": {
			"1,1,0,1", "1,-1,0,1", "1,0,1,1", "1,0,-1,1", "1,1000,0,1", "1,0,-1000,1", "2,1,-1,0", "0,1,-1,2", "2,-1,1,0", "3,4,-1,-1", "3,-2,2,-1",
			"-1,1,0,-1", "-1,-1,0,-1", "-1,0,1,-1", "-1,0,-1,-1", "-1,1000,0,-1", "-2,1,-1,0", "0,1,-1,-2", "-3,2,-2,1",
			"1000,999,-999,-998", "998,999,-999,-1000", "-1000,999,-999,998", "901,1000,-810,-899", "-901,-1000,810,899",
		},
		"stretch": {
			"2,1,1,1", "1,1,1,2", "-2,-1,-1,-1", "3,1,-1,0", "-3,1,-1,0", "0,1,-1,3", "5,3,3,2", "1000,-1,1,0", "0,1,-1,-1000", "999,1000,998,999", "-1000,-999,-1,-1",
			"958,991,-929,-961", "961,991,-929,-958", "4,1,-1,0", "-2,1,1,-1", "610,377,377,233",
		},
		"": {"0,0,0,0", "1,0,0,-1", "1,0,0,2", "0,1,1,0", "1,1,1,1", "1,1001,0,1", "0,-1001,1,0", "1001,1000,1,1", "2,0,0,2"},
	}
	for want, texts := range cases {
		for _, text := range texts {
			if got := impl.KindOf(matrixNamed(text)); got != want {
				t.Errorf("KindOf %s = %q, want %q", text, got, want)
			}
		}
	}
	counts := map[string]int{}
	for _, m := range append(smallMatrices(7), limitMatrices()...) {
		got := impl.KindOf(m)
		counts[got]++
		if want := writtenKind(m); got != want {
			t.Errorf("KindOf %s = %q, want %q", numbersText(m), got, want)
		}
	}
	if counts["identity"] != 2 || counts["periodic"] < 50 || counts["twist"] < 50 || counts["stretch"] < 100 || len(counts) != 4 {
		t.Errorf("the kinds are %v", counts)
	}
}

// TestTracesTellKinds has matrices of each trace from -3 to 3, the identity aside.
func TestTracesTellKinds(t *testing.T) {
	kinds := map[int]string{-3: "stretch", -2: "twist", -1: "periodic", 0: "periodic", 1: "periodic", 2: "twist", 3: "stretch"}
	orders := map[int]int{-3: 0, -2: 0, -1: 3, 0: 4, 1: 6, 2: 0, 3: 0}
	counts := map[int]int{}
	for _, m := range append(smallMatrices(7), limitMatrices()...) {
		trace := m.A + m.D
		if m.B == 0 && m.C == 0 || magnitude(trace) > 3 {
			continue
		}
		counts[trace]++
		if got := impl.KindOf(m); got != kinds[trace] {
			t.Errorf("KindOf %s = %q", numbersText(m), got)
		}
		if got := impl.OrderOf(m); got != orders[trace] {
			t.Errorf("OrderOf %s = %d", numbersText(m), got)
		}
		if got := len(impl.FixedSlopes(m)); got != 1 && kinds[trace] == "twist" || got != 0 && kinds[trace] != "twist" {
			t.Errorf("FixedSlopes of %s: %d", numbersText(m), got)
		}
	}
	for trace := -3; trace <= 3; trace++ {
		if counts[trace] < 15 {
			t.Errorf("only %d matrices of trace %d", counts[trace], trace)
		}
	}
}

func TestOrderOf(t *testing.T) {
	cases := map[string]int{
		"1,0,0,1": 1, "-1,0,0,-1": 2,
		"0,-1,1,-1": 3, "-1,-1,1,0": 3, "-1,1,-1,0": 3, "0,1,-1,-1": 3, "1,-3,1,-2": 3, "961,993,-931,-962": 3, "692,997,-481,-693": 3,
		"0,-1,1,0": 4, "0,1,-1,0": 4, "1,-2,1,-1": 4, "-2,-5,1,2": 4, "931,962,-901,-931": 4, "836,997,-701,-836": 4, "31,-26,37,-31": 4,
		"0,-1,1,1": 6, "1,1,-1,0": 6, "1,-1,1,0": 6, "2,-3,1,-1": 6, "962,993,-931,-961": 6, "-961,931,-993,962": 6, "693,997,-481,-692": 6,
		"1,1,0,1": 0, "1,0,1,1": 0, "-1,1,0,-1": 0, "2,1,1,1": 0, "-2,-1,-1,-1": 0, "1,1000,0,1": 0, "1000,-1,1,0": 0, "999,1000,998,999": 0, "998,999,-999,-1000": 0,
		"0,0,0,0": -1, "1,0,0,-1": -1, "-1,0,0,1": -1, "0,1,1,0": -1, "2,0,0,1": -1, "1,1,1,1": -1, "1,1001,0,1": -1, "1001,1000,1,1": -1,
	}
	for text, want := range cases {
		if got := impl.OrderOf(matrixNamed(text)); got != want {
			t.Errorf("OrderOf %s = %d, want %d", text, got, want)
		}
	}
	counts := map[int]int{}
	for _, m := range append(smallMatrices(7), limitMatrices()...) {
		got := impl.OrderOf(m)
		counts[got]++
		if want := poweredOrder(m); got != want {
			t.Errorf("OrderOf %s = %d, want %d", numbersText(m), got, want)
		}
		if (got > 0) != (impl.KindOf(m) == "identity" || impl.KindOf(m) == "periodic") {
			t.Errorf("OrderOf %s = %d, the kind is %s", numbersText(m), got, impl.KindOf(m))
		}
		if got != impl.OrderOf(impl.InverseMatrix(m)) {
			t.Errorf("OrderOf %s = %d, of the inverse %d", numbersText(m), got, impl.OrderOf(impl.InverseMatrix(m)))
		}
	}
	if counts[1] != 1 || counts[2] != 1 || counts[3] < 20 || counts[4] < 20 || counts[6] < 20 || counts[0] < 100 || len(counts) != 6 {
		t.Errorf("the orders are %v", counts)
	}
}

// TestConjugatesAreAlike moves a matrix to another basis, and its fixed slope with it.
func TestConjugatesAreAlike(t *testing.T) {
	for _, m := range smallMatrices(3) {
		for _, n := range smallMatrices(3) {
			other, _ := impl.TimesMatrix(n, m)
			other, ok := impl.TimesMatrix(other, impl.InverseMatrix(n))
			if !ok || impl.TraceOf(other) != impl.TraceOf(m) || impl.KindOf(other) != impl.KindOf(m) || impl.OrderOf(other) != impl.OrderOf(m) {
				t.Fatalf("%s and %s: trace %d and %d, kind %s and %s, order %d and %d", numbersText(m), matrixOrNone(other, ok), impl.TraceOf(m), impl.TraceOf(other), impl.KindOf(m), impl.KindOf(other), impl.OrderOf(m), impl.OrderOf(other))
			}
			fixed, moved := impl.FixedSlopes(m), impl.FixedSlopes(other)
			if len(fixed) != len(moved) {
				t.Fatalf("FixedSlopes of %s = %v, of %s %v", numbersText(m), fixed, numbersText(other), moved)
			}
			if len(fixed) == 1 {
				if got := slopeOrNone(impl.MoveSlope(n, fixed[0])); got != quotientText(moved[0].P, moved[0].Q) {
					t.Fatalf("FixedSlopes of %s = %v, of %s %v, want %s", numbersText(m), fixed, numbersText(other), moved, got)
				}
			}
		}
	}
}

func fixedText(slopes []impl.Slope) string {
	if len(slopes) == 0 {
		return "none"
	}
	var texts []string
	for _, s := range slopes {
		texts = append(texts, quotientText(s.P, s.Q))
	}
	return strings.Join(texts, " ")
}

func TestFixedSlopesCases(t *testing.T) {
	cases := map[string]string{
		// A - t and C are both 0.
		"1,1,0,1": "1/0", "1,-1,0,1": "1/0", "1,7,0,1": "1/0", "-1,1,0,-1": "1/0", "-1,-3,0,-1": "1/0", "1,1000,0,1": "1/0", "1,-1000,0,1": "1/0", "-1,1000,0,-1": "1/0", "-1,-1000,0,-1": "1/0",
		// B and D - t are both 0.
		"1,0,1,1": "0/1", "1,0,-1,1": "0/1", "1,0,9,1": "0/1", "-1,0,1,-1": "0/1", "-1,0,-4,-1": "0/1", "1,0,1000,1": "0/1", "1,0,-1000,1": "0/1", "-1,0,1000,-1": "0/1", "-1,0,-1000,-1": "0/1",
		"2,1,-1,0": "-1/1", "0,1,-1,2": "1/1", "2,-1,1,0": "1/1", "0,-1,1,2": "-1/1", "-2,1,-1,0": "1/1", "0,1,-1,-2": "-1/1", "3,-2,2,-1": "1/1", "-3,2,-2,1": "1/1",
		"3,4,-1,-1": "-2/1", "3,-1,4,-1": "1/2", "-3,-4,1,1": "-2/1", "3,1,-4,-1": "-1/2", "-1,4,-1,3": "2/1", "7,-9,4,-5": "3/2", "-5,-9,4,7": "-3/2", "13,-18,8,-11": "3/2",
		"1000,999,-999,-998": "-1/1", "-998,999,-999,1000": "1/1", "998,999,-999,-1000": "-1/1", "-1000,999,-999,998": "1/1",
		"901,1000,-810,-899": "-10/9", "901,-810,1000,-899": "9/10", "-901,-1000,810,899": "-10/9", "931,-900,961,-929": "30/31",
		"1,0,0,1": "none", "-1,0,0,-1": "none", "0,-1,1,0": "none", "0,-1,1,1": "none", "0,-1,1,-1": "none", "2,1,1,1": "none", "-2,-1,-1,-1": "none", "3,1,-1,0": "none", "1000,-1,1,0": "none",
		"0,0,0,0": "none", "1,0,0,-1": "none", "0,1,1,0": "none", "1,0,0,2": "none", "2,2,0,0": "none", "1,1,1,1": "none", "1,1001,0,1": "none", "1,0,-1001,1": "none", "1001,1000,-1000,-999": "none",
	}
	for text, want := range cases {
		if got := fixedText(impl.FixedSlopes(matrixNamed(text))); got != want {
			t.Errorf("FixedSlopes of %s = %s, want %s", text, got, want)
		}
	}
}

// TestFixedSlopes holds a slope against all that a matrix keeps, the identity aside.
func TestFixedSlopes(t *testing.T) {
	slopes := smallSlopes(32)
	fixed := 0
	for _, m := range append(smallMatrices(4), limitMatrices()...) {
		if impl.KindOf(m) == "identity" {
			continue
		}
		var want []impl.Slope
		for _, s := range slopes {
			if movedText(m, s) == quotientText(s.P, s.Q) {
				want = append(want, s)
			}
		}
		got := impl.FixedSlopes(m)
		if fixedText(got) != fixedText(want) {
			t.Errorf("FixedSlopes of %s = %s, want %s", numbersText(m), fixedText(got), fixedText(want))
		}
		for _, s := range got {
			fixed++
			if moved, ok := impl.MoveSlope(m, s); !ok || moved != s {
				t.Errorf("MoveSlope by %s of %v = %s", numbersText(m), s, slopeOrNone(moved, ok))
			}
		}
	}
	if fixed < 50 {
		t.Errorf("only %d matrices keep one slope", fixed)
	}
}

// TestTwistsAlongSlopes has the matrices of k twists along a slope, and their opposites: they move slopes as TwistSlope does.
func TestTwistsAlongSlopes(t *testing.T) {
	twists := 0
	for _, c := range smallSlopes(12) {
		for k := -20; k <= 20; k++ {
			m := matrixWith(1+k*c.P*c.Q, -k*c.P*c.P, k*c.Q*c.Q, 1-k*c.P*c.Q)
			if k == 0 || !writtenMatrix(m) {
				continue
			}
			twists++
			for _, n := range []impl.Matrix{m, matrixWith(-m.A, -m.B, -m.C, -m.D)} {
				if impl.KindOf(n) != "twist" || fixedText(impl.FixedSlopes(n)) != quotientText(c.P, c.Q) {
					t.Errorf("%s: KindOf %q, FixedSlopes %s, want %v", numbersText(n), impl.KindOf(n), fixedText(impl.FixedSlopes(n)), c)
				}
				for _, s := range smallSlopes(4) {
					if got, want := slopeOrNone(impl.MoveSlope(n, s)), slopeOrNone(impl.TwistSlope(c, s, k)); got != want {
						t.Errorf("MoveSlope by %s of %v = %s, TwistSlope %s", numbersText(n), s, got, want)
					}
				}
			}
		}
	}
	if twists < 500 {
		t.Errorf("only %d twists", twists)
	}
}

// TestFixedSlopesAreNew changes one result, with its unused capacity, and looks at another one.
func TestFixedSlopesAreNew(t *testing.T) {
	for _, m := range append(smallMatrices(4), limitMatrices()...) {
		first, other := impl.FixedSlopes(m), impl.FixedSlopes(m)
		want := fixedText(other)
		first = first[:cap(first)]
		for i := range first {
			first[i] = slopeWith(-8, -8)
		}
		if got := fixedText(other); got != want || fixedText(impl.FixedSlopes(m)) != want {
			t.Errorf("FixedSlopes of %s = %s after a change of another result, want %s", numbersText(m), got, want)
		}
	}
}

func TestMatrixText(t *testing.T) {
	cases := map[string]string{
		"1,0,0,1": "1,0,0,1", "-1,0,0,-1": "-1,0,0,-1", "2,1,1,1": "2,1,1,1", "1,2,3,7": "1,2,3,7", "0,-1,1,0": "0,-1,1,0", "-5,2,2,-1": "-5,2,2,-1",
		"1,1000,0,1": "1,1000,0,1", "1,0,-1000,1": "1,0,-1000,1", "1000,999,1,1": "1000,999,1,1", "-1,-1,-999,-1000": "-1,-1,-999,-1000",
		"0,0,0,0": "", "1,0,0,-1": "", "0,1,1,0": "", "1,0,0,2": "", "1,1,1,1": "", "1,1001,0,1": "", "1,0,-1001,1": "", "1001,1000,1,1": "",
	}
	for text, want := range cases {
		if got := impl.MatrixText(matrixNamed(text)); got != want {
			t.Errorf("MatrixText of %s = %q, want %q", text, got, want)
		}
	}
	for _, m := range append(smallMatrices(7), limitMatrices()...) {
		want := decimal(m.A) + "," + decimal(m.B) + "," + decimal(m.C) + "," + decimal(m.D)
		if got := impl.MatrixText(m); got != want {
			t.Errorf("MatrixText of %v = %q, want %q", m, got, want)
		}
	}
}

// TestIdentityMatrix has the identity, and its opposite, as every argument.
func TestIdentityMatrix(t *testing.T) {
	one, opposite := matrixWith(1, 0, 0, 1), matrixWith(-1, 0, 0, -1)
	for _, id := range []impl.Matrix{one, opposite} {
		if !impl.IsMatrix(id) || impl.InverseMatrix(id) != id || impl.KindOf(id) != "identity" || impl.TraceOf(id) != 2*id.A || fixedText(impl.FixedSlopes(id)) != "none" || impl.MatrixText(id) != numbersText(id) {
			t.Errorf("%s: IsMatrix %v, InverseMatrix %v, KindOf %q, TraceOf %d, FixedSlopes %v, MatrixText %q", numbersText(id), impl.IsMatrix(id), impl.InverseMatrix(id), impl.KindOf(id), impl.TraceOf(id), impl.FixedSlopes(id), impl.MatrixText(id))
		}
		for _, m := range append(smallMatrices(5), limitMatrices()...) {
			want := numbersText(matrixWith(id.A*m.A, id.A*m.B, id.A*m.C, id.A*m.D))
			for _, pair := range [][2]impl.Matrix{{id, m}, {m, id}} {
				if got := matrixOrNone(impl.TimesMatrix(pair[0], pair[1])); got != want {
					t.Errorf("TimesMatrix of %s and %s = %s", numbersText(pair[0]), numbersText(pair[1]), got)
				}
			}
		}
		for _, s := range manySlopes() {
			if got := slopeOrNone(impl.MoveSlope(id, s)); got != quotientText(s.P, s.Q) {
				t.Errorf("MoveSlope by %s of %v = %s", numbersText(id), s, got)
			}
		}
	}
	if impl.OrderOf(one) != 1 || impl.OrderOf(opposite) != 2 {
		t.Errorf("OrderOf is %d and %d", impl.OrderOf(one), impl.OrderOf(opposite))
	}
}

// TestNoMatrix has each of many that are no matrix as every argument.
func TestNoMatrix(t *testing.T) {
	others := append(smallMatrices(1), matricesNamed("1,1000,0,1", "999,1000,998,999", "1,-1,0,1")...)
	for _, bad := range noMatrices() {
		if impl.IsMatrix(bad) || impl.InverseMatrix(bad) != (impl.Matrix{}) || impl.TraceOf(bad) != 0 || impl.KindOf(bad) != "" || impl.OrderOf(bad) != -1 || len(impl.FixedSlopes(bad)) != 0 || impl.MatrixText(bad) != "" {
			t.Errorf("%s: IsMatrix %v, InverseMatrix %v, TraceOf %d, KindOf %q, OrderOf %d, FixedSlopes %v, MatrixText %q", numbersText(bad), impl.IsMatrix(bad), impl.InverseMatrix(bad), impl.TraceOf(bad), impl.KindOf(bad), impl.OrderOf(bad), impl.FixedSlopes(bad), impl.MatrixText(bad))
		}
		for _, other := range append(others, bad, impl.Matrix{}, matrixWith(1, 0, 0, -1)) {
			for _, pair := range [][2]impl.Matrix{{bad, other}, {other, bad}} {
				if got := matrixOrNone(impl.TimesMatrix(pair[0], pair[1])); got != "none" {
					t.Errorf("TimesMatrix of %s and %s = %s", numbersText(pair[0]), numbersText(pair[1]), got)
				}
			}
		}
		for _, s := range manySlopes() {
			if got := slopeOrNone(impl.MoveSlope(bad, s)); got != "none" {
				t.Errorf("MoveSlope by %s of %v = %s", numbersText(bad), s, got)
			}
		}
	}
}

// TestNoSlopeMoved has each of many that are no slope with matrices and with others.
func TestNoSlopeMoved(t *testing.T) {
	for _, bad := range noSlopes() {
		if got := impl.TurnsTo(bad); got != "" {
			t.Errorf("TurnsTo of %v = %q", bad, got)
		}
		for _, m := range append(manyMatrices(), impl.Matrix{}, matrixWith(1, 0, 0, -1), matrixWith(1, 1001, 0, 1)) {
			if got := slopeOrNone(impl.MoveSlope(m, bad)); got != "none" {
				t.Errorf("MoveSlope by %s of %v = %s", numbersText(m), bad, got)
			}
		}
	}
}
