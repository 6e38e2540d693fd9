package tests

import (
	"math"
	"slices"
	"strings"
	"testing"

	"loop.example/g03105/impl"
)

func slopeWith(p int, q int) impl.Slope { return impl.Slope{P: p, Q: q} }

func quotientText(p int, q int) string { return decimal(p) + "/" + decimal(q) }

// slopeOrNone writes a result out; "none" is the zero Slope with false.
func slopeOrNone(s impl.Slope, ok bool) string {
	if !ok && s == (impl.Slope{}) {
		return "none"
	}
	if !ok {
		return "none, but not zero"
	}
	return quotientText(s.P, s.Q)
}

// slopeNamed reads a text apart from ParseSlope; the numbers may be any.
func slopeNamed(text string) impl.Slope {
	p, q, _ := strings.Cut(text, "/")
	first, _ := impl.ParseInt(p)
	second, _ := impl.ParseInt(q)
	return slopeWith(first, second)
}

// The functions below try every divisor, add one crossing after the other and walk along a line, as a second version.

// The magnitude of the least integer is none, so that both limits are asked for.
func isOutOfRange(n int) bool { return n < -1000 || n > 1000 }

func triedSlope(p int, q int) bool {
	if isOutOfRange(p) || isOutOfRange(q) || q < 0 {
		return false
	}
	if p == 0 || q == 0 {
		return p+q == 1
	}
	for d := 2; d <= min(magnitude(p), q); d++ {
		if p%d == 0 && q%d == 0 {
			return false
		}
	}
	return true
}

// triedQuotient takes away every divisor, from the greatest one on, and lets the second number, or else the first one, be positive.
func triedQuotient(p int, q int) string {
	if isOutOfRange(p) || isOutOfRange(q) || p == 0 && q == 0 {
		return "none"
	}
	if q < 0 || q == 0 && p < 0 {
		p, q = -p, -q
	}
	for d := max(magnitude(p), q); d > 1; d-- {
		if p%d == 0 && q%d == 0 {
			return quotientText(p/d, q/d)
		}
	}
	return quotientText(p, q)
}

// twistedSlope adds c, or takes it away, for each of the crossings that the slope has at first; they stay as many.
func twistedSlope(c impl.Slope, s impl.Slope, k int) string {
	p, q := s.P, s.Q
	for range magnitude(k) {
		crossings := p*c.Q - q*c.P
		if k < 0 {
			crossings = -crossings
		}
		p, q = p+crossings*c.P, q+crossings*c.Q
	}
	return triedQuotient(p, q)
}

// stairText goes along the line of the slope from below: up wherever the line is not crossed.
func stairText(s impl.Slope) string {
	up, p := "b", s.P
	if p < 0 {
		up, p = "B", -p
	}
	var text strings.Builder
	for x, y := 0, 0; x+y < p+s.Q; {
		if (y+1)*s.Q <= x*p {
			y++
			text.WriteString(up)
		} else {
			x++
			text.WriteString("a")
		}
	}
	return text.String()
}

// smallSlopes are all slopes with numbers of magnitudes up to most.
func smallSlopes(most int) []impl.Slope {
	var slopes []impl.Slope
	for q := 0; q <= most; q++ {
		for p := -most; p <= most; p++ {
			if triedSlope(p, q) {
				slopes = append(slopes, slopeWith(p, q))
			}
		}
	}
	return slopes
}

// limitSlopes have numbers at the limits, and next to them.
func limitSlopes() []impl.Slope {
	var slopes []impl.Slope
	for _, text := range []string{"1000/1", "-1000/1", "1/1000", "-1/1000", "999/1", "-999/1", "1/999", "-1/999", "1000/999", "-1000/999", "999/1000", "-999/1000", "1000/7", "-7/1000", "500/499", "-499/500", "613/377", "-377/610", "31/32", "-50/7", "1/50"} {
		slopes = append(slopes, slopeNamed(text))
	}
	return slopes
}

func manySlopes() []impl.Slope { return append(smallSlopes(5), limitSlopes()...) }

// noSlopes have a common divisor, a wrong sign, or a number out of range.
func noSlopes() []impl.Slope {
	slopes := []impl.Slope{{}}
	for _, text := range []string{
		"2/2", "2/4", "4/2", "-2/4", "6/9", "-9/6", "1000/1000", "-1000/1000", "1000/998", "3/999", "-5/1000", "0/2", "0/3", "0/1000",
		"2/0", "3/0", "1000/0", "-1/0", "-2/0", "-1000/0",
		"1/-1", "-1/-1", "0/-1", "1/-2", "-1/-2", "2/-3", "-2/-3", "2/-4", "1000/-999", "-999/-1000",
		"1001/1", "-1001/1", "1/1001", "-1/1001", "1001/0", "0/1001", "-1001/0", "0/-1001", "1001/1000", "1000/1001", "-1001/1000", "-1000/1001", "1001/1001", "1002/2", "2/1002", "1/-1001",
	} {
		slopes = append(slopes, slopeNamed(text))
	}
	for _, far := range farMagnitudes {
		for _, n := range []int{-1, 0, 1, 1000, far} {
			slopes = append(slopes, slopeWith(far, n), slopeWith(n, far))
		}
		slopes = append(slopes, slopeWith(far, far+1), slopeWith(far-1, far))
	}
	return slopes
}

func TestIsSlope(t *testing.T) {
	slopes := 0
	check := func(p int, q int) {
		want := triedSlope(p, q)
		if want {
			slopes++
		}
		if got := impl.IsSlope(slopeWith(p, q)); got != want {
			t.Errorf("IsSlope of %s = %v", quotientText(p, q), got)
		}
	}
	for p := -60; p <= 60; p++ {
		for q := -60; q <= 60; q++ {
			check(p, q)
		}
	}
	for _, n := range []int{-1001, -1000, -999, -30, -1, 0, 1, 2, 30, 97, 360, 999, 1000, 1001} {
		for m := -1010; m <= 1010; m++ {
			check(n, m)
			check(m, n)
		}
	}
	if slopes < 5000 {
		t.Errorf("only %d slopes", slopes)
	}
	for _, s := range manySlopes() {
		if !impl.IsSlope(s) {
			t.Errorf("IsSlope of %v = false", s)
		}
	}
	for _, s := range noSlopes() {
		if impl.IsSlope(s) {
			t.Errorf("IsSlope of %v = true", s)
		}
	}
}

func TestSlopeOfCases(t *testing.T) {
	cases := []struct {
		p, q int
		want string
	}{
		{2, 3, "2/3"},
		{-2, 3, "-2/3"},
		{2, -3, "-2/3"},
		{-2, -3, "2/3"},
		{2, 4, "1/2"},
		{4, 2, "2/1"},
		{6, -9, "-2/3"},
		{-6, -9, "2/3"},
		{12, 18, "2/3"},
		{1, 0, "1/0"},
		{-1, 0, "1/0"},
		{7, 0, "1/0"},
		{-7, 0, "1/0"},
		{1000, 0, "1/0"},
		{-1000, 0, "1/0"},
		{0, 1, "0/1"},
		{0, -1, "0/1"},
		{0, 9, "0/1"},
		{0, -9, "0/1"},
		{0, 1000, "0/1"},
		{0, -1000, "0/1"},
		{1, 1, "1/1"},
		{-1, 1, "-1/1"},
		{1, -1, "-1/1"},
		{-1, -1, "1/1"},
		{1000, 1000, "1/1"},
		{-1000, 1000, "-1/1"},
		{1000, -1000, "-1/1"},
		{-1000, -1000, "1/1"},
		{1000, 999, "1000/999"},
		{-999, 1000, "-999/1000"},
		{999, -1000, "-999/1000"},
		{-1000, -999, "1000/999"},
		{1000, 998, "500/499"},
		{600, 840, "5/7"},
		{610, 377, "610/377"},
		{1000, 1, "1000/1"},
		{1, -1000, "-1/1000"},
		{0, 0, "none"},
		{1001, 0, "none"},
		{-1001, 0, "none"},
		{0, 1001, "none"},
		{0, -1001, "none"},
		{1001, 1, "none"},
		{1, 1001, "none"},
		{-1001, 1, "none"},
		{1, -1001, "none"},
		{1001, 1001, "none"},
		{1002, 2, "none"},
		{-2, 1002, "none"},
		{1000, 1001, "none"},
		{-1001, -1000, "none"},
		{2000, 2000, "none"},
		{math.MinInt64, math.MinInt64, "none"},
		{math.MinInt64, 0, "none"},
		{0, math.MinInt64, "none"},
		{math.MinInt64, -1, "none"},
		{-1, math.MinInt64, "none"},
		{math.MaxInt64, math.MaxInt64, "none"},
	}
	for _, c := range cases {
		if got := slopeOrNone(impl.SlopeOf(c.p, c.q)); got != c.want {
			t.Errorf("SlopeOf(%d, %d) = %s, want %s", c.p, c.q, got, c.want)
		}
	}
}

func TestSlopeOfPairs(t *testing.T) {
	check := func(p int, q int) {
		got, ok := impl.SlopeOf(p, q)
		if text := slopeOrNone(got, ok); text != triedQuotient(p, q) {
			t.Errorf("SlopeOf(%d, %d) = %s, want %s", p, q, text, triedQuotient(p, q))
		}
		if ok && !impl.IsSlope(got) {
			t.Errorf("SlopeOf(%d, %d) = %v is no slope", p, q, got)
		}
	}
	for p := -70; p <= 70; p++ {
		for q := -70; q <= 70; q++ {
			check(p, q)
		}
	}
	for _, n := range []int{-1001, -1000, -999, -720, -7, -1, 0, 1, 2, 6, 97, 360, 512, 999, 1000, 1001} {
		for m := -1003; m <= 1003; m++ {
			check(n, m)
			check(m, n)
		}
	}
	for _, far := range farMagnitudes {
		for _, n := range slices.Concat(farMagnitudes, []int{-1000, -1, 0, 1, 1000}) {
			check(far, n)
			check(n, far)
		}
	}
}

// TestSlopeOfMultiples has every multiple of a slope within the limits, and the first ones past them.
func TestSlopeOfMultiples(t *testing.T) {
	for _, s := range manySlopes() {
		want := quotientText(s.P, s.Q)
		most := 1000 / max(magnitude(s.P), s.Q)
		for n := 1; n <= most; n++ {
			for _, times := range []int{n, -n} {
				if got := slopeOrNone(impl.SlopeOf(times*s.P, times*s.Q)); got != want {
					t.Errorf("SlopeOf of %d times %s = %s", times, want, got)
				}
			}
		}
		for _, times := range []int{most + 1, -most - 1} {
			if got := slopeOrNone(impl.SlopeOf(times*s.P, times*s.Q)); got != "none" {
				t.Errorf("SlopeOf of %d times %s = %s", times, want, got)
			}
		}
	}
}

func TestSlopeTexts(t *testing.T) {
	for _, s := range append(smallSlopes(40), limitSlopes()...) {
		want := quotientText(s.P, s.Q)
		if got := impl.SlopeText(s); got != want {
			t.Errorf("SlopeText of %v = %q", s, got)
		}
		if got := slopeOrNone(impl.ParseSlope(want)); got != want {
			t.Errorf("ParseSlope(%q) = %s", want, got)
		}
	}
	for text, want := range map[string]impl.Slope{"1/0": {P: 1}, "0/1": {Q: 1}, "1/1": {P: 1, Q: 1}, "-1/1": {P: -1, Q: 1}, "-7/12": {P: -7, Q: 12}, "-1000/999": {P: -1000, Q: 999}, "999/1000": {P: 999, Q: 1000}} {
		if got, ok := impl.ParseSlope(text); !ok || got != want {
			t.Errorf("ParseSlope(%q) = %v, %v", text, got, ok)
		}
		if got := impl.SlopeText(want); got != text {
			t.Errorf("SlopeText of %v = %q, want %q", want, got, text)
		}
	}
	for _, s := range noSlopes() {
		if got := impl.SlopeText(s); got != "" {
			t.Errorf("SlopeText of %v = %q", s, got)
		}
		if got := slopeOrNone(impl.ParseSlope(quotientText(s.P, s.Q))); got != "none" {
			t.Errorf("ParseSlope of %v = %s", s, got)
		}
	}
}

func TestParseSlopeRejects(t *testing.T) {
	texts := []string{
		"", "/", "//", "1", "0", "-1", "12", "1/", "/1", "/0", "0/", "-/1", "1/-",
		"1/2/3", "1//2", "/1/2", "1/2/", "1/0/", "/1/0", "1/1/1", "1/2/0",
		"+1/2", "1/+2", "+1/+2", "--1/2", "-+1/2", "- 1/2", "-0/1", "1/-0", "0/+1", "+1/0", "+0/1",
		"01/2", "1/02", "-01/2", "00/1", "1/00", "0/01", "01/0", "007/5", "1000/0999",
		" 1/2", "1 /2", "1/ 2", "1/2 ", " 1/0", "1/0 ", "\t1/2", "1/2\n", "1/2\r", "\n1/2", "1\n/2", "1 2", "1 / 2",
		"2/4", "4/2", "-2/4", "6/9", "2/2", "0/2", "0/0", "2/0", "1000/1000", "-3/999",
		"-1/0", "-2/0", "-1000/0", "0/-1", "1/-1", "-1/-1", "1/-2", "-1/-2", "2/-3",
		"1001/1", "-1001/1", "1/1001", "1001/1000", "1000/1001", "1001/0", "0/1001", "999999/1", "1/999999", "999999999999/1", "1/999999999999", "-999999999999/1",
		"1\\2", "1:2", "1|2", "1-2", "1,2", "1.2", "1\x002", "1/2\x00", "\x001/2", "\xff1/2", "1/2\xff", "1\u20442", "\u00bd", "\u0661/\u0662", "\uff11/2", "\u22121/2",
		"a/b", "x", "x/y", "1/x", "x/1", "P/Q", "1.0/2", "1/2.0", "1e0/2", "0x1/2", "1/0b1", "1_0/3", "1/1_0", "inf", "1/inf", "nan/1", "none", "-",
		"1/1/", "1/1 ", "1/1a", "a1/1", "(1/2)", "\"1/2\"", "1/2;", "1//0", "1/0/1",
	}
	for _, number := range slices.Concat(malformed, tooGreat) {
		texts = append(texts, number, number+"/1", "1/"+number, number+"/"+number)
	}
	for _, far := range farMagnitudes {
		texts = append(texts, decimal(far)+"/1", "1/"+decimal(far), decimal(far)+"/0", "0/"+decimal(far))
	}
	texts = append(texts, strings.Repeat("/", 1000), strings.Repeat("1/", 1000), strings.Repeat("0", 5000)+"1/1", strings.Repeat("1", 5000)+"/1", "1/"+strings.Repeat("1", 5000))
	// In 64 bits, these come back to 1 and to 1.
	texts = append(texts, "18446744073709551617/1", "1/18446744073709551617", "-18446744073709551615/1", "4294967297/1", "1/4294967297")
	for _, text := range texts {
		if got := slopeOrNone(impl.ParseSlope(text)); got != "none" {
			t.Errorf("ParseSlope(%q) = %s", text, got)
		}
	}
}

// slopesByText has all slopes with texts of up to n bytes.
func slopesByText(n int) map[string]impl.Slope {
	known := map[string]impl.Slope{}
	for p := -1000; p <= 1000; p++ {
		for q := 0; len(quotientText(p, q)) <= n; q++ {
			if triedSlope(p, q) {
				known[quotientText(p, q)] = slopeWith(p, q)
			}
		}
	}
	return known
}

// TestParseSlopeShortTexts has all texts of up to 5 bytes from a few, and slopes with one byte replaced, left out or put in.
func TestParseSlopeShortTexts(t *testing.T) {
	known := slopesByText(6)
	parsed := 0
	check := func(text string) {
		want, is := known[text]
		if is {
			parsed++
		}
		if got, ok := impl.ParseSlope(text); ok != is || got != want {
			t.Errorf("ParseSlope(%q) = %v, %v, want %v, %v", text, got, ok, want, is)
		}
	}
	texts := []string{""}
	for i := 0; i < len(texts); i++ {
		check(texts[i])
		if len(texts[i]) < 5 {
			for _, b := range []byte("0123-/+ ") {
				texts = append(texts, texts[i]+string([]byte{b}))
			}
		}
	}
	for _, text := range []string{"1/0", "0/1", "-1/1", "12/35", "-7/12"} {
		for i := range len(text) + 1 {
			for b := range 256 {
				check(text[:i] + string([]byte{byte(b)}) + text[i:])
				if i < len(text) {
					check(text[:i] + string([]byte{byte(b)}) + text[i+1:])
				}
			}
			if i < len(text) {
				check(text[:i] + text[i+1:])
			}
		}
	}
	if parsed < 300 {
		t.Errorf("only %d texts are slopes", parsed)
	}
}

func TestCrossNumberCases(t *testing.T) {
	cases := []struct {
		a, b string
		want int
	}{
		{"1/0", "0/1", 1},
		{"1/0", "1/1", 1},
		{"1/0", "-1/1", 1},
		{"1/0", "1/0", 0},
		{"1/0", "2/3", 3},
		{"1/0", "-7/12", 12},
		{"1/0", "1000/1", 1},
		{"1/0", "1/1000", 1000},
		{"0/1", "0/1", 0},
		{"0/1", "1/1", 1},
		{"0/1", "-1/1", 1},
		{"0/1", "2/3", 2},
		{"0/1", "-7/12", 7},
		{"0/1", "-1000/1", 1000},
		{"1/1", "-1/1", 2},
		{"1/1", "1/1", 0},
		{"1/1", "2/3", 1},
		{"-1/1", "2/3", 5},
		{"1/2", "1/3", 1},
		{"1/2", "-1/2", 4},
		{"2/3", "3/2", 5},
		{"2/5", "3/7", 1},
		{"999/1000", "1/1", 1},
		{"999/1000", "1000/999", 1999},
		{"1000/1", "-1000/1", 2000},
		{"1/1000", "-1/1000", 2000},
		{"999/1000", "-999/1000", 1998000},
		{"1000/999", "-999/1000", 1998001},
		{"-1000/999", "999/1000", 1998001},
		{"1000/1", "1/1000", 999999},
		{"-1000/1", "1/1000", 1000001},
	}
	for _, c := range cases {
		a, b := slopeNamed(c.a), slopeNamed(c.b)
		if got := impl.CrossNumber(a, b); got != c.want {
			t.Errorf("CrossNumber of %s and %s = %d, want %d", c.a, c.b, got, c.want)
		}
		if got := impl.CrossNumber(b, a); got != c.want {
			t.Errorf("CrossNumber of %s and %s = %d, want %d", c.b, c.a, got, c.want)
		}
	}
}

func TestCrossNumberOfPairs(t *testing.T) {
	slopes := append(smallSlopes(12), limitSlopes()...)
	basis := 0
	for _, a := range slopes {
		for _, b := range slopes {
			want := magnitude(a.P*b.Q - a.Q*b.P)
			got := impl.CrossNumber(a, b)
			if got != want || impl.CrossNumber(b, a) != want {
				t.Errorf("CrossNumber of %v and %v = %d, in the other order %d, want %d", a, b, got, impl.CrossNumber(b, a), want)
			}
			if (got == 0) != (a == b) {
				t.Errorf("CrossNumber of %v and %v = %d", a, b, got)
			}
			if form := magnitude(impl.FormOf(1, []int{a.P, a.Q}, []int{b.P, b.Q})); form != got {
				t.Errorf("CrossNumber of %v and %v = %d, but FormOf is %d in magnitude", a, b, got, form)
			}
			if isBasis := impl.IsBasisPair(a, b); isBasis != (want == 1) {
				t.Errorf("IsBasisPair of %v and %v = %v, they cross %d times", a, b, isBasis, want)
			}
			if want == 1 {
				basis++
			}
		}
	}
	if basis < 400 {
		t.Errorf("only %d pairs cross once", basis)
	}
}

func TestBasisPairCases(t *testing.T) {
	cases := []struct {
		a, b string
		want bool
	}{
		{"1/0", "0/1", true},
		{"0/1", "1/0", true},
		{"1/0", "1/1", true},
		{"1/0", "-1000/1", true},
		{"0/1", "-1/1000", true},
		{"1/2", "1/3", true},
		{"1/1", "999/1000", true},
		{"500/499", "-499/500", false},
		{"1/0", "1/0", false},
		{"0/1", "0/1", false},
		{"1/1", "-1/1", false},
		{"1/0", "1/2", false},
		{"2/3", "3/2", false},
		{"1/0", "0/0", false},
		{"1/0", "0/-1", false},
		{"-1/0", "0/1", false},
		{"0/1", "1001/1", false},
		{"1/0", "1001/1", false},
		{"1/0", "2/2", false},
	}
	for _, c := range cases {
		if got := impl.IsBasisPair(slopeNamed(c.a), slopeNamed(c.b)); got != c.want {
			t.Errorf("IsBasisPair of %s and %s = %v", c.a, c.b, got)
		}
	}
}

func TestSumSlopeCases(t *testing.T) {
	cases := []struct{ a, b, want string }{
		{"1/0", "0/1", "1/1"},
		{"1/0", "1/1", "2/1"},
		{"1/0", "-1/1", "0/1"},
		{"1/0", "-2/1", "-1/1"},
		{"0/1", "1/1", "1/2"},
		{"0/1", "-1/1", "-1/2"},
		{"1/2", "1/3", "2/5"},
		{"-1/2", "-1/3", "-2/5"},
		{"2/5", "3/7", "5/12"},
		{"2/3", "1/1", "3/4"},
		{"1/0", "1/2", "none"},
		{"1/0", "2/3", "none"},
		{"1/1", "-1/1", "none"},
		{"1/2", "1/0", "none"},
		{"0/1", "2/1", "none"},
		{"1/0", "1/0", "none"},
		{"0/1", "0/1", "none"},
		{"1/1", "1/1", "none"},
		{"-3/7", "-3/7", "none"},
		{"2/3", "3/2", "none"},
		{"1/0", "999/1", "1000/1"},
		{"1/0", "1000/1", "none"},
		{"1/0", "-1000/1", "-999/1"},
		{"0/1", "1/999", "1/1000"},
		{"0/1", "-1/999", "-1/1000"},
		{"0/1", "1/1000", "none"},
		{"0/1", "-1/1000", "none"},
		{"1/1", "999/1000", "none"},
		{"1/1", "1000/999", "none"},
		{"1/1", "999/998", "1000/999"},
		{"1/1", "998/999", "999/1000"},
		{"-1/1", "-999/998", "-1000/999"},
		{"-1/1", "-1000/999", "none"},
		{"500/499", "499/498", "999/997"},
		{"501/500", "500/499", "none"},
		{"499/500", "500/501", "none"},
		{"-499/500", "-500/501", "none"},
		{"500/499", "-499/500", "none"},
		{"1000/1", "999/1", "none"},
		{"-500/1", "-499/1", "-999/2"},
		{"500/1", "501/1", "none"},
		{"-500/1", "-501/1", "none"},
	}
	for _, c := range cases {
		a, b := slopeNamed(c.a), slopeNamed(c.b)
		if got := slopeOrNone(impl.SumSlope(a, b)); got != c.want {
			t.Errorf("SumSlope of %s and %s = %s, want %s", c.a, c.b, got, c.want)
		}
		if got := slopeOrNone(impl.SumSlope(b, a)); got != c.want {
			t.Errorf("SumSlope of %s and %s = %s, want %s", c.b, c.a, got, c.want)
		}
	}
}

// TestSumSlopeOfPairs lets the sum cross both slopes once.
func TestSumSlopeOfPairs(t *testing.T) {
	slopes := append(smallSlopes(15), limitSlopes()...)
	sums := 0
	for _, a := range slopes {
		for _, b := range slopes {
			want := "none"
			if magnitude(a.P*b.Q-a.Q*b.P) == 1 {
				want = triedQuotient(a.P+b.P, a.Q+b.Q)
			}
			sum, ok := impl.SumSlope(a, b)
			if got := slopeOrNone(sum, ok); got != want {
				t.Errorf("SumSlope of %v and %v = %s, want %s", a, b, got, want)
			}
			if !ok {
				continue
			}
			sums++
			if impl.CrossNumber(sum, a) != 1 || impl.CrossNumber(b, sum) != 1 {
				t.Errorf("SumSlope of %v and %v = %v does not cross both once", a, b, sum)
			}
		}
	}
	if sums < 500 {
		t.Errorf("only %d pairs have a sum", sums)
	}
}

func TestTwistSlopeCases(t *testing.T) {
	cases := []struct {
		c, s string
		k    int
		want string
	}{
		{"1/0", "0/1", 1, "-1/1"},
		{"1/0", "0/1", -1, "1/1"},
		{"1/0", "0/1", 2, "-2/1"},
		{"1/0", "0/1", 20, "-20/1"},
		{"1/0", "0/1", -20, "20/1"},
		{"1/0", "0/1", 21, "none"},
		{"1/0", "0/1", -21, "none"},
		{"1/0", "1/0", 20, "1/0"},
		{"1/0", "1/0", -20, "1/0"},
		{"1/0", "1/0", 21, "none"},
		{"1/0", "1/0", -21, "none"},
		{"1/0", "1/1", 1, "0/1"},
		{"1/0", "2/3", 1, "-1/3"},
		{"1/0", "2/3", -1, "5/3"},
		{"0/1", "1/0", 1, "1/1"},
		{"0/1", "1/0", -1, "-1/1"},
		{"0/1", "1/0", 20, "1/20"},
		{"0/1", "1/0", -20, "-1/20"},
		{"0/1", "0/1", 7, "0/1"},
		{"0/1", "1/1", -1, "1/0"},
		{"0/1", "-1/1", 1, "1/0"},
		{"0/1", "1/1", -2, "-1/1"},
		{"0/1", "2/3", 1, "2/5"},
		{"0/1", "2/3", -2, "-2/1"},
		{"1/1", "1/0", 1, "2/1"},
		{"1/1", "1/0", -1, "0/1"},
		{"1/1", "0/1", 1, "1/0"},
		{"1/1", "0/1", -1, "1/2"},
		{"1/1", "-1/1", 1, "3/1"},
		{"1/1", "1/1", -20, "1/1"},
		{"-1/1", "1/0", 1, "0/1"},
		{"-1/1", "1/0", -1, "-2/1"},
		{"-1/1", "0/1", 1, "-1/2"},
		{"-1/1", "1/1", 1, "-1/3"},
		{"2/1", "1/0", 1, "3/1"},
		{"2/1", "1/1", 1, "1/0"},
		{"2/3", "1/0", 1, "7/9"},
		{"2/3", "1/0", -1, "5/9"},
		{"2/3", "1/0", 0, "1/0"},
		{"2/3", "-7/12", 0, "-7/12"},
		{"1/0", "-1000/1", 0, "-1000/1"},
		{"1000/999", "999/1000", 0, "999/1000"},
		{"1000/999", "999/1000", 1, "none"},
		{"1000/999", "1000/999", 20, "1000/999"},
		{"1000/999", "1/1", 1, "999/998"},
		{"1000/999", "1/1", -1, "none"},
		// The limits: a number comes to 1000, and to 1001 or more.
		{"1/0", "999/1", -1, "1000/1"},
		{"1/0", "1000/1", -1, "none"},
		{"1/0", "-999/1", 1, "-1000/1"},
		{"1/0", "-1000/1", 1, "none"},
		{"1/0", "1000/1", 20, "980/1"},
		{"0/1", "1/999", 1, "1/1000"},
		{"0/1", "1/1000", 1, "none"},
		{"0/1", "-1/999", -1, "-1/1000"},
		{"0/1", "-1/1000", -1, "none"},
		{"0/1", "1000/1", -1, "-1000/999"},
		{"0/1", "1000/1", -2, "none"},
		{"0/1", "1000/1", 1, "none"},
		{"10/1", "0/1", 10, "1000/99"},
		{"10/1", "0/1", 11, "none"},
		{"10/1", "0/1", -10, "1000/101"},
		{"10/1", "0/1", -11, "none"},
		{"1/10", "1/0", 10, "101/1000"},
		{"1/10", "1/0", 11, "none"},
		{"1/10", "1/0", -10, "99/1000"},
		{"1/10", "1/0", -11, "none"},
		{"1/0", "1/50", 20, "-999/50"},
		{"1/0", "-1/50", 20, "none"},
		{"1/0", "1/51", 20, "none"},
	}
	for _, c := range cases {
		if got := slopeOrNone(impl.TwistSlope(slopeNamed(c.c), slopeNamed(c.s), c.k)); got != c.want {
			t.Errorf("TwistSlope(%s, %s, %d) = %s, want %s", c.c, c.s, c.k, got, c.want)
		}
	}
}

// classTwist is the slope of TwistClass, which twists the other way; "none" where a number is too great.
func classTwist(c impl.Slope, s impl.Slope, k int) string {
	twisted, ok := impl.TwistClass(1, []int{c.P, c.Q}, []int{s.P, s.Q}, -k)
	if !ok {
		return "none"
	}
	return triedQuotient(twisted[0], twisted[1])
}

// TestTwistSlopesOneByOne compares k twists with k single ones and with those of classes, and undoes them.
func TestTwistSlopesOneByOne(t *testing.T) {
	slopes := manySlopes()
	counts := map[bool]int{}
	for _, c := range slopes {
		for _, s := range slopes {
			for k := -20; k <= 20; k++ {
				want := twistedSlope(c, s, k)
				twisted, ok := impl.TwistSlope(c, s, k)
				counts[ok]++
				if got := slopeOrNone(twisted, ok); got != want || got != classTwist(c, s, k) {
					t.Fatalf("TwistSlope(%v, %v, %d) = %s, want %s, and of classes %s", c, s, k, got, want, classTwist(c, s, k))
				}
				if !ok {
					continue
				}
				if got := slopeOrNone(impl.TwistSlope(c, twisted, -k)); got != quotientText(s.P, s.Q) {
					t.Fatalf("TwistSlope(%v, %v, %d) = %s does not undo, want %v", c, twisted, -k, got, s)
				}
				if impl.CrossNumber(c, twisted) != impl.CrossNumber(c, s) {
					t.Fatalf("TwistSlope(%v, %v, %d) = %v crosses the first one otherwise", c, s, k, twisted)
				}
			}
			if got := slopeOrNone(impl.TwistSlope(c, s, 0)); got != quotientText(s.P, s.Q) {
				t.Errorf("TwistSlope(%v, %v, 0) = %s", c, s, got)
			}
		}
		for k := -20; k <= 20; k++ {
			if got := slopeOrNone(impl.TwistSlope(c, c, k)); got != quotientText(c.P, c.Q) {
				t.Errorf("TwistSlope along %v itself, %d times, = %s", c, k, got)
			}
		}
	}
	if counts[true] < 10000 || counts[false] < 10000 {
		t.Errorf("%d twists succeed, %d fail", counts[true], counts[false])
	}
}

// TestTwistsKeepCrossings twists two slopes along a third one.
func TestTwistsKeepCrossings(t *testing.T) {
	slopes := manySlopes()
	kept := 0
	for _, c := range slopes {
		for i, a := range slopes {
			for k := -20; k <= 20; k++ {
				one, ok := impl.TwistSlope(c, a, k)
				if !ok {
					continue
				}
				for j := range 6 {
					b := slopes[(7*i+11*j+3*(k+20))%len(slopes)]
					other, fine := impl.TwistSlope(c, b, k)
					if !fine {
						continue
					}
					kept++
					if got, want := impl.CrossNumber(one, other), impl.CrossNumber(a, b); got != want {
						t.Fatalf("%d twists along %v: CrossNumber of %v and %v becomes %d, want %d", k, c, a, b, got, want)
					}
				}
			}
		}
	}
	if kept < 50000 {
		t.Errorf("only %d pairs were twisted", kept)
	}
}

// TestTwistsAddUp twists k times and then once more.
func TestTwistsAddUp(t *testing.T) {
	for _, c := range smallSlopes(3) {
		for _, s := range smallSlopes(3) {
			for k := -20; k < 20; k++ {
				between, ok := impl.TwistSlope(c, s, k)
				if !ok {
					continue
				}
				if got, want := slopeOrNone(impl.TwistSlope(c, between, 1)), slopeOrNone(impl.TwistSlope(c, s, k+1)); got != want {
					t.Errorf("TwistSlope(%v, %v, %d) and once more = %s, want %s", c, s, k, got, want)
				}
			}
		}
	}
}

func TestTooManySlopeTwists(t *testing.T) {
	for _, k := range slices.Concat(farMagnitudes, []int{-256, -40, -22, -21, 21, 22, 40, 256}) {
		for _, c := range manySlopes() {
			for _, s := range []impl.Slope{c, slopeWith(1, 0), slopeWith(0, 1), slopeWith(-2, 3)} {
				if got := slopeOrNone(impl.TwistSlope(c, s, k)); got != "none" {
					t.Errorf("TwistSlope(%v, %v, %d) = %s", c, s, k, got)
				}
			}
		}
	}
}

// slopeWordText writes a word out; "none" is nil with false.
func slopeWordText(w []int, ok bool) string {
	if !ok && w == nil {
		return "none"
	}
	if !ok {
		return "none, but not nil"
	}
	return impl.WordText(w)
}

func TestSlopeWordCases(t *testing.T) {
	as, bs := strings.Repeat("a", 23), strings.Repeat("b", 23)
	cases := map[string]string{
		"1/0":       "b",
		"0/1":       "a",
		"1/1":       "ab",
		"-1/1":      "aB",
		"1/2":       "aab",
		"2/1":       "abb",
		"-1/2":      "aaB",
		"-2/1":      "aBB",
		"2/3":       "aabab",
		"3/2":       "ababb",
		"-3/2":      "aBaBB",
		"1/4":       "aaaab",
		"4/1":       "abbbb",
		"5/3":       "ababbabb",
		"3/5":       "aabaabab",
		"-3/5":      "aaBaaBaB",
		"1/23":      as + "b",
		"23/1":      "a" + bs,
		"-1/23":     as + "B",
		"-23/1":     "a" + strings.ToUpper(bs),
		"11/13":     "aabababababaabababababab",
		"1/24":      "none",
		"24/1":      "none",
		"-1/24":     "none",
		"-24/1":     "none",
		"12/13":     "none",
		"13/12":     "none",
		"-12/13":    "none",
		"1/1000":    "none",
		"1000/1":    "none",
		"-1000/1":   "none",
		"-1000/999": "none",
		"999/1000":  "none",
	}
	for text, want := range cases {
		if got := slopeWordText(impl.SlopeWord(slopeNamed(text))); got != want {
			t.Errorf("SlopeWord of %s = %s, want %s", text, got, want)
		}
	}
}

// coprimesBelow counts the numbers from 1 to n that have no common divisor with n.
func coprimesBelow(n int) int {
	count := 0
	for p := 1; p <= n; p++ {
		if triedQuotient(p, n) == quotientText(p, n) {
			count++
		}
	}
	return count
}

// TestSlopeWords has all slopes with up to 30 letters, and counts those with a word.
func TestSlopeWords(t *testing.T) {
	if impl.MaxWord != 24 {
		t.Fatalf("MaxWord = %d", impl.MaxWord)
	}
	byLength := make([]int, 31)
	for _, s := range smallSlopes(30) {
		p := magnitude(s.P)
		w, ok := impl.SlopeWord(s)
		if p+s.Q > 24 {
			if got := slopeWordText(w, ok); got != "none" {
				t.Errorf("SlopeWord of %v = %s", s, got)
			}
			continue
		}
		if got := slopeWordText(w, ok); got != stairText(s) || !impl.IsWord(w) || len(w) != p+s.Q {
			t.Errorf("SlopeWord of %v = %s, want %s", s, got, stairText(s))
		}
		if sums := impl.LetterSums(w); listText(sums) != listText([]int{s.Q, s.P, 0, 0, 0, 0, 0, 0}) {
			t.Errorf("LetterSums of SlopeWord of %v = %v", s, sums)
		}
		if s.P >= 0 {
			byLength[len(w)]++
		}
	}
	if byLength[1] != 2 {
		t.Errorf("%d slopes have one letter", byLength[1])
	}
	for n := 2; n <= 24; n++ {
		if byLength[n] != coprimesBelow(n) {
			t.Errorf("%d slopes have %d letters, want %d", byLength[n], n, coprimesBelow(n))
		}
	}
}

// TestSlopeWordsOfSums puts the word of the steeper slope behind that of the other one.
func TestSlopeWordsOfSums(t *testing.T) {
	put := 0
	for _, a := range smallSlopes(23) {
		for _, b := range smallSlopes(23) {
			sum, ok := impl.SumSlope(a, b)
			if !ok || a.P < 0 || b.P < 0 || a.P*b.Q > b.P*a.Q || sum.P+sum.Q > 24 {
				continue
			}
			put++
			first, _ := impl.SlopeWord(a)
			second, _ := impl.SlopeWord(b)
			whole, _ := impl.SlopeWord(sum)
			if !slices.Equal(whole, slices.Concat(first, second)) {
				t.Errorf("SlopeWord of %v = %v, the sum of %v and %v with %v and %v", sum, whole, a, b, first, second)
			}
		}
	}
	// Each slope with more than one letter is such a sum in one way.
	want := 0
	for n := 2; n <= 24; n++ {
		want += coprimesBelow(n)
	}
	if put != want {
		t.Errorf("%d sums, want %d", put, want)
	}
}

// TestSlopeWordsAreNew changes one result, with its unused capacity, and looks at another one.
func TestSlopeWordsAreNew(t *testing.T) {
	for _, s := range smallSlopes(12) {
		want := stairText(s)
		first, _ := impl.SlopeWord(s)
		other, _ := impl.SlopeWord(s)
		spoil([][]int{first})
		if got := impl.WordText(other); got != want {
			t.Errorf("SlopeWord of %v = %s after a change of another result", s, got)
		}
		if got := slopeWordText(impl.SlopeWord(s)); got != want {
			t.Errorf("SlopeWord of %v = %s after a change of its last result", s, got)
		}
	}
}

// TestSlopeOneByZero has the slope 1/0 as every argument.
func TestSlopeOneByZero(t *testing.T) {
	up := slopeWith(1, 0)
	if !impl.IsSlope(up) || impl.SlopeText(up) != "1/0" || slopeOrNone(impl.ParseSlope("1/0")) != "1/0" || slopeWordText(impl.SlopeWord(up)) != "b" {
		t.Errorf("1/0 is no slope, or has another text or word")
	}
	for _, s := range manySlopes() {
		if impl.CrossNumber(up, s) != s.Q || impl.CrossNumber(s, up) != s.Q || impl.IsBasisPair(up, s) != (s.Q == 1) || impl.IsBasisPair(s, up) != (s.Q == 1) {
			t.Errorf("1/0 and %v cross %d times", s, impl.CrossNumber(up, s))
		}
		want := "none"
		if s.Q == 1 && s.P < 1000 {
			want = quotientText(s.P+1, 1)
		}
		if got := slopeOrNone(impl.SumSlope(up, s)); got != want {
			t.Errorf("SumSlope of 1/0 and %v = %s, want %s", s, got, want)
		}
		if got := slopeOrNone(impl.SumSlope(s, up)); got != want {
			t.Errorf("SumSlope of %v and 1/0 = %s, want %s", s, got, want)
		}
		for k := -20; k <= 20; k++ {
			if got, want := slopeOrNone(impl.TwistSlope(up, s, k)), triedQuotient(s.P-k*s.Q, s.Q); got != want {
				t.Errorf("TwistSlope(1/0, %v, %d) = %s, want %s", s, k, got, want)
			}
			if got, want := slopeOrNone(impl.TwistSlope(s, up, k)), triedQuotient(1+k*s.Q*s.P, k*s.Q*s.Q); got != want {
				t.Errorf("TwistSlope(%v, 1/0, %d) = %s, want %s", s, k, got, want)
			}
		}
	}
}

// TestNoSlope has lone pairs that are no slope, and each beside slopes and beside each other.
func TestNoSlope(t *testing.T) {
	others := append(smallSlopes(2), slopeWith(1000, 1), slopeWith(-999, 1000))
	for _, bad := range noSlopes() {
		if impl.IsSlope(bad) || impl.SlopeText(bad) != "" {
			t.Errorf("IsSlope of %v = %v, SlopeText %q", bad, impl.IsSlope(bad), impl.SlopeText(bad))
		}
		if got := slopeWordText(impl.SlopeWord(bad)); got != "none" {
			t.Errorf("SlopeWord of %v = %s", bad, got)
		}
		for _, other := range append(others, bad, impl.Slope{}, slopeWith(-1, 0)) {
			for _, pair := range [][2]impl.Slope{{bad, other}, {other, bad}} {
				a, b := pair[0], pair[1]
				if got := impl.CrossNumber(a, b); got != -1 {
					t.Errorf("CrossNumber of %v and %v = %d", a, b, got)
				}
				if impl.IsBasisPair(a, b) {
					t.Errorf("IsBasisPair of %v and %v = true", a, b)
				}
				if got := slopeOrNone(impl.SumSlope(a, b)); got != "none" {
					t.Errorf("SumSlope of %v and %v = %s", a, b, got)
				}
				for _, k := range []int{math.MinInt64, -21, -20, -1, 0, 1, 2, 20, 21, math.MaxInt64} {
					if got := slopeOrNone(impl.TwistSlope(a, b, k)); got != "none" {
						t.Errorf("TwistSlope(%v, %v, %d) = %s", a, b, k, got)
					}
				}
			}
		}
	}
	// Of these, the results would be slopes.
	for _, text := range []string{"1001/1", "-1001/1"} {
		for _, k := range []int{-20, -1, 1, 20} {
			if got := slopeOrNone(impl.TwistSlope(slopeWith(1, 0), slopeNamed(text), k)); got != "none" {
				t.Errorf("TwistSlope(1/0, %s, %d) = %s", text, k, got)
			}
		}
	}
	for _, pair := range [][2]string{{"1/0", "0/-1"}, {"-1/0", "0/1"}, {"-1/-1", "1/0"}, {"1/0", "-1001/1"}} {
		if got := slopeOrNone(impl.SumSlope(slopeNamed(pair[0]), slopeNamed(pair[1]))); got != "none" {
			t.Errorf("SumSlope of %s and %s = %s", pair[0], pair[1], got)
		}
	}
}
