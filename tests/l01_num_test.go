package tests

import (
	"math"
	"slices"
	"strings"
	"testing"

	"loop.example/g03105/impl"
)

// decimal writes n digit by digit, apart from strconv, so that it is a second opinion.
func decimal(n int) string {
	if n == 0 {
		return "0"
	}
	var digits []byte
	for m := n; m != 0; m /= 10 {
		d := m % 10
		if d < 0 {
			d = -d
		}
		digits = append(digits, byte('0'+d))
	}
	if n < 0 {
		digits = append(digits, '-')
	}
	slices.Reverse(digits)
	return string(digits)
}

func TestFormatInt(t *testing.T) {
	cases := map[int]string{
		0:             "0",
		7:             "7",
		-5:            "-5",
		10:            "10",
		-100:          "-100",
		1234567890:    "1234567890",
		math.MaxInt64: "9223372036854775807",
		math.MinInt64: "-9223372036854775808",
	}
	for n, want := range cases {
		if got := impl.FormatInt(n); got != want {
			t.Errorf("FormatInt(%d) = %q, want %q", n, got, want)
		}
	}
	for n := -20000; n <= 20000; n++ {
		if got := impl.FormatInt(n); got != decimal(n) {
			t.Errorf("FormatInt(%d) = %q", n, got)
		}
	}
}

func TestParseNumberAccepts(t *testing.T) {
	for n := 0; n <= 999999; n++ {
		if got, ok := impl.ParseNumber(decimal(n)); got != n || !ok {
			t.Fatalf("ParseNumber(%q) = %d, %v", decimal(n), got, ok)
		}
	}
}

func TestParseIntAccepts(t *testing.T) {
	accept := func(n int) {
		if got, ok := impl.ParseInt(decimal(n)); got != n || !ok {
			t.Errorf("ParseInt(%q) = %d, %v", decimal(n), got, ok)
		}
	}
	for n := 0; n <= 2000; n++ {
		accept(n)
		accept(-n)
		accept(999999999999 - n)
		accept(n - 999999999999)
	}
	for n := 1; n <= 999999999999; n *= 3 {
		accept(n)
		accept(-n)
	}
	accept(1000000)
	accept(-1000000)
}

// malformed are no decimal representations of any integer.
var malformed = []string{
	"", " ", "-", "--", "+", "+5", "--5", "-+5", "-0", "00", "007", "-007", "01", "-01", "0000001",
	" 1", "1 ", "1\n", "\t1", "1\x00", "\x00", "1.0", "1.", ".1", "1e3", "1,000", "1_000", "0x1", "0b1", "0o7",
	"a", "1a", "a1", "12-", "1-2", "\xff", "\xff1", "\u0661", "\uff11", "\u22125", "nil", "NaN", "Inf",
}

// tooGreat are integers beyond both limits, some of them beyond 64 bits.
var tooGreat = []string{
	"1000000000000", "-1000000000000", "9999999999999", "-9999999999999",
	"9223372036854775807", "-9223372036854775807", "9223372036854775808", "-9223372036854775808", "-9223372036854775809",
	"18446744073709551615", "18446744073709551616", "18446744073709551617", "-18446744073709551617",
	"1" + strings.Repeat("0", 40), "-1" + strings.Repeat("0", 40), strings.Repeat("9", 5000),
}

func TestParseNumberRejects(t *testing.T) {
	beyond := []string{"1000000", "1000001", "9999999", "10000000", "999999999999", "-1", "-999999", "-1000000"}
	for _, s := range slices.Concat(malformed, tooGreat, beyond) {
		if n, ok := impl.ParseNumber(s); n != 0 || ok {
			t.Errorf("ParseNumber(%q) = %d, %v, want 0, false", s, n, ok)
		}
	}
}

func TestParseIntRejects(t *testing.T) {
	for _, s := range slices.Concat(malformed, tooGreat) {
		if n, ok := impl.ParseInt(s); n != 0 || ok {
			t.Errorf("ParseInt(%q) = %d, %v, want 0, false", s, n, ok)
		}
	}
}

// TestParseShortTexts holds both parsers against decimal for all texts of up to 4 bytes from a few.
func TestParseShortTexts(t *testing.T) {
	known := map[string]int{}
	for n := -999; n <= 9999; n++ {
		known[decimal(n)] = n
	}
	texts := []string{""}
	for i := 0; i < len(texts); i++ {
		s := texts[i]
		if len(s) < 4 {
			for _, b := range []byte("0129-+ _.x\x80") {
				texts = append(texts, s+string([]byte{b}))
			}
		}
		want, is := known[s]
		if n, ok := impl.ParseInt(s); ok != is || n != want {
			t.Errorf("ParseInt(%q) = %d, %v", s, n, ok)
		}
		if want < 0 {
			want, is = 0, false
		}
		if n, ok := impl.ParseNumber(s); ok != is || n != want {
			t.Errorf("ParseNumber(%q) = %d, %v", s, n, ok)
		}
	}
}

func TestSplitByte(t *testing.T) {
	cases := []struct {
		s    string
		by   byte
		want []string
	}{
		{"", ',', []string{""}},
		{"", 0, []string{""}},
		{"", 0xff, []string{""}},
		{",", ',', []string{"", ""}},
		{",,", ',', []string{"", "", ""}},
		{"abc", ',', []string{"abc"}},
		{"a,b", ',', []string{"a", "b"}},
		{",a", ',', []string{"", "a"}},
		{"a,", ',', []string{"a", ""}},
		{",a,,bc,", ',', []string{"", "a", "", "bc", ""}},
		{"a b  c", ' ', []string{"a", "b", "", "c"}},
		{"a\nb\r\n", '\n', []string{"a", "b\r", ""}},
		{"a\x00b", 0, []string{"a", "b"}},
		{"a\xffb\xff", 0xff, []string{"a", "b", ""}},
		{"\u00e9", 0xa9, []string{"\xc3", ""}},
		{"\u00e9", 0xc3, []string{"", "\xa9"}},
		{"\u00e9", 0xe9, []string{"\u00e9"}},
		{"\x80\u0080", 0x80, []string{"", "\xc2", ""}},
	}
	for _, c := range cases {
		if got := impl.SplitByte(c.s, c.by); !slices.Equal(got, c.want) {
			t.Errorf("SplitByte(%q, %q) = %q, want %q", c.s, c.by, got, c.want)
		}
	}
}

func TestJoin(t *testing.T) {
	cases := []struct {
		list []string
		by   string
		want string
	}{
		{nil, ",", ""},
		{[]string{}, ",", ""},
		{[]string{""}, ",", ""},
		{[]string{"a"}, ",", "a"},
		{[]string{"", ""}, ",", ","},
		{[]string{"a", "b"}, "-", "a-b"},
		{[]string{"a", "", "b", ""}, ",", "a,,b,"},
		{[]string{"a", "b", "c"}, "", "abc"},
		{[]string{"a", "b", "c"}, ", ", "a, b, c"},
		{[]string{",", ","}, ",", ",,,"},
		{[]string{"\xff", "\x00"}, "\x80", "\xff\x80\x00"},
	}
	for _, c := range cases {
		if got := impl.Join(c.list, c.by); got != c.want {
			t.Errorf("Join(%q, %q) = %q, want %q", c.list, c.by, got, c.want)
		}
	}
}

// TestSplitThenJoin goes through all bytes by which a text can be split.
func TestSplitThenJoin(t *testing.T) {
	var all []byte
	for b := range 256 {
		all = append(all, byte(b))
	}
	texts := []string{"", "a", ",", ",,a,b,,", "\u00e9\u20ac\U0001f600", "\xff\xfe\xff", string(all), string(all) + string(all)}
	for _, s := range texts {
		for _, b := range all {
			by := string([]byte{b})
			parts := impl.SplitByte(s, b)
			if len(parts) != strings.Count(s, by)+1 {
				t.Errorf("SplitByte(%q, %q) has %d elements", s, b, len(parts))
			}
			for _, p := range parts {
				if strings.Contains(p, by) {
					t.Errorf("SplitByte(%q, %q) leaves %q", s, b, p)
				}
			}
			if got := impl.Join(parts, by); got != s {
				t.Errorf("Join of SplitByte(%q, %q) = %q", s, b, got)
			}
		}
	}
}

func TestJoinThenSplit(t *testing.T) {
	lists := [][]string{
		{""}, {"", ""}, {"", "", ""}, {"a"}, {"a", ""}, {"", "a"}, {"ab", "", "c", "de"},
		{"\xfe", "\u00e9", "\xfe"}, {"1", "-2", "3"},
	}
	for _, list := range lists {
		for _, b := range []byte{',', ' ', '\n', 0, 0x80, 0xff} {
			got := impl.SplitByte(impl.Join(list, string([]byte{b})), b)
			if !slices.Equal(got, list) {
				t.Errorf("SplitByte of Join(%q, %q) = %q", list, b, got)
			}
		}
	}
}

// TestJoinKeepsList looks at the unused capacity, too.
func TestJoinKeepsList(t *testing.T) {
	whole := []string{"a", "b", "c", "d"}
	if got := impl.Join(whole[:2], "-"); got != "a-b" {
		t.Errorf("Join = %q", got)
	}
	if !slices.Equal(whole, []string{"a", "b", "c", "d"}) {
		t.Errorf("Join changed its list to %q", whole)
	}
}

// TestSplitByteIsNew changes one result and asks again.
func TestSplitByteIsNew(t *testing.T) {
	first := impl.SplitByte("a,b", ',')
	first[0] = "x"
	_ = append(first[:1], "y")
	if got := impl.SplitByte("a,b", ','); !slices.Equal(got, []string{"a", "b"}) {
		t.Errorf("SplitByte = %q after a change of its last result", got)
	}
}
