package tests

import (
	"math"
	"strings"
	"testing"

	"loop.example/g00586/impl"
)

func TestMaxValue(t *testing.T) {
	if impl.MaxValue != 1000000000000 {
		t.Errorf("MaxValue is %d", impl.MaxValue)
	}
}

func TestFormatInt(t *testing.T) {
	cases := []struct {
		n    int
		want string
	}{
		{0, "0"},
		{7, "7"},
		{10, "10"},
		{120, "120"},
		{-3, "-3"},
		{-10, "-10"},
		{impl.MaxValue, "1000000000000"},
		{impl.MaxValue + 1, "1000000000001"},
		{-impl.MaxValue, "-1000000000000"},
		{math.MaxInt, "9223372036854775807"},
		{math.MinInt, "-9223372036854775808"},
	}
	for _, c := range cases {
		if got := impl.FormatInt(c.n); got != c.want {
			t.Errorf("FormatInt(%d) is %q, not %q", c.n, got, c.want)
		}
	}
}

func checkParsed(t *testing.T, s string, want int, wantOk bool) {
	t.Helper()
	if n, ok := impl.ParseInt(s); n != want || ok != wantOk {
		t.Errorf("ParseInt(%q) is %d, %t, not %d, %t", s, n, ok, want, wantOk)
	}
}

func TestParseIntAccepts(t *testing.T) {
	cases := []struct {
		s    string
		want int
	}{
		{"0", 0},
		{"1", 1},
		{"9", 9},
		{"10", 10},
		{"17", 17},
		{"100", 100},
		{"1234567890", 1234567890},
		{"2147483648", 2147483648},
		{"4294967296", 4294967296},
		{"999999999999", impl.MaxValue - 1},
		{"1000000000000", impl.MaxValue},
	}
	for _, c := range cases {
		checkParsed(t, c.s, c.want, true)
	}
}

func TestParseIntRejects(t *testing.T) {
	groups := map[string][]string{
		"empty and blank": {"", " ", "\t", "\n", "\x00"},
		"leading zeros":   {"00", "01", "007", "017", "0000000000001", "01000000000000"},
		"signs":           {"-", "+", "-0", "+0", "-1", "+1", "--1", "-1000000000000", "-017", "1-", "1+"},
		"beyond the limit": {"1000000000001", "9999999999999", "10000000000000", "9223372036854775807",
			"9223372036854775808", "18446744073709551615", "-9223372036854775808"},
		"beyond 64 bits, where a sum wraps around": {"18446744073709551616", "18446744073709551633",
			"1844674407370955161600017", strings.Repeat("9", 500), "1" + strings.Repeat("0", 64)},
		"other bytes": {"x", "1x", "x1", "1 2", " 1", "1 ", "1\n", "\n1", "1\x00", "\x001", "1\xff"},
		"other forms": {"1_000", "1,000", "1.0", "1.", ".1", "1e3", "0x10", "0b1", "0o7", "1a", "NaN", "Inf"},
		"other digits, and the bytes beside 0 and 9": {"\u0661", "\uff11", "1\u0662", "/", ":", "1/", "1:"},
	}
	for name, list := range groups {
		t.Run(name, func(t *testing.T) {
			for _, s := range list {
				checkParsed(t, s, 0, false)
			}
		})
	}
}

func TestParseIntInvertsFormatInt(t *testing.T) {
	check := func(n int) {
		if n >= 0 && n <= impl.MaxValue {
			checkParsed(t, impl.FormatInt(n), n, true)
		} else {
			checkParsed(t, impl.FormatInt(n), 0, false)
		}
	}
	for n := -2000; n <= 2000; n++ {
		check(n)
		check(impl.MaxValue + n)
		check(-impl.MaxValue + n)
	}
	for power := 1; power <= impl.MaxValue*1000; power *= 10 {
		for n := -20; n <= 20; n++ {
			check(power + n)
			check(-power + n)
		}
	}
	check(math.MaxInt)
	check(math.MinInt)
}

// hasDecimalForm states the form by its digits, without any number.
func hasDecimalForm(s string) bool {
	if s == "" || s != "0" && s[0] == '0' {
		return false
	}
	return strings.Trim(s, "0123456789") == ""
}

func TestParseIntOfAllShortStrings(t *testing.T) {
	const alphabet = "0129-+_ x./:"
	texts := []string{""}
	for start := 0; len(texts[start]) < 4; start++ {
		for _, b := range []byte(alphabet) {
			texts = append(texts, texts[start]+string(b))
		}
	}
	for _, s := range texts {
		want := 0
		if hasDecimalForm(s) {
			for _, b := range []byte(s) {
				want = want*10 + int(b-'0')
			}
		}
		checkParsed(t, s, want, hasDecimalForm(s))
	}
}

func TestMinAndMax(t *testing.T) {
	cases := []struct{ low, high int }{
		{2, 3},
		{-1, 2},
		{-3, -2},
		{0, 0},
		{0, 1},
		{-1, 0},
		{5, 5},
		{-5, -5},
		{impl.MaxValue, impl.MaxValue + 1},
		{math.MinInt, math.MaxInt},
		{math.MinInt, 0},
		{0, math.MaxInt},
		{math.MinInt, math.MinInt + 1},
		{math.MaxInt, math.MaxInt},
	}
	for _, c := range cases {
		for _, x := range [][2]int{{c.low, c.high}, {c.high, c.low}} {
			if got := impl.Min(x[0], x[1]); got != c.low {
				t.Errorf("Min(%d, %d) is %d", x[0], x[1], got)
			}
			if got := impl.Max(x[0], x[1]); got != c.high {
				t.Errorf("Max(%d, %d) is %d", x[0], x[1], got)
			}
		}
	}
}

func TestCeilDiv(t *testing.T) {
	const most = impl.MaxValue
	cases := []struct{ a, b, want int }{
		{7, 3, 3},
		{6, 3, 2},
		{0, 1, 0},
		{0, 5, 0},
		{1, 1, 1},
		{1, 5, 1},
		{5, 5, 1},
		{6, 5, 2},
		{most, 1, most},
		{most, 2, most / 2},
		{most, 3, 333333333334},
		{most, 7, 142857142858},
		{most, most, 1},
		{most, most - 1, 2},
		{most - 1, most, 1},
		{0, most, 0},
		{1, most, 1},
	}
	for _, c := range cases {
		if got := impl.CeilDiv(c.a, c.b); got != c.want {
			t.Errorf("CeilDiv(%d, %d) is %d, not %d", c.a, c.b, got, c.want)
		}
	}
}

func TestCeilDivIsTheLeastMultiple(t *testing.T) {
	for a := 0; a <= 60; a++ {
		for b := 1; b <= 70; b++ {
			if n := impl.CeilDiv(a, b); n*b < a || (n-1)*b >= a {
				t.Errorf("CeilDiv(%d, %d) is %d", a, b, n)
			}
		}
	}
}

// outOfRange has numbers that neither a dividend nor a divisor of CeilDiv can be.
var outOfRange = []int{-1, -2, -impl.MaxValue, impl.MaxValue + 1, impl.MaxValue * 2, math.MaxInt, math.MinInt}

func TestCeilDivOutOfRange(t *testing.T) {
	inRange := []int{1, 2, impl.MaxValue}
	for _, n := range outOfRange {
		for _, m := range append(inRange, outOfRange...) {
			if got := impl.CeilDiv(n, m); got != 0 {
				t.Errorf("CeilDiv(%d, %d) is %d", n, m, got)
			}
			if got := impl.CeilDiv(m, n); got != 0 {
				t.Errorf("CeilDiv(%d, %d) is %d", m, n, got)
			}
		}
	}
	for _, n := range append(inRange, 0, -1, impl.MaxValue+1) {
		if got := impl.CeilDiv(n, 0); got != 0 {
			t.Errorf("CeilDiv(%d, 0) is %d", n, got)
		}
	}
}

func TestMod(t *testing.T) {
	const most = impl.MaxValue
	cases := []struct{ p, q, want int }{
		{15, 7, 1},
		{14, 7, 0},
		{0, 7, 0},
		{6, 7, 6},
		{-1, 7, 6},
		{-6, 7, 1},
		{-7, 7, 0},
		{-8, 7, 6},
		{-14, 7, 0},
		{5, 1, 0},
		{-5, 1, 0},
		{most, most, 0},
		{-most, most, 0},
		{-1, most, most - 1},
		{most + 1, most, 1},
		{-most - 1, most, most - 1},
		{math.MaxInt, 10, 7},
		{math.MinInt, 10, 2},
		{math.MaxInt, most, 36854775807},
		{math.MinInt, most, most - 36854775808},
		{math.MinInt, 2, 0},
		{math.MinInt, 1, 0},
	}
	for _, c := range cases {
		if got := impl.Mod(c.p, c.q); got != c.want {
			t.Errorf("Mod(%d, %d) is %d, not %d", c.p, c.q, got, c.want)
		}
	}
}

func TestModRepeats(t *testing.T) {
	for q := 1; q <= 12; q++ {
		want := 0
		for p := -10 * q; p <= 10*q; p++ {
			if got := impl.Mod(p, q); got != want {
				t.Errorf("Mod(%d, %d) is %d, not %d", p, q, got, want)
			}
			want++
			if want == q {
				want = 0
			}
		}
	}
}

func TestModDivisorOutOfRange(t *testing.T) {
	for _, p := range []int{0, 1, -1, 3, -3, impl.MaxValue, impl.MaxValue + 2, math.MaxInt, math.MinInt} {
		for _, q := range append([]int{0}, outOfRange...) {
			if got := impl.Mod(p, q); got != 0 {
				t.Errorf("Mod(%d, %d) is %d", p, q, got)
			}
		}
	}
}

func TestInRange(t *testing.T) {
	cases := []struct {
		n, low, high int
		want         bool
	}{
		{2, 2, 3, true},
		{3, 2, 3, true},
		{1, 2, 3, false},
		{4, 2, 3, false},
		{5, 5, 5, true},
		{4, 5, 5, false},
		{6, 5, 5, false},
		{0, -1, 1, true},
		{-2, -1, 1, false},
		{-2, -3, -1, true},
		{0, -3, -1, false},
		{2, 3, 1, false},
		{3, 3, 1, false},
		{1, 3, 1, false},
		{0, math.MinInt, math.MaxInt, true},
		{math.MinInt, math.MinInt, math.MaxInt, true},
		{math.MaxInt, math.MinInt, math.MaxInt, true},
		{math.MaxInt, 0, 1, false},
		{math.MinInt, 0, 1, false},
		{math.MinInt, 1, math.MaxInt, false},
		{0, math.MaxInt, math.MinInt, false},
	}
	for _, c := range cases {
		if got := impl.InRange(c.n, c.low, c.high); got != c.want {
			t.Errorf("InRange(%d, %d, %d) is %t", c.n, c.low, c.high, got)
		}
	}
}
