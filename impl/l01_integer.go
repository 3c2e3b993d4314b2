package impl

import "strconv"

const MaxValue = 1000000000000

func FormatInt(n int) string {
	return strconv.Itoa(n)
}

func ParseInt(s string) (int, bool) {
	n, err := strconv.Atoi(s)
	if err != nil || !InRange(n, 0, MaxValue) {
		return 0, false
	}
	// Atoi also takes signs and leading zeros, which FormatInt never writes here.
	if FormatInt(n) != s {
		return 0, false
	}
	return n, true
}

func Min(a int, b int) int {
	low, _ := lowAndHigh(a, b)
	return low
}

func Max(a int, b int) int {
	_, high := lowAndHigh(a, b)
	return high
}

// The first number stands apart so that there is always one to return.
func lowAndHigh(first int, rest ...int) (int, int) {
	low, high := first, first
	for _, n := range rest {
		if n < low {
			low = n
		}
		if n > high {
			high = n
		}
	}
	return low, high
}

func CeilDiv(a int, b int) int {
	if !InRange(a, 0, MaxValue) || !InRange(b, 1, MaxValue) {
		return 0
	}
	return (a + b - 1) / b
}

func Mod(p int, q int) int {
	if !InRange(q, 1, MaxValue) {
		return 0
	}
	r := p % q
	if r < 0 { // % takes the sign of p
		r += q
	}
	return r
}

func InRange(n int, low int, high int) bool {
	return low <= n && n <= high
}
