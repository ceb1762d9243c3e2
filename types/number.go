package types

import (
	"strings"

	"courier/api"
)

// right tells whether Decimal tells a number for some text: if for any, then for the shortest.
func right(n api.Number) bool {
	if n.Scale < 0 || n.Scale > maxNM {
		return false
	}
	told, err := Decimal(write(n))
	return err == nil && told == n
}

// write writes a number whose Scale is not below 0.
func write(n api.Number) string {
	sign := ""
	if n.Neg {
		sign = "-"
	}
	digits := strings.Repeat("0", max(0, n.Scale+1-len(n.Digits))) + n.Digits
	if n.Scale == 0 {
		return sign + digits
	}
	point := len(digits) - n.Scale
	return sign + digits[:point] + "." + digits[point:]
}

// places are the digits of a right number, as many places ahead of the point as behind it, each with the number's sign: so the first place in which two numbers differ orders them.
func places(n api.Number) [2 * maxNM]int {
	sign := 1
	if n.Neg {
		sign = -1
	}
	var list [2 * maxNM]int
	first := maxNM + n.Scale - len(n.Digits)
	for i := range len(n.Digits) {
		list[first+i] = sign * int(n.Digits[i]-'0')
	}
	return list
}
