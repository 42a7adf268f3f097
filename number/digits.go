package number

import (
	"strings"

	"parterre/api"
)

// maxPower is beyond what the digits of a text of maxText bytes could make up for, so that greater exponents come to the same.
const maxPower = 1000

// parts is what a text begins with, if that is a number's.
type parts struct {
	minus, down               bool // the signs of the number and of its exponent
	whole, fraction, exponent string
	length                    int
}

// cut tells the parts of the longest number's text with which s begins.
func cut(s string) parts {
	at := 0
	digits := func() string {
		from := at
		for at < len(s) && '0' <= s[at] && s[at] <= '9' {
			at++
		}
		return s[from:at]
	}
	take := func(signs string) bool {
		found := at < len(s) && strings.IndexByte(signs, s[at]) >= 0
		if found {
			at++
		}
		return found
	}
	minus := func() bool { return take("+-") && s[at-1] == '-' }

	p := parts{minus: minus()}
	p.whole = digits()
	p.length = at
	if take(".") {
		p.fraction = digits()
	}
	if p.whole == "" && p.fraction == "" {
		return parts{}
	}
	if p.fraction == "" {
		at = p.length // a point without digits behind it is no part of the number
	}
	p.length = at
	if take("eE") {
		p.down = minus()
		p.exponent = digits()
	}
	if p.exponent != "" {
		p.length = at
	}
	return p
}

// power tells the exponent as a number.
func (p parts) power() int {
	n := 0
	for i := range len(p.exponent) {
		n = min(n*10+int(p.exponent[i]-'0'), maxPower)
	}
	if p.down {
		return -n
	}
	return n
}

// product tells the digits of a number times a scale: three more, as the greatest scale needs them.
func product(digits string, scale int) []int {
	const more = 3
	list := make([]int, len(digits)+more)
	carry := 0
	for i := len(list) - 1; i >= 0; i-- {
		if i >= more {
			carry += int(digits[i-more]-'0') * scale
		}
		list[i] = carry % 10
		carry /= 10
	}
	return list
}

// round tells the whole number next to that whose point stands behind so many of its digits, the greater of two that are as near; of one beyond MaxPx some number that is beyond it too.
func round(digits []int, point int) int {
	digit := func(i int) int {
		if i < 0 || i >= len(digits) {
			return 0
		}
		return digits[i]
	}
	n := 0
	for i := range point {
		n = n*10 + digit(i)
		if n > api.MaxPx {
			return n
		}
	}
	if digit(point) >= 5 {
		n++
	}
	return n
}
