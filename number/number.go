// Package number has numbers as text, as floats, and as lengths. See shared/doc/02-number.md.
package number

import (
	"math"
	"strconv"

	"parterre/api"
	"parterre/fixed"
)

// The classes of floats.
const (
	Plain    = 0
	NaN      = 1
	Infinite = 2
	Zero     = 3
	Minus    = 4
)

const (
	maxText  = 300
	maxExact = 1 << 53 // up to it a float holds each whole number
)

// Class tells a float's.
func Class(f float64) int {
	switch {
	case math.IsNaN(f):
		return NaN
	case math.IsInf(f, 0):
		return Infinite
	case f == 0 && math.Signbit(f):
		return Minus
	case f == 0:
		return Zero
	}
	return Plain
}

// FromFloat tells the length of a float.
func FromFloat(f float64) (int, api.Errno) {
	switch Class(f) {
	case NaN:
		return 0, api.ErrNaN
	case Plain:
		// A float times a power of two is exact, or infinite where it would be too great.
		if units := f * api.Unit; math.Abs(units) <= api.MaxPx {
			return int(math.RoundToEven(units)), api.OK
		}
		fallthrough
	case Infinite:
		return 0, api.ErrOver
	}
	return 0, api.OK
}

// ToFloat tells a length as a float.
func ToFloat(n int) float64 {
	if n < -maxExact || n > maxExact {
		return 0
	}
	return float64(n) / api.Unit
}

// Scan tells how long the number is with which a text begins.
func Scan(s string) int { return cut(s).length }

// Value tells a number of a text, scaled.
func Value(s string, scale int) (int, api.Errno) {
	if !isScale(scale) {
		return 0, api.ErrArg
	}
	if len(s) > maxText {
		return 0, api.ErrNumber
	}
	p := cut(s)
	if p.length == 0 || p.length < len(s) {
		return 0, api.ErrNumber
	}
	digits := product(p.whole+p.fraction, scale)
	n := round(digits, len(digits)-len(p.fraction)+p.power())
	if !fixed.Is(n) {
		return 0, api.ErrOver
	}
	if p.minus {
		n = -n
	}
	return n, api.OK
}

// Text tells a scaled number's text.
func Text(n, scale int) string {
	if !fixed.Is(n) || !isScale(scale) {
		return ""
	}
	text := ""
	if n < 0 {
		text, n = "-", -n
	}
	text += strconv.Itoa(fixed.Div(n, scale))
	rest := fixed.Mod(n, scale)
	if rest > 0 {
		text += "."
	}
	// It ends, and with a digit that is no 0, since each scale divides a power of ten.
	for rest > 0 {
		text += strconv.Itoa(fixed.Div(rest*10, scale))
		rest = fixed.Mod(rest*10, scale)
	}
	return text
}

func isScale(n int) bool { return n == 1 || n == api.Unit || n == api.Mille }
