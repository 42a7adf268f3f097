package number

import (
	"math"
	"math/big"
	"strconv"
	"strings"
	"testing"

	"parterre/api"
)

const top = api.MaxPx

func scales() []int { return []int{1, api.Unit, api.Mille} }

// chance yields numbers below n that are the same in each run.
func chance(seed uint64) func(n int) int {
	return func(n int) int {
		seed = seed*6364136223846793005 + 1442695040888963407
		return int((seed >> 20) % uint64(n))
	}
}

// lengths are those at the edges, and some between them.
func lengths() []int {
	l := []int{-top, -top + 1, -65, -64, -63, -1, 0, 1, 31, 32, 33, 63, 64, 65, 999, 1000, 1001, top - 1, top}
	next := chance(3)
	for range 2000 {
		l = append(l, next(2*top+1)-top, next(4001)-2000)
	}
	return l
}

func TestClass(t *testing.T) { // P2.1
	for _, x := range []struct {
		f    float64
		want int
	}{
		{math.NaN(), NaN}, {math.Float64frombits(0xfff0000000000001), NaN},
		{math.Inf(1), Infinite}, {math.Inf(-1), Infinite},
		{0, Zero}, {math.Copysign(0, -1), Minus},
		{1, Plain}, {-1, Plain}, {math.MaxFloat64, Plain}, {-math.MaxFloat64, Plain},
		{math.SmallestNonzeroFloat64, Plain}, {-math.SmallestNonzeroFloat64, Plain},
	} {
		if n := Class(x.f); n != x.want {
			t.Errorf("Class(%g): %d", x.f, n)
		}
	}
	if Plain != 0 || NaN != 1 || Infinite != 2 || Zero != 3 || Minus != 4 {
		t.Error("the classes' numbers")
	}
}

func TestFromFloat(t *testing.T) { // P2.1
	const px = 1 << 30
	for _, x := range []struct {
		f float64
		n int
		e api.Errno
	}{
		{0, 0, api.OK}, {math.Copysign(0, -1), 0, api.OK},
		{1.5, 96, api.OK}, {-1.5, -96, api.OK},
		{0.5 / 64, 0, api.OK}, {1.5 / 64, 2, api.OK}, {2.5 / 64, 2, api.OK}, {3.5 / 64, 4, api.OK},
		{-0.5 / 64, 0, api.OK}, {-1.5 / 64, -2, api.OK}, {-2.5 / 64, -2, api.OK},
		{0.51 / 64, 1, api.OK}, {0.49 / 64, 0, api.OK}, {-0.51 / 64, -1, api.OK},
		{math.SmallestNonzeroFloat64, 0, api.OK}, {-math.SmallestNonzeroFloat64, 0, api.OK},
		{px, top, api.OK}, {-px, -top, api.OK},
		{math.Nextafter(px, 0), top, api.OK}, {px - 1.0/64, top - 1, api.OK},
		{math.Nextafter(px, px+1), 0, api.ErrOver}, {math.Nextafter(-px, -px-1), 0, api.ErrOver},
		{px + 1, 0, api.ErrOver}, {math.MaxFloat64, 0, api.ErrOver}, {-math.MaxFloat64, 0, api.ErrOver},
		{math.Inf(1), 0, api.ErrOver}, {math.Inf(-1), 0, api.ErrOver}, {math.NaN(), 0, api.ErrNaN},
	} {
		if n, e := FromFloat(x.f); n != x.n || e != x.e {
			t.Errorf("FromFloat(%g): %d, %d", x.f, n, int(e))
		}
	}
}

func TestToFloat(t *testing.T) { // P2.1
	const exact = 1 << 53
	for _, x := range []struct {
		n    int
		want float64
	}{
		{0, 0}, {96, 1.5}, {-1, -0.015625}, {top, 1 << 30},
		{exact, 1 << 47}, {-exact, -1 << 47}, {exact - 1, 1<<47 - 1.0/64}, {1 - exact, 1.0/64 - 1<<47},
		{exact + 1, 0}, {-exact - 1, 0}, {math.MaxInt, 0}, {math.MinInt, 0},
	} {
		if f := ToFloat(x.n); f != x.want || f == 0 && math.Signbit(f) {
			t.Errorf("ToFloat(%d): %g", x.n, f)
		}
	}
}

func TestScan(t *testing.T) { // P2.2
	for s, want := range map[string]int{
		"": 0, "+": 0, "-": 0, ".": 0, "+.": 0, "..5": 0, "e1": 0, ".e1": 0, "--1": 0, "+-1": 0, " 1": 0, "px": 0, "\x00": 0, "٣": 0,
		"1": 1, "12.px": 2, "1.": 1, "1.e1": 1, "1..5": 1, "1.5.5": 3, ".5": 2, "-.5x": 3, "+0.50%": 5, "007": 3,
		"1e": 1, "1em": 1, "1e+": 1, "1e-px": 1, "1.5e": 3, "1e5em": 3, "1E5": 3, "1e+5": 4, "1e-5": 4, "1e--5": 1, "1e5.5": 3, "1e5e5": 3, ".5e1": 4,
		"1 2": 1, "1\xff": 1, "1/": 1, "1:": 1,
	} {
		if n := Scan(s); n != want {
			t.Errorf("Scan(%q): %d", s, n)
		}
	}
	if n := Scan(strings.Repeat("9", 5000) + "." + strings.Repeat("0", 5000) + "e" + strings.Repeat("1", 5000) + "x"); n != 15002 {
		t.Error("a long one:", n)
	}
}

// isText tells what a number's text is, in another way than the program does.
func isText(s string) bool {
	s = strings.ToLower(s)
	base, power, has := strings.Cut(s, "e")
	allDigits := func(s string) bool { return s != "" && strings.Trim(s, "0123456789") == "" }
	unsigned := func(s string) string {
		if s != "" && strings.Contains("+-", s[:1]) {
			return s[1:]
		}
		return s
	}
	if has && !allDigits(unsigned(power)) {
		return false
	}
	whole, part, point := strings.Cut(unsigned(base), ".")
	if point {
		return (whole == "" || allDigits(whole)) && allDigits(part)
	}
	return allDigits(whole)
}

func TestScanIsTheLongest(t *testing.T) { // P2.2
	next := chance(4)
	for range 20000 {
		b := make([]byte, next(9))
		for i := range b {
			b[i] = "0159..+-eEx"[next(11)]
		}
		s, want := string(b), 0
		for i := range len(s) + 1 {
			if isText(s[:i]) {
				want = i
			}
		}
		if n := Scan(s); n != want {
			t.Fatalf("Scan(%q): %d, not %d", s, n, want)
		}
	}
}

func TestValue(t *testing.T) { // P2.3
	for _, x := range []struct {
		s     string
		scale int
		n     int
	}{
		{"1.5", 64, 96}, {"1e1", 1000, 10000}, {"-1", 64, -64}, {"+2e1", 64, 1280}, {".5", 64, 32}, {"-.5", 1000, -500},
		{"0", 1, 0}, {"-0", 1, 0}, {"-0.0e5", 64, 0}, {"0e999", 64, 0}, {"0e-999", 64, 0}, {"00.000e99999999999999999999", 1000, 0},
		{"0.5", 1, 1}, {"-0.5", 1, -1}, {"1.5", 1, 2}, {"2.5", 1, 3}, {"-2.5", 1, -3}, {"0.4999999999999999999999", 1, 0}, {"2.49999999999999999999", 1, 2},
		{"0.0078125", 64, 1}, {"0.0078124", 64, 0}, {"0.00781249999999999999999999", 64, 0}, {"-0.0078125", 64, -1}, {"0.0005", 1000, 1}, {"0.00049", 1000, 0},
		{"0.05", 1, 0}, {"0.09", 1, 0}, {"5e-1", 1, 1}, {"5e-2", 1, 0}, {"9e-3", 1, 0},
		{"1e-9", 64, 0}, {"1e-99999999999999999999999", 64, 0}, {"100E-2", 64, 64},
		{"1073741824", 64, top}, {"-1073741824", 64, -top}, {"1073741824.0078124", 64, top}, {"-1073741824.00781249", 64, -top},
		{"68719476736", 1, top}, {"68719476736.49", 1, top}, {"68719476.736", 1000, top}, {"-68719476.7364", 1000, -top},
	} {
		if n, e := Value(x.s, x.scale); n != x.n || e != api.OK {
			t.Errorf("Value(%q, %d): %d, %d", x.s, x.scale, n, int(e))
		}
	}
}

func TestValueOfWrongTexts(t *testing.T) { // P2.3
	for _, x := range []struct {
		s     string
		scale int
		e     api.Errno
	}{
		{"1", 0, api.ErrArg}, {"1", 2, api.ErrArg}, {"1", -1, api.ErrArg}, {"1", -64, api.ErrArg}, {"1", math.MinInt, api.ErrArg}, {"1", 100, api.ErrArg}, {"x", 65, api.ErrArg}, {"1e99", 3, api.ErrArg},
		{"", 1, api.ErrNumber}, {".", 64, api.ErrNumber}, {"1.", 64, api.ErrNumber}, {"1e", 64, api.ErrNumber}, {"1e+", 64, api.ErrNumber}, {"1px", 64, api.ErrNumber}, {"--1", 64, api.ErrNumber},
		{" 1", 1, api.ErrNumber}, {"1 ", 1, api.ErrNumber}, {"1e99x", 1, api.ErrNumber}, {"0x10", 1, api.ErrNumber}, {"1_0", 1, api.ErrNumber}, {"Inf", 1, api.ErrNumber}, {"NaN", 1, api.ErrNumber},
		{"1073741824.0078125", 64, api.ErrOver}, {"-1073741824.0078125", 64, api.ErrOver}, {"68719476736.5", 1, api.ErrOver}, {"68719476737", 1, api.ErrOver}, {"-68719476.7365", 1000, api.ErrOver},
		{"1e99", 64, api.ErrOver}, {"-1e99", 64, api.ErrOver}, {"9223372036854775808", 1, api.ErrOver}, {"18446744073709551617", 1, api.ErrOver}, {"1e99999999999999999999", 64, api.ErrOver}, {"0.1e9223372036854775808", 1, api.ErrOver}, {"1e18446744073709551616", 1, api.ErrOver},
	} {
		if n, e := Value(x.s, x.scale); n != 0 || e != x.e {
			t.Errorf("Value(%q, %d): %d, %d", x.s, x.scale, n, int(e))
		}
	}
}

func TestValueOfLongTexts(t *testing.T) { // P2.3
	noughts := func(n int) string { return strings.Repeat("0", n) }
	for _, x := range []struct {
		s string
		n int
		e api.Errno
	}{
		{noughts(299) + "7", 7, api.OK},
		{noughts(300) + "7", 0, api.ErrNumber},
		{"7." + noughts(298), 7, api.OK},
		{"7." + noughts(299), 0, api.ErrNumber},
		{"1e" + strings.Repeat("9", 298), 0, api.ErrOver},
		{"1e" + strings.Repeat("9", 299), 0, api.ErrNumber},
		{"1e-" + strings.Repeat("9", 297), 0, api.OK},
		{"1e" + noughts(297) + "3", 1000, api.OK},
		{"1e" + noughts(298) + "3", 0, api.ErrNumber},
		{"0e" + strings.Repeat("9", 298), 0, api.OK},
		{strings.Repeat("9", 300), 0, api.ErrOver},
		{strings.Repeat("9", 301), 0, api.ErrNumber},
		{strings.Repeat("x", 301), 0, api.ErrNumber},
		{"1" + noughts(294) + "e-294", 1, api.OK},
		{"1" + noughts(290) + "e-280", 10000000000, api.OK},
		{"." + noughts(293) + "1e+294", 1, api.OK},
		{"." + noughts(293) + "1e-294", 0, api.OK},
		{"0.4" + strings.Repeat("9", 297), 0, api.OK},
		{"0.5" + noughts(296) + "1", 1, api.OK},
	} {
		if n, e := Value(x.s, 1); n != x.n || e != x.e {
			t.Errorf("Value(%q (%d bytes), 1): %d, %d", x.s, len(x.s), n, int(e))
		}
	}
}

// exact tells what Value should, by numbers of any size.
func exact(t *testing.T, s string, scale int) (int, api.Errno) {
	r, ok := new(big.Rat).SetString(s)
	if !ok {
		t.Fatalf("%q is no number", s)
	}
	r.Mul(r, big.NewRat(int64(scale), 1))
	double := new(big.Int).Mul(new(big.Int).Abs(r.Num()), big.NewInt(2))
	double.Add(double, r.Denom())
	n := double.Quo(double, new(big.Int).Mul(r.Denom(), big.NewInt(2)))
	if n.Cmp(big.NewInt(top)) > 0 {
		return 0, api.ErrOver
	}
	return int(n.Int64()) * r.Sign(), api.OK
}

func TestValueIsExact(t *testing.T) { // P2.3
	next := chance(5)
	digits := func(n int) string {
		b := make([]byte, n)
		for i := range b {
			b[i] = "0123456789005599"[next(16)]
		}
		return string(b)
	}
	for range 20000 {
		s := []string{"", "+", "-"}[next(3)] + digits(1+next(12))
		if next(3) > 0 {
			s += "." + digits(1+next(20))
		}
		if next(3) == 0 {
			s += []string{"e", "E", "e+", "e-"}[next(4)] + strconv.Itoa(next(25))
		}
		for _, scale := range scales() {
			want, fault := exact(t, s, scale)
			if n, e := Value(s, scale); n != want || e != fault {
				t.Fatalf("Value(%q, %d): %d, %d; not %d, %d", s, scale, n, int(e), want, int(fault))
			}
		}
	}
}

func TestText(t *testing.T) { // P2.4
	for _, x := range []struct {
		n, scale int
		want     string
	}{
		{0, 1, "0"}, {0, 64, "0"}, {0, 1000, "0"}, {7, 1, "7"}, {-7, 1, "-7"}, {100, 1, "100"},
		{-1, 64, "-0.015625"}, {96, 64, "1.5"}, {-96, 64, "-1.5"}, {64, 64, "1"}, {640, 64, "10"}, {63, 64, "0.984375"}, {32, 64, "0.5"}, {6421, 64, "100.328125"},
		{12500, 1000, "12.5"}, {1, 1000, "0.001"}, {10, 1000, "0.01"}, {-100, 1000, "-0.1"}, {1050, 1000, "1.05"}, {10000, 1000, "10"},
		{top, 1, "68719476736"}, {-top, 1, "-68719476736"}, {top, 64, "1073741824"}, {-top, 1000, "-68719476.736"}, {top - 1, 64, "1073741823.984375"},
		{top + 1, 1, ""}, {-top - 1, 64, ""}, {math.MinInt, 1, ""}, {math.MaxInt, 1000, ""},
		{1, 0, ""}, {1, 2, ""}, {1, -1, ""}, {1, -64, ""}, {1, 10, ""}, {1, math.MinInt, ""},
	} {
		if s := Text(x.n, x.scale); s != x.want {
			t.Errorf("Text(%d, %d): %q", x.n, x.scale, s)
		}
	}
}

func TestBack(t *testing.T) { // P2.5
	for _, n := range lengths() {
		for _, scale := range scales() {
			s := Text(n, scale)
			if back, e := Value(s, scale); back != n || e != api.OK || Scan(s) != len(s) {
				t.Fatalf("Value(%q, %d): %d, %d; not %d", s, scale, back, int(e), n)
			}
		}
	}
}

func TestFloatsBack(t *testing.T) { // P2.6
	for _, n := range lengths() {
		if back, e := FromFloat(ToFloat(n)); back != n || e != api.OK {
			t.Fatalf("FromFloat(%g): %d, %d; not %d", ToFloat(n), back, int(e), n)
		}
	}
}

func TestAlike(t *testing.T) { // P2.7
	for _, n := range lengths() {
		for _, scale := range scales() {
			s := Text(n, scale)
			sign, size := "", s
			if n < 0 {
				sign, size = "-", s[1:]
			}
			whole, part, _ := strings.Cut(size, ".")
			for _, other := range []string{
				sign + "000" + whole + "." + part + "000",
				sign + whole + part + "e-" + strconv.Itoa(len(part)),
				sign + whole + part + "0000E-00" + strconv.Itoa(len(part)+4),
				sign + "0.0" + whole + part + "e+" + strconv.Itoa(len(whole)+1),
				sign + "." + whole + part + "0e" + strconv.Itoa(len(whole)),
			} {
				if m, e := Value(other, scale); m != n || e != api.OK {
					t.Fatalf("Value(%q, %d): %d, %d; not %d as of %q", other, scale, m, int(e), n, s)
				}
			}
		}
	}
}
