package tests

import (
	"math"
	"math/big"
	"testing"

	"loop.example/g01063/impl"
)

type fraction = impl.Fraction

func frac(num, den int64) fraction { return fraction{Num: num, Den: den} }

// extremes are numbers at, and just beyond, every limit of chapters 1 and 2.
var extremes = []int64{
	math.MinInt64, math.MinInt64 + 1, -1000000000001, -1000000000000, -1000001, -1000000, -1000, -2, -1, 0, 1, 2, 3, 10, 11,
	1000, 1001, 999999, 1000000, 1000001, 999999999999, 1000000000000, 1000000000001, math.MaxInt64 - 1, math.MaxInt64,
}

var invalidFractions = []fraction{
	{}, frac(1, 0), frac(-1, 0), frac(0, 2), frac(0, -1), frac(2, 4), frac(-3, 9), frac(6, 4), frac(1, -1), frac(-1, -1), frac(1000000, 1000000), frac(1000001, 1), frac(-1000001, 1), frac(1, 1000001), frac(-1, 1000001),
	frac(math.MinInt64, 1), frac(math.MaxInt64, 1), frac(1, math.MinInt64), frac(1, math.MaxInt64), frac(math.MinInt64, math.MinInt64), frac(math.MinInt64, -1), frac(math.MaxInt64, math.MaxInt64),
}

var validFractions = []fraction{
	frac(0, 1), frac(1, 1), frac(-1, 1), frac(1, 2), frac(-1, 2), frac(3, 2), frac(-3, 2), frac(5, 4), frac(2, 3), frac(7, 12), frac(999983, 1), frac(1, 999983), frac(-1, 999983), frac(999983, 1000000),
	frac(1000000, 1), frac(-1000000, 1), frac(1, 1000000), frac(-1, 1000000), frac(999999, 1000000), frac(1000000, 999999), frac(-1000000, 999999), frac(999999, 1), frac(1000000, 3), frac(3, 1000000),
}

func smallFractions() []fraction {
	var list []fraction
	for den := int64(1); den <= 8; den++ {
		for num := int64(-9); num <= 9; num++ {
			if f := frac(num, den); impl.ValidFraction(f) {
				list = append(list, f)
			}
		}
	}
	return list
}

func exact(f fraction) *big.Rat { return big.NewRat(f.Num, f.Den) }

// wantFraction is the result that the document requires for the number r: ErrFull if it does not fit.
func wantFraction(r *big.Rat) (fraction, int64) {
	limit := big.NewInt(1000000)
	if r.Num().CmpAbs(limit) > 0 || r.Denom().Cmp(limit) > 0 {
		return fraction{}, impl.ErrFull
	}
	return frac(r.Num().Int64(), r.Denom().Int64()), impl.OK
}

func checkFraction(t *testing.T, name string, got fraction, code int64, want *big.Rat) {
	t.Helper()
	f, wantCode := wantFraction(want)
	if got != f || code != wantCode {
		t.Errorf("%s = %v, %d, want %v, %d", name, got, code, f, wantCode)
	}
}

func pairs() [][2]fraction {
	var list [][2]fraction
	for _, group := range [][]fraction{validFractions, smallFractions()} {
		for _, a := range group {
			for _, b := range group {
				list = append(list, [2]fraction{a, b})
			}
		}
	}
	return list
}

func TestValidFraction(t *testing.T) {
	for _, f := range validFractions {
		if !impl.ValidFraction(f) {
			t.Errorf("ValidFraction(%v) = false", f)
		}
	}
	for _, f := range invalidFractions {
		if impl.ValidFraction(f) {
			t.Errorf("ValidFraction(%v) = true", f)
		}
	}
	for num := int64(-30); num <= 30; num++ {
		for den := int64(-30); den <= 30; den++ {
			lowest := den > 0 && big.NewRat(num, den).Denom().Int64() == den
			if impl.ValidFraction(frac(num, den)) != lowest {
				t.Errorf("ValidFraction(%d/%d) = %v", num, den, !lowest)
			}
		}
	}
}

func TestMakeFraction(t *testing.T) {
	const limit = 1000000000000
	cases := []struct {
		num, den int64
		want     fraction
		code     int64
	}{
		{6, 4, frac(3, 2), impl.OK},
		{6, -4, frac(-3, 2), impl.OK},
		{-6, 4, frac(-3, 2), impl.OK},
		{-6, -4, frac(3, 2), impl.OK},
		{0, 5, frac(0, 1), impl.OK},
		{0, -limit, frac(0, 1), impl.OK},
		{7, 1, frac(7, 1), impl.OK},
		{1, -1, frac(-1, 1), impl.OK},
		{limit, limit, frac(1, 1), impl.OK},
		{-limit, limit, frac(-1, 1), impl.OK},
		{limit, 1000000, frac(1000000, 1), impl.OK},
		{-1000000, -limit, frac(1, 1000000), impl.OK},
		{1000000, 1, frac(1000000, 1), impl.OK},
		{-1000000, 1, frac(-1000000, 1), impl.OK},
		{1, 1000000, frac(1, 1000000), impl.OK},
		{2, -2000000, frac(-1, 1000000), impl.OK},
		{1000001, 1, fraction{}, impl.ErrFull},
		{1, 1000001, fraction{}, impl.ErrFull},
		{1000001, -1, fraction{}, impl.ErrFull},
		{limit, 1, fraction{}, impl.ErrFull},
		{1, -limit, fraction{}, impl.ErrFull},
		{limit - 1, limit, fraction{}, impl.ErrFull},
		{1, 0, fraction{}, impl.ErrRange},
		{0, 0, fraction{}, impl.ErrRange},
		{limit + 1, limit + 1, fraction{}, impl.ErrRange},
		{limit + 1, 1, fraction{}, impl.ErrRange},
		{-limit - 1, 1, fraction{}, impl.ErrRange},
		{0, limit + 1, fraction{}, impl.ErrRange},
		{0, -limit - 1, fraction{}, impl.ErrRange},
		{math.MinInt64, math.MinInt64, fraction{}, impl.ErrRange},
		{0, math.MinInt64, fraction{}, impl.ErrRange},
		{math.MaxInt64, math.MaxInt64, fraction{}, impl.ErrRange},
	}
	for _, c := range cases {
		if got, code := impl.MakeFraction(c.num, c.den); got != c.want || code != c.code {
			t.Errorf("MakeFraction(%d, %d) = %v, %d, want %v, %d", c.num, c.den, got, code, c.want, c.code)
		}
	}
	for num := int64(-40); num <= 40; num++ {
		for den := int64(-40); den <= 40; den++ {
			if den != 0 {
				got, code := impl.MakeFraction(num, den)
				checkFraction(t, "MakeFraction", got, code, big.NewRat(num, den))
			}
		}
	}
}

func TestSumsAndProducts(t *testing.T) {
	for _, p := range pairs() {
		a, b := p[0], p[1]
		got, code := impl.AddFractions(a, b)
		checkFraction(t, "AddFractions("+impl.FractionText(a)+", "+impl.FractionText(b)+")", got, code, new(big.Rat).Add(exact(a), exact(b)))
		got, code = impl.MultiplyFractions(a, b)
		checkFraction(t, "MultiplyFractions("+impl.FractionText(a)+", "+impl.FractionText(b)+")", got, code, new(big.Rat).Mul(exact(a), exact(b)))
		difference := new(big.Rat).Sub(exact(a), exact(b))
		got, code = impl.BeatRate(a, b)
		checkFraction(t, "BeatRate("+impl.FractionText(a)+", "+impl.FractionText(b)+")", got, code, difference.Abs(difference))
		if order, code := impl.CompareFractions(a, b); order != int64(exact(a).Cmp(exact(b))) || code != impl.OK {
			t.Errorf("CompareFractions(%v, %v) = %d, %d", a, b, order, code)
		}
	}
}

func TestSumsThatJustFit(t *testing.T) {
	cases := []struct {
		a, b, sum fraction
		code      int64
	}{
		{frac(999999, 1), frac(1, 1), frac(1000000, 1), impl.OK},
		{frac(1000000, 1), frac(1, 1), fraction{}, impl.ErrFull},
		{frac(-999999, 1), frac(-1, 1), frac(-1000000, 1), impl.OK},
		{frac(-1000000, 1), frac(-1, 1), fraction{}, impl.ErrFull},
		{frac(1, 2), frac(-1, 2), frac(0, 1), impl.OK},
		{frac(1, 1000000), frac(1, 1000000), frac(1, 500000), impl.OK},
		{frac(1, 1000), frac(1, 999), frac(1999, 999000), impl.OK},
		{frac(1, 1001), frac(1, 1000), fraction{}, impl.ErrFull},
	}
	for _, c := range cases {
		if got, code := impl.AddFractions(c.a, c.b); got != c.sum || code != c.code {
			t.Errorf("AddFractions(%v, %v) = %v, %d", c.a, c.b, got, code)
		}
	}
}

func TestCommonTime(t *testing.T) {
	for _, p := range pairs() {
		a, b := p[0], p[1]
		got, code := impl.CommonTime(a, b)
		if a.Num <= 0 || b.Num <= 0 {
			if got != (fraction{}) || code != impl.ErrState {
				t.Errorf("CommonTime(%v, %v) = %v, %d, want ErrState", a, b, got, code)
			}
			continue
		}
		checkFraction(t, "CommonTime("+impl.FractionText(a)+", "+impl.FractionText(b)+")", got, code, leastCommonTime(a, b))
	}
}

// leastCommonTime takes the turns of a to the least number k with which b has done whole turns in the time k / a:
// b * k / a is whole just if the denominator of b / a divides k.
func leastCommonTime(a, b fraction) *big.Rat {
	turns := new(big.Rat).SetInt(new(big.Rat).Quo(exact(b), exact(a)).Denom())
	return turns.Quo(turns, exact(a))
}

func TestCommonTimeByTrial(t *testing.T) {
	for _, a := range smallFractions() {
		for _, b := range smallFractions() {
			if a.Num <= 0 || b.Num <= 0 {
				continue
			}
			got, code := impl.CommonTime(a, b)
			for k := int64(1); ; k++ {
				at := new(big.Rat).Quo(big.NewRat(k, 1), exact(a))
				if new(big.Rat).Mul(at, exact(b)).IsInt() {
					checkFraction(t, "CommonTime", got, code, at)
					break
				}
			}
		}
	}
}

func TestWholeTurns(t *testing.T) {
	cases := []struct {
		rate          fraction
		seconds, want int64
		code          int64
	}{
		{frac(3, 2), 5, 7, impl.OK},
		{frac(3, 2), 4, 6, impl.OK},
		{frac(3, 2), 0, 0, impl.OK},
		{frac(0, 1), 1000000, 0, impl.OK},
		{frac(1, 1000000), 999999, 0, impl.OK},
		{frac(1, 1000000), 1000000, 1, impl.OK},
		{frac(999999, 1000000), 1000000, 999999, impl.OK},
		{frac(1, 1), 1000000, 1000000, impl.OK},
		{frac(1000000, 1), 1000000, 1000000000000, impl.OK},
		{frac(1000000, 999999), 999998, 999998, impl.OK},
		{frac(1, 1), 1000001, 0, impl.ErrRange},
		{frac(1, 1), -1, 0, impl.ErrRange},
		{frac(1, 1), math.MinInt64, 0, impl.ErrRange},
		{frac(1, 1), math.MaxInt64, 0, impl.ErrRange},
		{frac(-1, 1), 5, 0, impl.ErrState},
		{frac(-1, 1000000), 0, 0, impl.ErrState},
		{frac(-1, 1), -1, 0, impl.ErrRange},
		{frac(-1, 1), 1000001, 0, impl.ErrRange},
		{frac(-2, 4), -1, 0, impl.ErrInvalid},
		{frac(-2, 4), 1, 0, impl.ErrInvalid},
		{frac(2, 4), 1000001, 0, impl.ErrInvalid},
	}
	for _, c := range cases {
		if got, code := impl.WholeTurns(c.rate, c.seconds); got != c.want || code != c.code {
			t.Errorf("WholeTurns(%v, %d) = %d, %d, want %d, %d", c.rate, c.seconds, got, code, c.want, c.code)
		}
	}
	for _, f := range append(smallFractions(), validFractions...) {
		for _, seconds := range []int64{0, 1, 2, 7, 60, 999983, 1000000} {
			if f.Num < 0 {
				continue
			}
			turns := new(big.Rat).Mul(exact(f), big.NewRat(seconds, 1))
			want := new(big.Int).Quo(turns.Num(), turns.Denom()).Int64()
			if got, code := impl.WholeTurns(f, seconds); got != want || code != impl.OK {
				t.Errorf("WholeTurns(%v, %d) = %d, %d, want %d", f, seconds, got, code, want)
			}
		}
	}
}

func TestGearedRate(t *testing.T) {
	cases := []struct {
		rate           fraction
		driver, driven int64
		want           fraction
		code           int64
	}{
		{frac(3, 2), 20, 40, frac(3, 4), impl.OK},
		{frac(-3, 2), 40, 20, frac(-3, 1), impl.OK},
		{frac(0, 1), 7, 9, frac(0, 1), impl.OK},
		{frac(5, 4), 1, 1, frac(5, 4), impl.OK},
		{frac(1, 1000), 1, 1000, frac(1, 1000000), impl.OK},
		{frac(1000, 1), 1000, 1, frac(1000000, 1), impl.OK},
		{frac(1000000, 1), 1000, 1000, frac(1000000, 1), impl.OK},
		{frac(1001, 1), 1000, 1, fraction{}, impl.ErrFull},
		{frac(1, 1001), 1, 1000, fraction{}, impl.ErrFull},
		{frac(-1000000, 1), 2, 1, fraction{}, impl.ErrFull},
		{frac(1, 1), 0, 1, fraction{}, impl.ErrRange},
		{frac(1, 1), 1, 0, fraction{}, impl.ErrRange},
		{frac(1, 1), 1001, 1, fraction{}, impl.ErrRange},
		{frac(1, 1), 1, 1001, fraction{}, impl.ErrRange},
		{frac(1, 1), -1, 1, fraction{}, impl.ErrRange},
		{frac(1, 1), 1, -1, fraction{}, impl.ErrRange},
		{frac(1000000, 1), 1001, 1, fraction{}, impl.ErrRange},
		{frac(1, 1), math.MinInt64, math.MaxInt64, fraction{}, impl.ErrRange},
		{frac(2, 4), 0, 0, fraction{}, impl.ErrInvalid},
		{frac(2, 4), 1, 1, fraction{}, impl.ErrInvalid},
	}
	for _, c := range cases {
		if got, code := impl.GearedRate(c.rate, c.driver, c.driven); got != c.want || code != c.code {
			t.Errorf("GearedRate(%v, %d, %d) = %v, %d, want %v, %d", c.rate, c.driver, c.driven, got, code, c.want, c.code)
		}
	}
	for _, f := range validFractions {
		for _, driver := range []int64{1, 2, 12, 997, 1000} {
			for _, driven := range []int64{1, 3, 12, 991, 1000} {
				got, code := impl.GearedRate(f, driver, driven)
				checkFraction(t, "GearedRate", got, code, new(big.Rat).Mul(exact(f), big.NewRat(driver, driven)))
			}
		}
	}
}

func TestInvalidFractionsComeFirst(t *testing.T) {
	operations := map[string]func(a, b fraction) (fraction, int64){
		"AddFractions": impl.AddFractions, "MultiplyFractions": impl.MultiplyFractions, "BeatRate": impl.BeatRate, "CommonTime": impl.CommonTime,
	}
	for _, bad := range invalidFractions {
		others := append([]fraction{frac(1, 1), frac(0, 1), frac(-1, 1), frac(1000000, 1)}, invalidFractions...)
		for _, other := range others {
			for _, p := range [][2]fraction{{bad, other}, {other, bad}} {
				for name, f := range operations {
					if got, code := f(p[0], p[1]); got != (fraction{}) || code != impl.ErrInvalid {
						t.Errorf("%s(%v, %v) = %v, %d, want ErrInvalid", name, p[0], p[1], got, code)
					}
				}
				if got, code := impl.CompareFractions(p[0], p[1]); got != 0 || code != impl.ErrInvalid {
					t.Errorf("CompareFractions(%v, %v) = %d, %d, want ErrInvalid", p[0], p[1], got, code)
				}
			}
		}
	}
}

func TestCommonTimeErrors(t *testing.T) {
	cases := []struct {
		a, b fraction
		code int64
	}{
		{frac(0, 1), frac(1, 1), impl.ErrState},
		{frac(1, 1), frac(0, 1), impl.ErrState},
		{frac(-1, 1), frac(1, 1), impl.ErrState},
		{frac(1, 1), frac(-1, 2), impl.ErrState},
		{frac(-1, 1), frac(-1, 1), impl.ErrState},
		{frac(-1, 1000000), frac(1, 999983), impl.ErrState},
		{frac(1, 1000000), frac(1, 999983), impl.ErrFull},
		{frac(1, 1001), frac(1, 1000), impl.ErrFull},
		{frac(1, 1000), frac(1, 999), impl.OK},
		{frac(1000000, 1), frac(1000000, 1), impl.OK},
		{frac(2, 4), frac(0, 1), impl.ErrInvalid},
		{frac(0, 1), frac(2, 4), impl.ErrInvalid},
	}
	for _, c := range cases {
		got, code := impl.CommonTime(c.a, c.b)
		if code != c.code || code != impl.OK && got != (fraction{}) {
			t.Errorf("CommonTime(%v, %v) = %v, %d, want code %d", c.a, c.b, got, code, c.code)
		}
	}
}

func TestFractionText(t *testing.T) {
	cases := map[fraction]string{
		frac(0, 1): "0", frac(3, 1): "3", frac(-3, 1): "-3", frac(3, 2): "3/2", frac(-3, 2): "-3/2", frac(1000000, 1): "1000000", frac(-1000000, 999999): "-1000000/999999", frac(1, 1000000): "1/1000000",
	}
	for f, want := range cases {
		if got := impl.FractionText(f); got != want {
			t.Errorf("FractionText(%v) = %q, want %q", f, got, want)
		}
	}
	for _, f := range invalidFractions {
		if got := impl.FractionText(f); got != "" {
			t.Errorf("FractionText(%v) = %q, want none", f, got)
		}
	}
}

func TestReadFraction(t *testing.T) {
	for _, f := range append(smallFractions(), validFractions...) {
		if got, ok := impl.ReadFraction(impl.FractionText(f)); !ok || got != f {
			t.Errorf("ReadFraction(%q) = %v, %v", impl.FractionText(f), got, ok)
		}
	}
	for _, s := range []string{
		"", "/", "1/", "/1", "/2", "1//2", "1/2/3", "1/2/", "2/4", "0/1", "0/2", "3/1", "-0", "-0/1", "+3/2", "03/2", "3/02", "3/+2", "3/-2", "-3/-2", "1/0", "1/-1", " 3/2", "3/2 ", "3 /2", "3/ 2", "a", "a/b", "3/b", "1.5",
		"1000001", "-1000001", "1/1000001", "1000000/1000000", "9223372036854775807", "1/9223372036854775807", "-9223372036854775808/1", "3/2\x00", "3／2",
	} {
		if got, ok := impl.ReadFraction(s); ok || got != (fraction{}) {
			t.Errorf("ReadFraction(%q) = %v, %v, want none", s, got, ok)
		}
	}
	for _, s := range oddTexts {
		f, ok := impl.ReadFraction(s)
		again, okAgain := impl.ReadFraction(s)
		if f != again || ok != okAgain || ok && impl.FractionText(f) != s || !ok && f != (fraction{}) {
			t.Errorf("ReadFraction(%.40q) = %v, %v, and then %v, %v", s, f, ok, again, okAgain)
		}
	}
}

func extremeFractions() []fraction {
	var list []fraction
	for _, num := range extremes {
		for _, den := range extremes {
			list = append(list, frac(num, den))
		}
	}
	return list
}

type answer struct {
	value fraction
	code  int64
}

func pack(f fraction, code int64) answer { return answer{f, code} }

// number packs a result that is no fraction.
func number(n, code int64) answer { return answer{frac(n, 1), code} }

// TestRatesOfAllArguments checks that every argument is answered, twice in the same way, and with zero values beside an error.
func TestRatesOfAllArguments(t *testing.T) {
	few := []fraction{frac(1, 1), frac(-3, 2), frac(0, 1), frac(1, 1000000), frac(math.MinInt64, math.MinInt64)}
	check := func(name string, f func() answer) {
		first := f()
		if second := f(); second != first {
			t.Errorf("%s: %v, and then %v", name, first, second)
		}
		if first.code != impl.OK && first.value.Num != 0 {
			t.Errorf("%s: %v has a value beside an error", name, first)
		}
	}
	for _, a := range extremeFractions() {
		check("MakeFraction", func() answer { return pack(impl.MakeFraction(a.Num, a.Den)) })
		if impl.ValidFraction(a) != (impl.FractionText(a) != "") {
			t.Errorf("FractionText(%v) = %q", a, impl.FractionText(a))
		}
		for _, b := range few {
			check("AddFractions", func() answer { return pack(impl.AddFractions(a, b)) })
			check("AddFractions", func() answer { return pack(impl.AddFractions(b, a)) })
			check("MultiplyFractions", func() answer { return pack(impl.MultiplyFractions(a, b)) })
			check("BeatRate", func() answer { return pack(impl.BeatRate(b, a)) })
			check("CommonTime", func() answer { return pack(impl.CommonTime(b, a)) })
			check("CompareFractions", func() answer { return number(impl.CompareFractions(a, b)) })
			check("WholeTurns", func() answer { return number(impl.WholeTurns(b, a.Num)) })
			check("WholeTurns", func() answer { return number(impl.WholeTurns(a, b.Num)) })
			check("GearedRate", func() answer { return pack(impl.GearedRate(b, a.Num, a.Den)) })
		}
	}
}

func TestExamplesOfRates(t *testing.T) {
	common, code := impl.CommonTime(frac(3, 2), frac(5, 4))
	if common != (frac(4, 1)) || code != impl.OK {
		t.Errorf("the common time of 3/2 and 5/4 is %v, %d", common, code)
	}
	if !impl.IsName("disc-3") {
		t.Error("disc-3 is no name")
	}
}
