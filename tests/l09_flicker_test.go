package tests

import (
	"math"
	"math/big"
	"slices"
	"testing"

	"loop.example/g01063/impl"
)

type blades = impl.Blades

func wheel(many, open int64) blades { return blades{Many: many, Open: open} }

// bladeCounts are all numbers of blades that divide the parts of a turn, and are not too many.
var bladeCounts = []int64{1, 2, 4, 5, 8, 10}

// flickerNumbers are numbers at, and just beyond, every limit of the chapter, and at the ends of integers.
var flickerNumbers = append([]int64{
	-1001, -999, -200, 4, 5, 8, 9, 12, 13, 199, 200, 201, 250, 499, 500, 501, 998, 999, 1 << 32, 1<<32 + 1, 1<<32 + 200, 1<<32 + 500, math.MinInt32, math.MaxUint32,
}, extremes...)

// allWheels are all wheels that are valid.
func allWheels() []blades {
	var list []blades
	for _, many := range bladeCounts {
		for open := many; open < 1000; open += many {
			list = append(list, wheel(many, open))
		}
	}
	return list
}

// sampleWheels are valid, with the least and the greatest gaps and blades, and some between them.
func sampleWheels() []blades {
	var list []blades
	for _, many := range bladeCounts {
		sector := 1000 / many
		for _, gap := range []int64{1, 2, sector / 3, sector / 2, sector/2 + 1, 3 * sector / 4, sector - 2, sector - 1} {
			list = append(list, wheel(many, many*gap))
		}
	}
	return list
}

// invalidWheels are invalid for one reason each, but for the last ones.
func invalidWheels() []blades {
	var list []blades
	for _, n := range flickerNumbers {
		if !slices.Contains(bladeCounts, n) {
			list = append(list, wheel(n, 500), wheel(n, 600), wheel(n, n))
		}
		if n < 1 || n > 999 {
			list = append(list, wheel(1, n), wheel(2, n), wheel(10, n))
		}
	}
	// Numbers that do not divide the parts of a turn, and ones that do, but are too many, or are not positive.
	for _, n := range ints(3, 6, 7, 9, 11, 12, 20, 25, 40, 50, 100, 125, 200, 250, 500, -1, -2, -4, -5, -8, -10, -20) {
		list = append(list, wheel(n, n), wheel(n, max(n, -n)), wheel(n, 500))
	}
	list = append(list, wheel(2, 501), wheel(2, 1), wheel(2, 999), wheel(4, 2), wheel(4, 502), wheel(4, 998), wheel(5, 4), wheel(5, 996), wheel(8, 4), wheel(8, 500), wheel(8, 996), wheel(10, 5), wheel(10, 505), wheel(10, 995))
	return append(list, blades{}, wheel(0, 1000), wheel(-2, -500), wheel(math.MinInt64, math.MinInt64), wheel(math.MaxInt64, math.MaxInt64), wheel(-1, math.MinInt64), wheel(math.MinInt64, -1))
}

// wheelRates are rates of wheels.
var wheelRates = []fraction{
	frac(1, 1), frac(1, 2), frac(25, 2), frac(1, 10), frac(1, 11), frac(3, 10), frac(1, 3), frac(2, 1), frac(9, 1), frac(10, 1), frac(11, 1), frac(17, 1), frac(19, 1), frac(20, 1), frac(24, 1), frac(25, 1), frac(25, 4), frac(99, 2), frac(100, 1), frac(199, 1), frac(199, 8), frac(200, 1), frac(999, 5),
	frac(1000, 1), frac(999, 1), frac(1, 1000), frac(1, 999), frac(1000, 999), frac(999, 1000), frac(997, 991), frac(1000, 3), frac(3, 1000), frac(125, 1), frac(1, 125), frac(8, 125), frac(125, 8), frac(640, 81), frac(500, 1), frac(1, 500),
}

// noWheelRates are valid fractions, but no rates of wheels.
var noWheelRates = []fraction{
	frac(0, 1), frac(-1, 1), frac(-1, 2), frac(-25, 2), frac(-1000, 1), frac(-999, 1000), frac(1001, 1), frac(1001, 2), frac(1001, 1000), frac(1, 1001), frac(2, 1001), frac(1000, 1001), frac(1002, 1001), frac(-1001, 1), frac(-1, 1001),
	frac(1000000, 1), frac(-1000000, 1), frac(1, 1000000), frac(-1, 1000000), frac(1000000, 999999), frac(999999, 1000000), frac(-1000000, 999999),
}

// noFractions are fractions that are not valid, some of which would be rates of wheels in lowest terms.
func noFractions() []fraction {
	list := []fraction{frac(50, 4), frac(2, 2), frac(1000, 1000), frac(2, 1000), frac(1000, 2), frac(10, 10), frac(2000, 1000), frac(2002, 2), frac(-25, -2), frac(25, -2), frac(1, -1000), frac(-1000, -1), frac(0, 1000), frac(1000, 0)}
	return append(list, invalidFractions...)
}

// wantTurn returns which parts of a turn are open, blade by blade.
func wantTurn(b blades) []bool {
	var turn []bool
	for range b.Many {
		for k := range 1000 / b.Many {
			turn = append(turn, k*b.Many < b.Open)
		}
	}
	return turn
}

// wantLight counts the parts at which the first turn is open, and the second one by parts farther on.
func wantLight(a, b []bool, by int) int64 {
	var lit int64
	for part := range a {
		farther := part + by
		if farther >= len(b) {
			farther -= len(b)
		}
		if a[part] && b[farther] {
			lit++
		}
	}
	return lit
}

// wantFlicker returns how often a wheel with so many blades flickers.
func wantFlicker(many int64, rate fraction) *big.Rat {
	return new(big.Rat).Mul(exact(rate), big.NewRat(many, 1))
}

func isEnough(often *big.Rat, least int64) bool { return often.Cmp(big.NewRat(least, 1)) >= 0 }

func TestValidBlades(t *testing.T) {
	for many := int64(-20); many <= 1010; many++ {
		divides := slices.Contains(bladeCounts, many)
		for open := int64(-1010); open <= 2010; open++ {
			want := divides && open >= 1 && open <= 999 && open%many == 0
			if got := impl.ValidBlades(wheel(many, open)); got != want {
				t.Fatalf("ValidBlades(%d, %d) = %v", many, open, got)
			}
		}
	}
	for _, b := range allWheels() {
		if !impl.ValidBlades(b) {
			t.Errorf("ValidBlades(%v) = false", b)
		}
	}
	for _, b := range invalidWheels() {
		if impl.ValidBlades(b) {
			t.Errorf("ValidBlades(%v) = true", b)
		}
	}
	for _, many := range flickerNumbers {
		for _, open := range flickerNumbers {
			want := slices.Contains(bladeCounts, many) && open >= 1 && open <= 999 && open%many == 0
			if got := impl.ValidBlades(wheel(many, open)); got != want {
				t.Errorf("ValidBlades(%d, %d) = %v", many, open, got)
			}
		}
	}
}

func TestIsOpenAt(t *testing.T) {
	cases := []struct {
		b    blades
		part int64
		want bool
	}{
		{wheel(2, 500), 0, true}, {wheel(2, 500), 249, true}, {wheel(2, 500), 250, false}, {wheel(2, 500), 499, false}, {wheel(2, 500), 500, true}, {wheel(2, 500), 749, true}, {wheel(2, 500), 750, false}, {wheel(2, 500), 999, false},
		{wheel(1, 1), 0, true}, {wheel(1, 1), 1, false}, {wheel(1, 1), 999, false},
		{wheel(1, 999), 0, true}, {wheel(1, 999), 998, true}, {wheel(1, 999), 999, false},
		{wheel(1, 300), 299, true}, {wheel(1, 300), 300, false}, {wheel(1, 300), 600, false}, {wheel(1, 300), 900, false},
		{wheel(8, 8), 0, true}, {wheel(8, 8), 1, false}, {wheel(8, 8), 124, false}, {wheel(8, 8), 125, true}, {wheel(8, 8), 126, false}, {wheel(8, 8), 875, true}, {wheel(8, 8), 999, false},
		{wheel(10, 990), 98, true}, {wheel(10, 990), 99, false}, {wheel(10, 990), 100, true}, {wheel(10, 990), 998, true}, {wheel(10, 990), 999, false},
		{wheel(4, 996), 248, true}, {wheel(4, 996), 249, false}, {wheel(4, 996), 250, true}, {wheel(5, 5), 800, true}, {wheel(5, 5), 801, false},
	}
	for _, c := range cases {
		if got, code := impl.IsOpenAt(c.b, c.part); got != c.want || code != impl.OK {
			t.Errorf("IsOpenAt(%v, %d) = %v, %d", c.b, c.part, got, code)
		}
	}
	for _, b := range allWheels() {
		for part, want := range wantTurn(b) {
			if got, code := impl.IsOpenAt(b, int64(part)); got != want || code != impl.OK {
				t.Fatalf("IsOpenAt(%v, %d) = %v, %d", b, part, got, code)
			}
		}
	}
}

func TestFlickerRate(t *testing.T) {
	cases := []struct {
		b          blades
		rate, want fraction
	}{
		{wheel(2, 500), frac(25, 2), frac(25, 1)}, {wheel(1, 300), frac(25, 2), frac(25, 2)}, {wheel(4, 400), frac(25, 2), frac(50, 1)}, {wheel(5, 5), frac(25, 2), frac(125, 2)},
		{wheel(1, 300), frac(1, 1000), frac(1, 1000)}, {wheel(10, 10), frac(1, 1000), frac(1, 100)}, {wheel(4, 4), frac(1, 1000), frac(1, 250)},
		{wheel(1, 999), frac(1000, 1), frac(1000, 1)}, {wheel(10, 990), frac(1000, 1), frac(10000, 1)}, {wheel(8, 8), frac(1000, 999), frac(8000, 999)}, {wheel(10, 500), frac(1, 3), frac(10, 3)}, {wheel(5, 500), frac(3, 10), frac(3, 2)},
	}
	for _, c := range cases {
		if got, code := impl.FlickerRate(c.b, c.rate); got != c.want || code != impl.OK {
			t.Errorf("FlickerRate(%v, %v) = %v, %d, want %v", c.b, c.rate, got, code, c.want)
		}
	}
	for _, b := range sampleWheels() {
		for _, rate := range wheelRates {
			got, code := impl.FlickerRate(b, rate)
			checkFraction(t, "FlickerRate", got, code, wantFlicker(b.Many, rate))
		}
	}
}

func TestIsSteady(t *testing.T) {
	cases := []struct {
		many  int64
		rate  fraction
		least int64
		want  bool
	}{
		{2, frac(25, 2), 25, true}, {2, frac(25, 2), 24, true}, {2, frac(25, 2), 26, false}, {2, frac(25, 2), 1, true}, {2, frac(25, 2), 200, false},
		// Just as often as wanted, and just less often.
		{8, frac(199, 8), 199, true}, {8, frac(199, 8), 200, false}, {8, frac(998, 5), 200, true}, {1, frac(200, 1), 200, true}, {1, frac(999, 5), 200, false}, {1, frac(999, 5), 199, true}, {1, frac(199, 1), 200, false},
		{10, frac(1, 10), 1, true}, {10, frac(1, 11), 1, false}, {10, frac(1, 1000), 1, false}, {1, frac(1, 1), 1, true}, {1, frac(999, 1000), 1, false}, {1, frac(1000, 999), 1, true}, {1, frac(1000, 999), 2, false},
		{4, frac(25, 4), 25, true}, {4, frac(999, 160), 25, false}, {4, frac(156, 25), 25, false}, {4, frac(157, 25), 25, true}, {5, frac(1000, 7), 200, true}, {10, frac(1000, 1), 200, true},
	}
	for _, c := range cases {
		for _, open := range ints(c.many, 500-500%c.many, 1000-c.many) {
			if got, code := impl.IsSteady(wheel(c.many, open), c.rate, c.least); got != c.want || code != impl.OK {
				t.Errorf("IsSteady(%v, %v, %d) = %v, %d", wheel(c.many, open), c.rate, c.least, got, code)
			}
		}
	}
	for _, b := range sampleWheels() {
		for _, rate := range wheelRates {
			often := wantFlicker(b.Many, rate)
			for least := int64(1); least <= 200; least++ {
				if got, code := impl.IsSteady(b, rate, least); got != isEnough(often, least) || code != impl.OK {
					t.Fatalf("IsSteady(%v, %v, %d) = %v, %d", b, rate, least, got, code)
				}
			}
		}
	}
}

func TestSlowestSteady(t *testing.T) {
	cases := []struct {
		b     blades
		least int64
		want  fraction
	}{
		{wheel(2, 500), 45, frac(45, 2)}, {wheel(2, 500), 44, frac(22, 1)}, {wheel(1, 1), 200, frac(200, 1)}, {wheel(1, 999), 1, frac(1, 1)}, {wheel(10, 10), 1, frac(1, 10)}, {wheel(10, 990), 200, frac(20, 1)},
		{wheel(8, 800), 200, frac(25, 1)}, {wheel(8, 8), 1, frac(1, 8)}, {wheel(8, 8), 12, frac(3, 2)}, {wheel(8, 8), 199, frac(199, 8)}, {wheel(4, 4), 6, frac(3, 2)}, {wheel(5, 5), 200, frac(40, 1)}, {wheel(10, 10), 75, frac(15, 2)},
	}
	for _, c := range cases {
		if got, code := impl.SlowestSteady(c.b, c.least); got != c.want || code != impl.OK {
			t.Errorf("SlowestSteady(%v, %d) = %v, %d, want %v", c.b, c.least, got, code, c.want)
		}
	}
	for _, b := range sampleWheels() {
		for least := int64(1); least <= 200; least++ {
			got, code := impl.SlowestSteady(b, least)
			checkFraction(t, "SlowestSteady", got, code, big.NewRat(least, b.Many))
		}
	}
}

// TestNoSlowerRateIsSteady checks that a wheel is steady with the told rate, and not with a rate that is less by very little.
func TestNoSlowerRateIsSteady(t *testing.T) {
	for _, b := range sampleWheels() {
		for least := int64(1); least <= 200; least++ {
			rate, _ := impl.SlowestSteady(b, least)
			if is, code := impl.IsSteady(b, rate, least); !is || code != impl.OK {
				t.Errorf("IsSteady(%v, %v, %d) = %v, %d", b, rate, least, is, code)
			}
			for den := int64(1); den <= 1000; den += 37 {
				// The greatest fraction with this Den that is less than the told rate.
				num := (rate.Num*den - 1) / rate.Den
				slower, code := impl.MakeFraction(num, den)
				if code != impl.OK || num < 1 || num > 1000 {
					continue
				}
				if is, code := impl.IsSteady(b, slower, least); is || code != impl.OK {
					t.Errorf("IsSteady(%v, %v, %d) = %v, %d, but the slowest rate is %v", b, slower, least, is, code, rate)
				}
			}
		}
	}
}

func TestFewestBlades(t *testing.T) {
	cases := []struct {
		rate              fraction
		least, want, code int64
	}{
		{frac(25, 2), 30, 4, impl.OK}, {frac(25, 2), 12, 1, impl.OK}, {frac(25, 2), 13, 2, impl.OK}, {frac(25, 2), 25, 2, impl.OK}, {frac(25, 2), 26, 4, impl.OK}, {frac(25, 2), 50, 4, impl.OK}, {frac(25, 2), 51, 5, impl.OK}, {frac(25, 2), 62, 5, impl.OK},
		{frac(25, 2), 63, 8, impl.OK}, {frac(25, 2), 100, 8, impl.OK}, {frac(25, 2), 101, 10, impl.OK}, {frac(25, 2), 125, 10, impl.OK}, {frac(25, 2), 126, 0, impl.ErrNotFound},
		{frac(1, 10), 1, 10, impl.OK}, {frac(1, 11), 1, 0, impl.ErrNotFound}, {frac(1, 1000), 1, 0, impl.ErrNotFound}, {frac(1, 1000), 200, 0, impl.ErrNotFound}, {frac(999, 1000), 1, 2, impl.OK}, {frac(1000, 1), 1, 1, impl.OK}, {frac(1000, 1), 200, 1, impl.OK},
		{frac(200, 1), 200, 1, impl.OK}, {frac(999, 5), 200, 2, impl.OK}, {frac(100, 1), 200, 2, impl.OK}, {frac(99, 1), 200, 4, impl.OK}, {frac(50, 1), 200, 4, impl.OK}, {frac(49, 1), 200, 5, impl.OK}, {frac(40, 1), 200, 5, impl.OK}, {frac(39, 1), 200, 8, impl.OK},
		{frac(25, 1), 200, 8, impl.OK}, {frac(24, 1), 200, 10, impl.OK}, {frac(20, 1), 200, 10, impl.OK}, {frac(999, 50), 200, 0, impl.ErrNotFound}, {frac(10, 1), 200, 0, impl.ErrNotFound},
		// 3, 6, 7, 9, 11 and 12 blades, which would do, do not divide the parts of a turn.
		{frac(1, 1), 1, 1, impl.OK}, {frac(1, 1), 3, 4, impl.OK}, {frac(1, 1), 6, 8, impl.OK}, {frac(1, 1), 7, 8, impl.OK}, {frac(1, 1), 9, 10, impl.OK}, {frac(1, 1), 10, 10, impl.OK}, {frac(1, 1), 11, 0, impl.ErrNotFound}, {frac(1, 1), 12, 0, impl.ErrNotFound},
		{frac(10, 1), 120, 0, impl.ErrNotFound}, {frac(19, 1), 200, 0, impl.ErrNotFound}, {frac(17, 1), 200, 0, impl.ErrNotFound},
	}
	for _, c := range cases {
		if got, code := impl.FewestBlades(c.rate, c.least); got != c.want || code != c.code {
			t.Errorf("FewestBlades(%v, %d) = %d, %d, want %d, %d", c.rate, c.least, got, code, c.want, c.code)
		}
	}
}

// TestFewestBladesAreSteady checks promise 9: the told number of blades is steady, and no lesser one is; if none is told, none is.
func TestFewestBladesAreSteady(t *testing.T) {
	none := 0
	for _, rate := range wheelRates {
		for least := int64(1); least <= 200; least++ {
			var want int64
			for _, many := range bladeCounts {
				steady, code := impl.IsSteady(wheel(many, many), rate, least)
				if steady != isEnough(wantFlicker(many, rate), least) || code != impl.OK {
					t.Fatalf("IsSteady with %d blades, %v, %d = %v, %d", many, rate, least, steady, code)
				}
				if steady && want == 0 {
					want = many
				}
			}
			wantCode := int64(impl.OK)
			if want == 0 {
				wantCode = impl.ErrNotFound
				none++
			}
			if got, code := impl.FewestBlades(rate, least); got != want || code != wantCode {
				t.Fatalf("FewestBlades(%v, %d) = %d, %d, want %d, %d", rate, least, got, code, want, wantCode)
			}
		}
	}
	if none < 100 {
		t.Errorf("only %d rates are steady with no wheel", none)
	}
}

func TestLitShare(t *testing.T) {
	cases := map[blades]fraction{
		wheel(2, 500): frac(1, 2), wheel(1, 1): frac(1, 1000), wheel(1, 999): frac(999, 1000), wheel(10, 10): frac(1, 100), wheel(10, 990): frac(99, 100), wheel(8, 8): frac(1, 125), wheel(8, 992): frac(124, 125), wheel(1, 300): frac(3, 10), wheel(4, 752): frac(94, 125), wheel(5, 625): frac(5, 8),
	}
	for b, want := range cases {
		if got, code := impl.LitShare(b); got != want || code != impl.OK {
			t.Errorf("LitShare(%v) = %v, %d, want %v", b, got, code, want)
		}
	}
	for _, b := range allWheels() {
		var open int64
		for _, is := range wantTurn(b) {
			if is {
				open++
			}
		}
		got, code := impl.LitShare(b)
		checkFraction(t, "LitShare", got, code, big.NewRat(open, 1000))
	}
}

func TestLongestDark(t *testing.T) {
	cases := []struct {
		b          blades
		rate, want fraction
	}{
		{wheel(2, 500), frac(25, 2), frac(1, 50)}, {wheel(1, 500), frac(1, 1), frac(1, 2)}, {wheel(1, 1), frac(1, 1), frac(999, 1000)}, {wheel(1, 999), frac(1, 1), frac(1, 1000)},
		{wheel(10, 10), frac(1, 1), frac(99, 1000)}, {wheel(10, 990), frac(1, 1), frac(1, 1000)}, {wheel(8, 8), frac(1, 1), frac(31, 250)}, {wheel(4, 400), frac(1, 2), frac(3, 10)}, {wheel(5, 500), frac(1, 10), frac(1, 1)},
		// The rates at their limits: the fractions are valid, but only just.
		{wheel(1, 999), frac(1000, 1), frac(1, 1000000)}, {wheel(10, 990), frac(1000, 1), frac(1, 1000000)}, {wheel(1, 1), frac(1000, 1), frac(999, 1000000)}, {wheel(1, 1), frac(1, 1000), frac(999, 1)}, {wheel(1, 1), frac(1000, 999), frac(998001, 1000000)},
		{wheel(1, 1), frac(1, 999), frac(998001, 1000)}, {wheel(1, 1), frac(997, 1000), frac(999, 997)}, {wheel(1, 999), frac(999, 1), frac(1, 999000)}, {wheel(1, 999), frac(1, 1000), frac(1, 1)},
	}
	for _, c := range cases {
		if got, code := impl.LongestDark(c.b, c.rate); got != c.want || code != impl.OK {
			t.Errorf("LongestDark(%v, %v) = %v, %d, want %v", c.b, c.rate, got, code, c.want)
		}
	}
}

// TestLongestDarkOfAllWheels counts the parts that are dark behind one another.
func TestLongestDarkOfAllWheels(t *testing.T) {
	for i, b := range allWheels() {
		var dark, longest int64
		for _, is := range wantTurn(b) {
			dark++
			if is {
				dark = 0
			}
			longest = max(longest, dark)
		}
		for _, rate := range append([]fraction{wheelRates[i%len(wheelRates)]}, frac(1, 1), frac(1000, 1), frac(1, 1000), frac(997, 991)) {
			want := big.NewRat(longest, 1000)
			want.Quo(want, exact(rate))
			got, code := impl.LongestDark(b, rate)
			checkFraction(t, "LongestDark", got, code, want)
		}
	}
}

func TestOpenParts(t *testing.T) {
	cases := []struct {
		b              blades
		from, to, want int64
	}{
		{wheel(2, 500), 200, 600, 150}, {wheel(2, 500), 0, 1000, 500}, {wheel(2, 500), 0, 500, 250}, {wheel(2, 500), 500, 1000, 250}, {wheel(2, 500), 100, 700, 350}, {wheel(2, 500), 100, 200, 100}, {wheel(2, 500), 300, 400, 0}, {wheel(2, 500), 250, 500, 0},
		// Ranges that are empty.
		{wheel(2, 500), 0, 0, 0}, {wheel(2, 500), 100, 100, 0}, {wheel(2, 500), 249, 249, 0}, {wheel(2, 500), 250, 250, 0}, {wheel(2, 500), 500, 500, 0}, {wheel(2, 500), 1000, 1000, 0},
		// The last open part and the first dark one, the first part and the last one.
		{wheel(2, 500), 249, 250, 1}, {wheel(2, 500), 250, 251, 0}, {wheel(2, 500), 0, 249, 249}, {wheel(2, 500), 0, 250, 250}, {wheel(2, 500), 0, 251, 250}, {wheel(2, 500), 499, 501, 1}, {wheel(2, 500), 249, 501, 2}, {wheel(2, 500), 0, 1, 1}, {wheel(2, 500), 999, 1000, 0}, {wheel(2, 500), 1, 1000, 499},
		{wheel(1, 1), 0, 1000, 1}, {wheel(1, 1), 0, 1, 1}, {wheel(1, 1), 1, 1000, 0}, {wheel(1, 999), 0, 1000, 999}, {wheel(1, 999), 998, 1000, 1}, {wheel(1, 999), 999, 1000, 0}, {wheel(1, 999), 1, 999, 998},
		{wheel(8, 8), 0, 1000, 8}, {wheel(8, 8), 125, 126, 1}, {wheel(8, 8), 1, 125, 0}, {wheel(8, 8), 1, 126, 1}, {wheel(10, 990), 0, 1000, 990}, {wheel(10, 990), 99, 100, 0}, {wheel(10, 990), 98, 101, 2}, {wheel(10, 990), 50, 950, 891},
	}
	for _, c := range cases {
		if got, code := impl.OpenParts(c.b, c.from, c.to); got != c.want || code != impl.OK {
			t.Errorf("OpenParts(%v, %d, %d) = %d, %d, want %d", c.b, c.from, c.to, got, code, c.want)
		}
	}
}

// openBefores counts, for each part and the end of the turn, the open parts before it.
func openBefores(b blades) []int64 {
	counts := make([]int64, 1001)
	for part, is := range wantTurn(b) {
		counts[part+1] = counts[part]
		if is {
			counts[part+1]++
		}
	}
	return counts
}

// TestOpenPartsOfAllRanges checks all ranges of some wheels, and all that begin with the turn or end with it of all wheels.
func TestOpenPartsOfAllRanges(t *testing.T) {
	check := func(b blades, from, to, want int64) {
		if got, code := impl.OpenParts(b, from, to); got != want || code != impl.OK {
			t.Fatalf("OpenParts(%v, %d, %d) = %d, %d, want %d", b, from, to, got, code, want)
		}
	}
	for _, b := range []blades{wheel(1, 300), wheel(2, 500), wheel(4, 4), wheel(5, 995), wheel(8, 488), wheel(10, 370)} {
		counts := openBefores(b)
		for from := range int64(1001) {
			for to := from; to <= 1000; to++ {
				check(b, from, to, counts[to]-counts[from])
			}
		}
	}
	for _, b := range allWheels() {
		counts := openBefores(b)
		for part := range int64(1001) {
			check(b, 0, part, counts[part])
			check(b, part, 1000, b.Open-counts[part])
		}
	}
}

func TestOpenPartsErrors(t *testing.T) {
	for _, from := range flickerNumbers {
		for _, to := range flickerNumbers {
			want := int64(impl.ErrRange)
			if 0 <= from && from <= to && to <= 1000 {
				want = impl.OK
			}
			got, code := impl.OpenParts(wheel(2, 500), from, to)
			if code != want || code != impl.OK && got != 0 {
				t.Errorf("OpenParts(%d, %d) = %d, %d, want code %d", from, to, got, code, want)
			}
		}
	}
	// Ranges that are told in the wrong order.
	for _, c := range [][2]int64{{1, 0}, {600, 200}, {250, 249}, {1000, 0}, {1000, 999}, {501, 500}} {
		if got, code := impl.OpenParts(wheel(2, 500), c[0], c[1]); got != 0 || code != impl.ErrRange {
			t.Errorf("OpenParts(%d, %d) = %d, %d, want ErrRange", c[0], c[1], got, code)
		}
	}
}

func TestTwoWheels(t *testing.T) {
	cases := []struct {
		a, b     blades
		by, want int64
	}{
		{wheel(2, 500), wheel(1, 300), 0, 250}, {wheel(2, 500), wheel(1, 300), 300, 50}, {wheel(2, 500), wheel(1, 300), 700, 100}, {wheel(2, 500), wheel(1, 300), 500, 250}, {wheel(2, 500), wheel(1, 300), 250, 50},
		// It matters which of the wheels is farther on.
		{wheel(2, 500), wheel(1, 300), 1, 250}, {wheel(2, 500), wheel(1, 300), 999, 249}, {wheel(1, 300), wheel(2, 500), 1, 249}, {wheel(1, 300), wheel(2, 500), 999, 250}, {wheel(1, 300), wheel(2, 500), 0, 250}, {wheel(1, 300), wheel(2, 500), 250, 50}, {wheel(1, 300), wheel(2, 500), 500, 250},
		// Shifted by nothing, by a sector, and by all parts but one.
		{wheel(2, 500), wheel(2, 500), 0, 500}, {wheel(2, 500), wheel(2, 500), 500, 500}, {wheel(2, 500), wheel(2, 500), 250, 0}, {wheel(2, 500), wheel(2, 500), 1, 498}, {wheel(2, 500), wheel(2, 500), 999, 498},
		{wheel(1, 1), wheel(1, 1), 0, 1}, {wheel(1, 1), wheel(1, 1), 1, 0}, {wheel(1, 1), wheel(1, 1), 999, 0}, {wheel(1, 1), wheel(1, 999), 998, 1}, {wheel(1, 1), wheel(1, 999), 999, 0}, {wheel(1, 999), wheel(1, 1), 0, 1}, {wheel(1, 999), wheel(1, 1), 1, 0}, {wheel(1, 999), wheel(1, 1), 2, 1},
		{wheel(1, 999), wheel(1, 999), 0, 999}, {wheel(1, 999), wheel(1, 999), 1, 998}, {wheel(1, 999), wheel(1, 999), 999, 998}, {wheel(10, 10), wheel(8, 8), 0, 2}, {wheel(10, 10), wheel(8, 8), 25, 2}, {wheel(10, 10), wheel(8, 8), 1, 0}, {wheel(10, 990), wheel(10, 990), 100, 990}, {wheel(10, 990), wheel(10, 990), 99, 980},
	}
	for _, c := range cases {
		if got, code := impl.TwoWheels(c.a, c.b, c.by); got != c.want || code != impl.OK {
			t.Errorf("TwoWheels(%v, %v, %d) = %d, %d, want %d", c.a, c.b, c.by, got, code, c.want)
		}
	}
}

// TestTwoWheelsOfAllShifts counts part by part for all shifts of a few pairs, and for a few shifts of many pairs.
func TestTwoWheelsOfAllShifts(t *testing.T) {
	check := func(a, b blades, first, second []bool, by int64) {
		want := wantLight(first, second, int(by))
		if got, code := impl.TwoWheels(a, b, by); got != want || code != impl.OK {
			t.Fatalf("TwoWheels(%v, %v, %d) = %d, %d, want %d", a, b, by, got, code, want)
		}
	}
	few := []blades{wheel(1, 300), wheel(2, 500), wheel(4, 252), wheel(5, 640), wheel(8, 488), wheel(10, 990)}
	for _, a := range few {
		for _, b := range few {
			first, second := wantTurn(a), wantTurn(b)
			for by := range int64(1000) {
				check(a, b, first, second, by)
			}
		}
	}
	for i, a := range sampleWheels() {
		for k, b := range sampleWheels() {
			first, second := wantTurn(a), wantTurn(b)
			for _, by := range ints(0, 1, 1000/b.Many%1000, 1000/a.Many%1000, 998, 999, int64(i*389+k*71)%1000) {
				check(a, b, first, second, by)
			}
		}
	}
}

// bestLight returns the least offset with most light, and this light.
func bestLight(first, second []bool) (int64, int64) {
	best, most := int64(0), int64(-1)
	for by := range 1000 {
		if lit := wantLight(first, second, by); lit > most {
			best, most = int64(by), lit
		}
	}
	return best, most
}

// TestBestOffset also has wheels with several offsets with as much light, of which the least one is told.
func TestBestOffset(t *testing.T) {
	cases := []struct {
		a, b     blades
		by, most int64
	}{
		{wheel(2, 500), wheel(2, 500), 0, 500}, {wheel(2, 500), wheel(1, 300), 0, 250}, {wheel(1, 300), wheel(2, 500), 0, 250}, {wheel(1, 1), wheel(1, 1), 0, 1}, {wheel(1, 1), wheel(1, 999), 0, 1}, {wheel(1, 999), wheel(1, 1), 0, 1}, {wheel(1, 999), wheel(1, 999), 0, 999},
		{wheel(10, 10), wheel(8, 8), 0, 2}, {wheel(10, 990), wheel(8, 8), 0, 8}, {wheel(10, 990), wheel(10, 10), 0, 10}, {wheel(10, 990), wheel(1, 1), 0, 1}, {wheel(1, 500), wheel(2, 400), 0, 200}, {wheel(1, 600), wheel(2, 600), 0, 400},
	}
	for _, c := range cases {
		if by, most, code := impl.BestOffset(c.a, c.b); by != c.by || most != c.most || code != impl.OK {
			t.Errorf("BestOffset(%v, %v) = %d, %d, %d, want %d, %d", c.a, c.b, by, most, code, c.by, c.most)
		}
	}
}

// TestBestOffsetPassesMostLight checks promise 9: the told offset passes the told light, no offset passes more, and no lesser one as much.
func TestBestOffsetPassesMostLight(t *testing.T) {
	wheels := sampleWheels()
	for i, a := range wheels {
		for k := i % 3; k < len(wheels); k += 3 {
			b := wheels[k]
			want, most := bestLight(wantTurn(a), wantTurn(b))
			by, lit, code := impl.BestOffset(a, b)
			if by != want || lit != most || code != impl.OK {
				t.Fatalf("BestOffset(%v, %v) = %d, %d, %d, want %d, %d", a, b, by, lit, code, want, most)
			}
			if told, code := impl.TwoWheels(a, b, by); told != lit || code != impl.OK {
				t.Fatalf("BestOffset(%v, %v) = %d, %d, but TwoWheels tells %d, %d", a, b, by, lit, told, code)
			}
		}
	}
}

// TestNoOffsetPassesMoreLight asks TwoWheels for all offsets.
func TestNoOffsetPassesMoreLight(t *testing.T) {
	wheels := []blades{wheel(1, 1), wheel(1, 701), wheel(2, 334), wheel(4, 996), wheel(5, 325), wheel(8, 504), wheel(10, 10)}
	for _, a := range wheels {
		for _, b := range wheels {
			best, most, code := impl.BestOffset(a, b)
			if code != impl.OK {
				t.Errorf("BestOffset(%v, %v) has the code %d", a, b, code)
			}
			for by := range int64(1000) {
				if lit, code := impl.TwoWheels(a, b, by); code != impl.OK || lit > most || lit == most && by < best || by == best && lit != most {
					t.Fatalf("BestOffset(%v, %v) = %d, %d, but TwoWheels with %d tells %d, %d", a, b, best, most, by, lit, code)
				}
			}
		}
	}
}

// answersOfFlicker are the answers of all functions of the chapter, in the order of codesOfFlicker.
func answersOfFlicker(a, b blades, rate fraction, n, m int64) []answer {
	truth := func(is bool, code int64) answer {
		if is {
			return number(1, code)
		}
		return number(0, code)
	}
	best, most, code := impl.BestOffset(a, b)
	return []answer{
		truth(impl.IsOpenAt(a, n)), pack(impl.FlickerRate(a, rate)), truth(impl.IsSteady(a, rate, n)), pack(impl.SlowestSteady(a, n)), number(impl.FewestBlades(rate, n)), pack(impl.LitShare(a)),
		pack(impl.LongestDark(a, rate)), number(impl.OpenParts(a, n, m)), number(impl.TwoWheels(a, b, n)), number(best, code), number(most, code),
	}
}

// codesOfFlicker are the codes that the document requires of them, but for those that FewestBlades does not find.
func codesOfFlicker(isA, isB, isFraction, isRate bool, n, m int64) []int64 {
	code := func(valid, inside bool) int64 {
		switch {
		case !valid:
			return impl.ErrInvalid
		case !inside:
			return impl.ErrRange
		}
		return impl.OK
	}
	isPart, isLeast, isRange := n >= 0 && n <= 999, n >= 1 && n <= 200, 0 <= n && n <= m && m <= 1000
	both := code(isA && isB, true)
	return []int64{
		code(isA, isPart), code(isA && isFraction, isRate), code(isA && isFraction, isRate && isLeast), code(isA, isLeast), code(isFraction, isRate && isLeast), code(isA, true),
		code(isA && isFraction, isRate), code(isA, isRange), code(isA && isB, isPart), both, both,
	}
}

// ratesWithKind are some rates, valid fractions that are none, and fractions that are not valid.
func ratesWithKind() (list []fraction, fractions, rates int) {
	list = append(list, wheelRates[:4]...)
	list = append(list, frac(1000, 1), frac(1, 1000))
	rates = len(list)
	list = append(list, noWheelRates...)
	fractions = len(list)
	return append(list, noFractions()...), fractions, rates
}

// TestFlickerOfAllArguments checks that odd arguments are answered, twice in the same way, with the errors in their order, and with nothing beside an error.
func TestFlickerOfAllArguments(t *testing.T) {
	wheels := []blades{wheel(2, 500), wheel(8, 992), wheel(10, 10)}
	valid := len(wheels)
	wheels = append(wheels, invalidWheels()...)
	rates, fractions, inside := ratesWithKind()
	for i, a := range wheels {
		for k, n := range flickerNumbers {
			for j, rate := range rates {
				other, m := (7*i+5*k+3*j)%len(wheels), flickerNumbers[(5*i+7*k+3*j)%len(flickerNumbers)]
				if (i+k+j)%2 == 0 {
					other = 1
				}
				got := answersOfFlicker(a, wheels[other], rate, n, m)
				if again := answersOfFlicker(a, wheels[other], rate, n, m); !slices.Equal(got, again) {
					t.Fatalf("%v, %v, %v, %d, %d: %v, and then %v", a, wheels[other], rate, n, m, got, again)
				}
				want := codesOfFlicker(i < valid, other < valid, j < fractions, j < inside, n, m)
				for f, one := range got {
					missing := f == 4 && want[f] == impl.OK && one.code == impl.ErrNotFound
					nothing := number(0, 0).value
					if f == 1 || f == 3 || f == 5 || f == 6 {
						nothing = fraction{}
					}
					if one.code != want[f] && !missing || one.code != impl.OK && one.value != nothing {
						t.Fatalf("%v, %v, %v, %d, %d: the answer %d is %v, want code %d", a, wheels[other], rate, n, m, f, one, want[f])
					}
				}
			}
		}
	}
}

// TestRatesOfWheels checks all fractions around the limits of rates.
func TestRatesOfWheels(t *testing.T) {
	terms := ints(-1001, -1000, -2, -1, 0, 1, 2, 3, 7, 998, 999, 1000, 1001, 1002, 1003, 2000, 999983, 1000000)
	for _, num := range terms {
		for _, den := range terms {
			rate := frac(num, den)
			lowest := den >= 1 && big.NewRat(num, den).Denom().Int64() == den
			want := codesOfFlicker(true, true, lowest, num >= 1 && num <= 1000 && den <= 1000, 1, 1)
			got := answersOfFlicker(wheel(1, 1), wheel(2, 2), rate, 1, 1)
			for f, one := range got {
				if one.code != want[f] && !(f == 4 && want[f] == impl.OK && one.code == impl.ErrNotFound) {
					t.Errorf("the answer %d with the rate %v is %v, want code %d", f, rate, one, want[f])
				}
			}
		}
	}
}

// TestFlickerErrors has errors of which the first one in the document's order is told.
func TestFlickerErrors(t *testing.T) {
	good, bad, none, rate := wheel(2, 500), wheel(3, 300), frac(0, 1), frac(25, 2)
	code := func(_ any, code int64) int64 { return code }
	cases := []struct {
		name      string
		got, want int64
	}{
		{"a part below", code(impl.IsOpenAt(good, -1)), impl.ErrRange},
		{"the last part", code(impl.IsOpenAt(good, 999)), impl.OK},
		{"a part above", code(impl.IsOpenAt(good, 1000)), impl.ErrRange},
		{"a wheel before a part", code(impl.IsOpenAt(bad, -1)), impl.ErrInvalid},
		{"a rate of nothing", code(impl.FlickerRate(good, none)), impl.ErrRange},
		{"a wheel before a rate", code(impl.FlickerRate(bad, none)), impl.ErrInvalid},
		{"a rate that is no fraction", code(impl.FlickerRate(good, frac(50, 4))), impl.ErrInvalid},
		{"a fraction before a wanted number", code(impl.IsSteady(good, frac(50, 4), 0)), impl.ErrInvalid},
		{"a wheel before a wanted number", code(impl.IsSteady(bad, rate, 201)), impl.ErrInvalid},
		{"nothing wanted", code(impl.IsSteady(good, rate, 0)), impl.ErrRange},
		{"too much wanted", code(impl.IsSteady(good, rate, 201)), impl.ErrRange},
		{"nothing wanted of a wheel", code(impl.SlowestSteady(good, 0)), impl.ErrRange},
		{"too much wanted of a wheel", code(impl.SlowestSteady(good, 201)), impl.ErrRange},
		{"a wheel before what is wanted of it", code(impl.SlowestSteady(bad, 0)), impl.ErrInvalid},
		{"nothing wanted of blades", code(impl.FewestBlades(rate, 0)), impl.ErrRange},
		{"too much wanted of blades", code(impl.FewestBlades(rate, 201)), impl.ErrRange},
		{"a range before blades that are missing", code(impl.FewestBlades(frac(1, 1000), 201)), impl.ErrRange},
		{"a rate before blades that are missing", code(impl.FewestBlades(frac(1, 1001), 200)), impl.ErrRange},
		{"a fraction before a rate", code(impl.FewestBlades(frac(0, 2), 0)), impl.ErrInvalid},
		{"a share of no wheel", code(impl.LitShare(bad)), impl.ErrInvalid},
		{"a dark rate", code(impl.LongestDark(good, frac(1001, 1))), impl.ErrRange},
		{"a dark wheel", code(impl.LongestDark(bad, rate)), impl.ErrInvalid},
		{"a wheel before a range", code(impl.OpenParts(bad, 2, 1)), impl.ErrInvalid},
		{"a range behind the turn", code(impl.OpenParts(good, 0, 1001)), impl.ErrRange},
		{"a range before the turn", code(impl.OpenParts(good, -1, 0)), impl.ErrRange},
		{"the first wheel", code(impl.TwoWheels(bad, good, -1)), impl.ErrInvalid},
		{"the second wheel", code(impl.TwoWheels(good, bad, 1000)), impl.ErrInvalid},
		{"an offset below", code(impl.TwoWheels(good, good, -1)), impl.ErrRange},
		{"an offset above", code(impl.TwoWheels(good, good, 1000)), impl.ErrRange},
	}
	for _, c := range cases {
		if c.got != c.want {
			t.Errorf("%s: the code is %d, want %d", c.name, c.got, c.want)
		}
	}
	for _, p := range [][2]blades{{bad, good}, {good, bad}, {bad, bad}} {
		if by, most, code := impl.BestOffset(p[0], p[1]); by != 0 || most != 0 || code != impl.ErrInvalid {
			t.Errorf("BestOffset(%v, %v) = %d, %d, %d, want ErrInvalid", p[0], p[1], by, most, code)
		}
	}
}

func TestLimitsOfFlicker(t *testing.T) {
	if impl.MaxBlades != 12 || impl.MaxLitParts != 1000 {
		t.Errorf("the limits are %d and %d", impl.MaxBlades, impl.MaxLitParts)
	}
}

func TestExampleOfFlicker(t *testing.T) {
	b := wheel(2, 500)
	last, code := impl.IsOpenAt(b, 249)
	next, nextCode := impl.IsOpenAt(b, 250)
	if !last || code != impl.OK || next || nextCode != impl.OK {
		t.Errorf("a wheel with 2 blades and 500 open parts: %v, %d at the part 249 and %v, %d at the part 250", last, code, next, nextCode)
	}
}
