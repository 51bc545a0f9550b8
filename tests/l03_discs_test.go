package tests

import (
	"math"
	"math/big"
	"slices"
	"testing"

	"loop.example/g01063/impl"
)

// discSizes are numbers of pictures or slits at, and beyond, the limits, with those for which pictures are just between two.
var discSizes = []int64{math.MinInt64, math.MinInt64 + 1, -48, -1, 0, 1, 2, 3, 12, 13, 24, 47, 48, 49, 50, 1000000, math.MaxInt64 - 1, math.MaxInt64}

func onDisc(n int64) bool { return n >= 1 && n <= 48 }

// eachDisc calls f for every number of pictures and slits that a disc may have.
func eachDisc(f func(pictures, slits int64)) {
	for pictures := int64(1); pictures <= 48; pictures++ {
		for slits := int64(1); slits <= 48; slits++ {
			f(pictures, slits)
		}
	}
}

var half = big.NewRat(1, 2)

// wantSeen finds the nearest whole number, the greater one of two, by rounding x + 1/2 down.
func wantSeen(pictures, slits, flash int64) (int64, *big.Rat) {
	x := new(big.Rat).Mul(big.NewRat(pictures, slits), big.NewRat(flash, 1))
	more := new(big.Rat).Add(x, half)
	n := new(big.Int).Div(more.Num(), more.Denom())
	off := new(big.Rat).Sub(new(big.Rat).SetInt(n), x)
	return new(big.Int).Mod(n, big.NewInt(pictures)).Int64(), off
}

// wantDrift takes whole numbers away from pictures / slits until at most 1/2 is left.
func wantDrift(pictures, slits int64) *big.Rat {
	d := big.NewRat(pictures, slits)
	for d.Cmp(half) > 0 {
		d.Sub(d, big.NewRat(1, 1))
	}
	return d
}

func TestSeenAt(t *testing.T) {
	cases := []struct {
		pictures, slits, flash int64
		picture                int64
		off                    fraction
		code                   int64
	}{
		{13, 12, 0, 0, frac(0, 1), impl.OK},
		{13, 12, 1, 1, frac(-1, 12), impl.OK},
		{13, 12, 5, 5, frac(-5, 12), impl.OK},
		{13, 12, 6, 7, frac(1, 2), impl.OK},
		{13, 12, 7, 8, frac(5, 12), impl.OK},
		{13, 12, 12, 0, frac(0, 1), impl.OK},
		{13, 12, 18, 7, frac(1, 2), impl.OK},
		{12, 12, 7, 7, frac(0, 1), impl.OK},
		{1, 1, 1000000, 0, frac(0, 1), impl.OK},
		{1, 2, 1, 0, frac(1, 2), impl.OK},
		{1, 2, 999999, 0, frac(1, 2), impl.OK},
		{2, 4, 1, 1, frac(1, 2), impl.OK},
		{2, 4, 3, 0, frac(1, 2), impl.OK},
		{3, 2, 1, 2, frac(1, 2), impl.OK},
		{1, 48, 23, 0, frac(-23, 48), impl.OK},
		{1, 48, 24, 0, frac(1, 2), impl.OK},
		{1, 48, 25, 0, frac(23, 48), impl.OK},
		{48, 1, 1, 0, frac(0, 1), impl.OK},
		{48, 47, 1, 1, frac(-1, 47), impl.OK},
		{47, 48, 1, 1, frac(1, 48), impl.OK},
		{48, 47, 1000000, 29, frac(19, 47), impl.OK},
		{48, 48, 1000000, 16, frac(0, 1), impl.OK},
		{13, 12, 1000001, 0, fraction{}, impl.ErrRange},
		{13, 12, -1, 0, fraction{}, impl.ErrRange},
		{0, 12, 1, 0, fraction{}, impl.ErrRange},
		{13, 0, 1, 0, fraction{}, impl.ErrRange},
		{49, 12, 1, 0, fraction{}, impl.ErrRange},
		{13, 49, 1, 0, fraction{}, impl.ErrRange},
		{-1, 12, 1, 0, fraction{}, impl.ErrRange},
		{13, -1, 1, 0, fraction{}, impl.ErrRange},
	}
	for _, c := range cases {
		picture, off, code := impl.SeenAt(c.pictures, c.slits, c.flash)
		if picture != c.picture || off != c.off || code != c.code {
			t.Errorf("SeenAt(%d, %d, %d) = %d, %v, %d, want %d, %v, %d", c.pictures, c.slits, c.flash, picture, off, code, c.picture, c.off, c.code)
		}
	}
}

func TestSeenAtIsNearest(t *testing.T) {
	eachDisc(func(pictures, slits int64) {
		for _, from := range []int64{0, 1000000 - slits} {
			for flash := from; flash <= from+slits; flash++ {
				picture, off, code := impl.SeenAt(pictures, slits, flash)
				wantPicture, wantOff := wantSeen(pictures, slits, flash)
				if picture != wantPicture || code != impl.OK || !impl.ValidFraction(off) || exact(off).Cmp(wantOff) != 0 {
					t.Fatalf("SeenAt(%d, %d, %d) = %d, %v, %d, want %d, %v", pictures, slits, flash, picture, off, code, wantPicture, wantOff)
				}
			}
		}
	})
}

// TestOffByHalfAtMost also checks that a picture between two is off to the side of the greater one.
func TestOffByHalfAtMost(t *testing.T) {
	minusHalf := big.NewRat(-1, 2)
	eachDisc(func(pictures, slits int64) {
		for flash := range 2 * slits {
			_, off, code := impl.SeenAt(pictures, slits, flash)
			if code != impl.OK || exact(off).Cmp(half) > 0 || exact(off).Cmp(minusHalf) <= 0 {
				t.Fatalf("SeenAt(%d, %d, %d) is off by %v, %d", pictures, slits, flash, off, code)
			}
		}
	})
}

func TestDriftOf(t *testing.T) {
	cases := map[[2]int64]fraction{
		{13, 12}: frac(1, 12), {11, 12}: frac(-1, 12), {12, 12}: frac(0, 1), {24, 12}: frac(0, 1), {48, 1}: frac(0, 1), {1, 1}: frac(0, 1),
		{1, 2}: frac(1, 2), {3, 2}: frac(1, 2), {47, 2}: frac(1, 2), {6, 12}: frac(1, 2), {18, 12}: frac(1, 2), {24, 48}: frac(1, 2),
		{1, 48}: frac(1, 48), {47, 48}: frac(-1, 48), {23, 48}: frac(23, 48), {25, 48}: frac(-23, 48), {48, 47}: frac(1, 47), {2, 3}: frac(-1, 3),
	}
	for disc, want := range cases {
		if got, code := impl.DriftOf(disc[0], disc[1]); got != want || code != impl.OK {
			t.Errorf("DriftOf(%d, %d) = %v, %d, want %v", disc[0], disc[1], got, code, want)
		}
	}
	eachDisc(func(pictures, slits int64) {
		got, code := impl.DriftOf(pictures, slits)
		checkFraction(t, "DriftOf", got, code, wantDrift(pictures, slits))
	})
}

// TestStandsStill checks that pictures stand still just if there is no drift, and that they are then never off.
func TestStandsStill(t *testing.T) {
	eachDisc(func(pictures, slits int64) {
		still, code := impl.StandsStill(pictures, slits)
		drift, _ := impl.DriftOf(pictures, slits)
		never := true
		for flash := range slits {
			_, off, _ := impl.SeenAt(pictures, slits, flash)
			never = never && off == frac(0, 1)
		}
		if code != impl.OK || still != (drift == frac(0, 1)) || still != never || still != (pictures%slits == 0) {
			t.Errorf("StandsStill(%d, %d) = %v, %d, and the drift is %v", pictures, slits, still, code, drift)
		}
	})
}

func TestGhostsOf(t *testing.T) {
	cases := map[[2]int64]int64{{13, 12}: 12, {12, 12}: 1, {1, 1}: 1, {48, 1}: 1, {6, 12}: 2, {8, 12}: 3, {1, 48}: 48, {47, 48}: 48, {24, 48}: 2, {48, 24}: 1}
	for disc, want := range cases {
		if got, code := impl.GhostsOf(disc[0], disc[1]); got != want || code != impl.OK {
			t.Errorf("GhostsOf(%d, %d) = %d, %d, want %d", disc[0], disc[1], got, code, want)
		}
	}
	eachDisc(func(pictures, slits int64) {
		places := map[fraction]bool{}
		for flash := range 3 * slits {
			_, off, _ := impl.SeenAt(pictures, slits, flash)
			places[off] = true
		}
		if got, code := impl.GhostsOf(pictures, slits); got != int64(len(places)) || code != impl.OK {
			t.Errorf("GhostsOf(%d, %d) = %d, %d, want %d", pictures, slits, got, code, len(places))
		}
	})
}

func TestSeenOrder(t *testing.T) {
	cases := []struct {
		pictures, slits int64
		want            []int64
	}{
		{2, 4, []int64{0, 1, 1, 0}},
		{1, 1, []int64{0}},
		{1, 4, []int64{0, 0, 0, 0}},
		{4, 1, []int64{0}},
		{4, 2, []int64{0, 2}},
		{5, 2, []int64{0, 3}},
		{3, 4, []int64{0, 1, 2, 2}},
		{4, 3, []int64{0, 1, 3}},
		{3, 3, []int64{0, 1, 2}},
	}
	for _, c := range cases {
		if got, code := impl.SeenOrder(c.pictures, c.slits); !slices.Equal(got, c.want) || code != impl.OK {
			t.Errorf("SeenOrder(%d, %d) = %v, %d, want %v", c.pictures, c.slits, got, code, c.want)
		}
	}
	eachDisc(func(pictures, slits int64) {
		var want []int64
		for flash := range slits {
			picture, _ := wantSeen(pictures, slits, flash)
			want = append(want, picture)
		}
		if got, code := impl.SeenOrder(pictures, slits); !slices.Equal(got, want) || code != impl.OK {
			t.Errorf("SeenOrder(%d, %d) = %v, %d, want %v", pictures, slits, got, code, want)
		}
	})
}

func TestMissedPictures(t *testing.T) {
	cases := []struct {
		pictures, slits int64
		want            []int64
	}{
		{5, 2, []int64{1, 2, 4}},
		{4, 2, []int64{1, 3}},
		{4, 1, []int64{1, 2, 3}},
		{4, 3, []int64{2}},
		{1, 1, nil},
		{4, 4, nil},
		{3, 4, nil},
	}
	for _, c := range cases {
		if got, code := impl.MissedPictures(c.pictures, c.slits); !slices.Equal(got, c.want) || code != impl.OK {
			t.Errorf("MissedPictures(%d, %d) = %v, %d, want %v", c.pictures, c.slits, got, code, c.want)
		}
	}
	eachDisc(func(pictures, slits int64) {
		seen := map[int64]bool{}
		for flash := range 2 * slits {
			picture, _ := wantSeen(pictures, slits, flash)
			seen[picture] = true
		}
		var want []int64
		for picture := range pictures {
			if !seen[picture] {
				want = append(want, picture)
			}
		}
		if got, code := impl.MissedPictures(pictures, slits); !slices.Equal(got, want) || code != impl.OK {
			t.Errorf("MissedPictures(%d, %d) = %v, %d, want %v", pictures, slits, got, code, want)
		}
	})
}

func TestPictureRate(t *testing.T) {
	cases := []struct {
		rate  fraction
		slits int64
		want  fraction
		code  int64
	}{
		{frac(3, 2), 12, frac(18, 1), impl.OK},
		{frac(-3, 2), 12, frac(-18, 1), impl.OK},
		{frac(0, 1), 48, frac(0, 1), impl.OK},
		{frac(5, 7), 48, frac(240, 7), impl.OK},
		{frac(1, 48), 48, frac(1, 1), impl.OK},
		{frac(500000, 1), 2, frac(1000000, 1), impl.OK},
		{frac(-500000, 1), 2, frac(-1000000, 1), impl.OK},
		{frac(500001, 1), 2, fraction{}, impl.ErrFull},
		{frac(-500001, 1), 2, fraction{}, impl.ErrFull},
		{frac(20833, 1), 48, frac(999984, 1), impl.OK},
		{frac(20834, 1), 48, fraction{}, impl.ErrFull},
		{frac(1000000, 1), 1, frac(1000000, 1), impl.OK},
		{frac(1, 1000000), 48, frac(3, 62500), impl.OK},
		{frac(1, 1), 0, fraction{}, impl.ErrRange},
		{frac(1, 1), 49, fraction{}, impl.ErrRange},
		{frac(1, 1), -1, fraction{}, impl.ErrRange},
		{frac(1000000, 1), 49, fraction{}, impl.ErrRange},
		{frac(2, 4), 49, fraction{}, impl.ErrInvalid},
		{fraction{}, 12, fraction{}, impl.ErrInvalid},
	}
	for _, c := range cases {
		if got, code := impl.PictureRate(c.rate, c.slits); got != c.want || code != c.code {
			t.Errorf("PictureRate(%v, %d) = %v, %d, want %v, %d", c.rate, c.slits, got, code, c.want, c.code)
		}
	}
	for _, rate := range append(smallFractions(), validFractions...) {
		for slits := int64(1); slits <= 48; slits++ {
			got, code := impl.PictureRate(rate, slits)
			checkFraction(t, "PictureRate", got, code, new(big.Rat).Mul(exact(rate), big.NewRat(slits, 1)))
		}
	}
}

func TestDriftRate(t *testing.T) {
	cases := []struct {
		rate            fraction
		pictures, slits int64
		want            fraction
		code            int64
	}{
		{frac(3, 2), 13, 12, frac(3, 26), impl.OK},
		{frac(-3, 2), 13, 12, frac(-3, 26), impl.OK},
		{frac(3, 2), 11, 12, frac(-3, 22), impl.OK},
		{frac(-3, 2), 11, 12, frac(3, 22), impl.OK},
		{frac(0, 1), 13, 12, frac(0, 1), impl.OK},
		{frac(3, 2), 12, 12, frac(0, 1), impl.OK},
		{frac(3, 2), 1, 2, frac(3, 2), impl.OK},
		{frac(3, 2), 6, 12, frac(3, 2), impl.OK},
		{frac(1000000, 1), 48, 48, frac(0, 1), impl.OK},
		{frac(1000000, 1), 1, 48, frac(1000000, 1), impl.OK},
		{frac(-1000000, 1), 24, 48, frac(-1000000, 1), impl.OK},
		{frac(1, 500000), 2, 3, frac(-1, 1000000), impl.OK},
		{frac(1, 500001), 2, 3, fraction{}, impl.ErrFull},
		{frac(1, 1000000), 13, 12, fraction{}, impl.ErrFull},
		{frac(1, 1000000), 12, 12, frac(0, 1), impl.OK},
		{frac(1, 1), 0, 12, fraction{}, impl.ErrRange},
		{frac(1, 1), 13, 0, fraction{}, impl.ErrRange},
		{frac(1, 1), 49, 12, fraction{}, impl.ErrRange},
		{frac(1, 1), 13, 49, fraction{}, impl.ErrRange},
		{frac(1, 1000000), 49, 12, fraction{}, impl.ErrRange},
		{frac(2, 4), 49, 0, fraction{}, impl.ErrInvalid},
		{fraction{}, 13, 12, fraction{}, impl.ErrInvalid},
	}
	for _, c := range cases {
		if got, code := impl.DriftRate(c.rate, c.pictures, c.slits); got != c.want || code != c.code {
			t.Errorf("DriftRate(%v, %d, %d) = %v, %d, want %v, %d", c.rate, c.pictures, c.slits, got, code, c.want, c.code)
		}
	}
	for _, rate := range validFractions {
		eachDisc(func(pictures, slits int64) {
			want := new(big.Rat).Mul(exact(rate), wantDrift(pictures, slits))
			want.Mul(want, big.NewRat(slits, pictures))
			got, code := impl.DriftRate(rate, pictures, slits)
			checkFraction(t, "DriftRate", got, code, want)
		})
	}
}

func TestSlitsForDrift(t *testing.T) {
	cases := []struct {
		pictures int64
		drift    fraction
		want     []int64
	}{
		{13, frac(1, 12), []int64{12}},
		{13, frac(-1, 12), nil},
		{11, frac(-1, 12), []int64{12}},
		{12, frac(0, 1), []int64{1, 2, 3, 4, 6, 12}},
		{1, frac(0, 1), []int64{1}},
		{48, frac(0, 1), []int64{1, 2, 3, 4, 6, 8, 12, 16, 24, 48}},
		{1, frac(1, 2), []int64{2}},
		{6, frac(1, 2), []int64{4, 12}},
		{24, frac(1, 2), []int64{16, 48}},
		{1, frac(1, 48), []int64{48}},
		{1, frac(1, 49), nil},
		{6, frac(-1, 2), nil},
		{6, frac(1, 1), nil},
		{6, frac(3, 2), nil},
		{6, frac(1000000, 1), nil},
		{6, frac(-1, 1000000), nil},
	}
	for _, c := range cases {
		if got, code := impl.SlitsForDrift(c.pictures, c.drift); !slices.Equal(got, c.want) || code != impl.OK {
			t.Errorf("SlitsForDrift(%d, %v) = %v, %d, want %v", c.pictures, c.drift, got, code, c.want)
		}
	}
	eachDisc(func(pictures, slits int64) {
		d := wantDrift(pictures, slits)
		var want []int64
		for other := int64(1); other <= 48; other++ {
			if wantDrift(pictures, other).Cmp(d) == 0 {
				want = append(want, other)
			}
		}
		drift, _ := wantFraction(d)
		if got, code := impl.SlitsForDrift(pictures, drift); !slices.Equal(got, want) || code != impl.OK {
			t.Errorf("SlitsForDrift(%d, %v) = %v, %d, want %v", pictures, drift, got, code, want)
		}
	})
}

func TestSlitsForDriftErrors(t *testing.T) {
	for _, pictures := range discSizes {
		got, code := impl.SlitsForDrift(pictures, frac(1, 2))
		if onDisc(pictures) != (code == impl.OK) || !onDisc(pictures) && (code != impl.ErrRange || len(got) != 0) {
			t.Errorf("SlitsForDrift(%d, 1/2) = %v, %d", pictures, got, code)
		}
		for _, drift := range invalidFractions {
			if got, code := impl.SlitsForDrift(pictures, drift); len(got) != 0 || code != impl.ErrInvalid {
				t.Errorf("SlitsForDrift(%d, %v) = %v, %d, want ErrInvalid", pictures, drift, got, code)
			}
		}
	}
}

// TestDiscsOfAllArguments checks the errors at all limits, with zero values beside them.
func TestDiscsOfAllArguments(t *testing.T) {
	for _, pictures := range discSizes {
		for _, slits := range discSizes {
			want := int64(impl.ErrRange)
			if onDisc(pictures) && onDisc(slits) {
				want = impl.OK
			}
			drift, one := impl.DriftOf(pictures, slits)
			still, two := impl.StandsStill(pictures, slits)
			ghosts, three := impl.GhostsOf(pictures, slits)
			order, four := impl.SeenOrder(pictures, slits)
			missed, five := impl.MissedPictures(pictures, slits)
			turns, six := impl.DriftRate(frac(3, 2), pictures, slits)
			for i, code := range []int64{one, two, three, four, five, six} {
				if code != want {
					t.Errorf("function %d of %d pictures and %d slits has the code %d, want %d", i, pictures, slits, code, want)
				}
			}
			if want != impl.OK && (drift != fraction{} || still || ghosts != 0 || len(order) != 0 || len(missed) != 0 || turns != fraction{}) {
				t.Errorf("a value beside an error for %d pictures and %d slits", pictures, slits)
			}
			for _, flash := range append([]int64{-2, 1000002}, extremes...) {
				picture, off, code := impl.SeenAt(pictures, slits, flash)
				again, offAgain, codeAgain := impl.SeenAt(pictures, slits, flash)
				seen := want == impl.OK && flash >= 0 && flash <= 1000000
				if seen != (code == impl.OK) || !seen && (code != impl.ErrRange || picture != 0 || off != fraction{}) {
					t.Errorf("SeenAt(%d, %d, %d) = %d, %v, %d", pictures, slits, flash, picture, off, code)
				}
				if picture != again || off != offAgain || code != codeAgain {
					t.Errorf("SeenAt(%d, %d, %d) differs", pictures, slits, flash)
				}
			}
		}
	}
}

func TestRatesOfDiscsOfInvalidFractions(t *testing.T) {
	for _, rate := range invalidFractions {
		for _, n := range discSizes {
			if got, code := impl.PictureRate(rate, n); got != (fraction{}) || code != impl.ErrInvalid {
				t.Errorf("PictureRate(%v, %d) = %v, %d, want ErrInvalid", rate, n, got, code)
			}
			if got, code := impl.DriftRate(rate, n, 12); got != (fraction{}) || code != impl.ErrInvalid {
				t.Errorf("DriftRate(%v, %d, 12) = %v, %d, want ErrInvalid", rate, n, got, code)
			}
		}
	}
	for _, n := range discSizes {
		if got, code := impl.PictureRate(frac(1, 2), n); onDisc(n) != (code == impl.OK) || !onDisc(n) && (got != fraction{} || code != impl.ErrRange) {
			t.Errorf("PictureRate(1/2, %d) = %v, %d", n, got, code)
		}
	}
}

// TestDiscResultsAreNew checks that a result that is changed changes no later one.
func TestDiscResultsAreNew(t *testing.T) {
	calls := map[string]func() []int64{
		"SeenOrder":      func() []int64 { list, _ := impl.SeenOrder(13, 12); return list },
		"MissedPictures": func() []int64 { list, _ := impl.MissedPictures(13, 5); return list },
		"SlitsForDrift":  func() []int64 { list, _ := impl.SlitsForDrift(48, frac(0, 1)); return list },
	}
	for name, call := range calls {
		first, second := call(), call()
		want := slices.Clone(first)
		for i := range first[:cap(first)] {
			first[:cap(first)][i] = -1
		}
		if len(want) == 0 || !slices.Equal(second, want) || !slices.Equal(call(), want) {
			t.Errorf("%s: %v, then %v, want %v", name, second, call(), want)
		}
	}
}

func TestExamplesOfDiscs(t *testing.T) {
	drift, code := impl.DriftOf(13, 12)
	ghosts, ghostsCode := impl.GhostsOf(13, 12)
	if drift != frac(1, 12) || code != impl.OK || ghosts != 12 || ghostsCode != impl.OK {
		t.Errorf("a disc with 13 pictures and 12 slits drifts by %v and has %d places", drift, ghosts)
	}
}
