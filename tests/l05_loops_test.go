package tests

import (
	"math"
	"math/big"
	"slices"
	"testing"

	"loop.example/g01063/impl"
)

func ints(list ...int64) []int64 { return list }

// wave returns a loop with so many places that are all different, and do not come in order.
func wave(many int64) []int64 {
	var places []int64
	for k := range many {
		places = append(places, (37+389*k)%1001)
	}
	return places
}

// flat returns a loop with so many equal places.
func flat(many int, place int64) []int64 { return slices.Repeat(ints(place), many) }

// sampleLoops are loops at the limits and between them.
func sampleLoops() [][]int64 {
	list := [][]int64{
		{0}, {500}, {1000}, {0, 1000}, {1000, 0}, {3, 3}, {0, 4, 8, 4}, {8, 4, 0, 5}, {0, 10, 20, 30}, {30, 20, 10, 0}, {1000, 999, 1, 0}, {0, 1, 999, 1000},
		{7, 7, 7}, {0, 0, 1}, {1, 0, 0}, {0, 1, 0}, {5, 9, 5, 9, 5, 9}, {0, 1000, 0, 1000, 0}, {500, 1000, 400}, {500, 0, 600}, {2, 1, 2, 1, 2, 2},
		flat(60, 0), flat(60, 1000), flat(59, 17),
	}
	for many := int64(1); many <= 60; many++ {
		list = append(list, wave(many))
	}
	return list
}

// shortLoops are all loops with places from 0 to 3, and up to 4 of them.
func shortLoops() [][]int64 {
	list, before := [][]int64{}, [][]int64{{}}
	for range 4 {
		var longer [][]int64
		for _, places := range before {
			for place := range int64(4) {
				longer = append(longer, append(slices.Clone(places), place))
			}
		}
		list, before = append(list, longer...), longer
	}
	return list
}

// invalidLoops are invalid for one reason each.
func invalidLoops() [][]int64 {
	list := [][]int64{nil, {}, flat(61, 0), wave(61), flat(120, 5), flat(1000, 5)}
	for _, n := range []int64{math.MinInt64, math.MinInt64 + 1, -1000, -1, 1001, 1002, 1 << 32, math.MaxInt64 - 1, math.MaxInt64} {
		list = append(list, ints(n), ints(n, 0, 4), ints(0, n, 4), ints(0, 4, n), append(flat(59, 7), n))
	}
	return list
}

// counted returns the place k, where the loop is followed by itself.
func counted(places []int64, k int64) int64 {
	for k >= int64(len(places)) {
		k -= int64(len(places))
	}
	return places[k]
}

func TestValidLoop(t *testing.T) {
	for _, places := range append(sampleLoops(), shortLoops()...) {
		if !impl.ValidLoop(places) {
			t.Errorf("ValidLoop(%v) = false", places)
		}
	}
	for _, places := range invalidLoops() {
		if impl.ValidLoop(places) {
			t.Errorf("ValidLoop(%v) = true", places)
		}
	}
	for k := range 60 {
		for _, bad := range []int64{-1, 1001} {
			places := wave(60)
			places[k] = bad
			if impl.ValidLoop(places) {
				t.Errorf("ValidLoop(%v) = true", places)
			}
		}
	}
	if long := append(wave(60), 1001); !impl.ValidLoop(long[:60]) {
		t.Error("ValidLoop looks at what lies behind a list")
	}
}

func TestStepsOfLoop(t *testing.T) {
	cases := []struct{ places, want []int64 }{
		{ints(0, 4, 8, 4), ints(4, 4, -4, -4)},
		{ints(7), ints(0)},
		{ints(0, 1000), ints(1000, -1000)},
		{ints(1000, 0), ints(-1000, 1000)},
		{ints(5, 5, 9), ints(0, 4, -4)},
		{ints(9, 5, 5), ints(-4, 0, 4)},
		{ints(1, 2, 4, 8, 16), ints(1, 2, 4, 8, -15)},
		{flat(60, 1000), flat(60, 0)},
	}
	for _, c := range cases {
		if got, code := impl.StepsOfLoop(c.places); !slices.Equal(got, c.want) || code != impl.OK {
			t.Errorf("StepsOfLoop(%v) = %v, %d, want %v", c.places, got, code, c.want)
		}
	}
	for _, places := range invalidLoops() {
		if got, code := impl.StepsOfLoop(places); len(got) != 0 || code != impl.ErrInvalid {
			t.Errorf("StepsOfLoop(%v) = %v, %d, want ErrInvalid", places, got, code)
		}
	}
}

// TestStepsLeadAround checks that each step leads to the next place, and the last one to the first place.
func TestStepsLeadAround(t *testing.T) {
	for _, places := range append(sampleLoops(), shortLoops()...) {
		steps, code := impl.StepsOfLoop(places)
		if code != impl.OK || len(steps) != len(places) {
			t.Fatalf("StepsOfLoop(%v) = %v, %d", places, steps, code)
		}
		for k, step := range steps {
			if places[k]+step != counted(places, int64(k)+1) {
				t.Errorf("StepsOfLoop(%v) = %v: the step %d is wrong", places, steps, k)
			}
		}
	}
}

func TestRoughestStep(t *testing.T) {
	cases := []struct {
		places      []int64
		place, size int64
	}{
		{ints(0, 4, 8, 4), 0, 8},
		{ints(4, 8, 4, 0), 1, 8},
		{ints(8, 4, 0, 4), 0, 8},
		{ints(4, 0, 4, 8), 1, 8},
		{ints(7), 0, 0},
		{ints(3, 3), 0, 0},
		{flat(60, 1000), 0, 0},
		{ints(0, 1000), 0, 2000},
		{ints(1000, 0), 0, 2000},
		{ints(0, 1000, 0, 1000, 0), 1, 2000},
		{ints(0, 0, 1), 2, 2},
		{ints(1, 0, 0), 0, 2},
		{ints(0, 1, 0), 1, 2},
		{ints(5, 5, 5, 9), 3, 8},
		{ints(0, 1, 2, 3, 4, 5), 0, 6},
		{ints(5, 4, 3, 2, 1, 0), 0, 6},
		{ints(1, 2, 3, 4, 5, 0), 4, 6},
		{ints(3, 0, 0, 3, 3, 0, 0, 3), 0, 3},
		{ints(0, 0, 3, 3, 0, 0, 3, 3), 0, 3},
		{ints(0, 0, 3, 4, 0, 0, 3, 4), 3, 5},
		{ints(9, 9, 9, 9, 4, 9, 4, 9), 4, 10},
	}
	for _, c := range cases {
		if place, size, code := impl.RoughestStep(c.places); place != c.place || size != c.size || code != impl.OK {
			t.Errorf("RoughestStep(%v) = %d, %d, %d, want %d, %d", c.places, place, size, code, c.place, c.size)
		}
	}
	for _, places := range invalidLoops() {
		if place, size, code := impl.RoughestStep(places); place != 0 || size != 0 || code != impl.ErrInvalid {
			t.Errorf("RoughestStep(%v) = %d, %d, %d, want ErrInvalid", places, place, size, code)
		}
	}
}

// changeAt returns how much the step at a place differs from the one before it, from the three places that they concern.
func changeAt(places []int64, k int64) int64 {
	many := int64(len(places))
	change := counted(places, k+1) - 2*places[k] + counted(places, k+many-1)
	return max(change, -change)
}

// TestRoughestStepIsFirst checks that no place is rougher, and no place before the told one just as rough.
func TestRoughestStepIsFirst(t *testing.T) {
	for _, places := range append(sampleLoops(), shortLoops()...) {
		place, size, code := impl.RoughestStep(places)
		if code != impl.OK || place < 0 || place >= int64(len(places)) || changeAt(places, place) != size {
			t.Fatalf("RoughestStep(%v) = %d, %d, %d", places, place, size, code)
		}
		for k := range int64(len(places)) {
			if change := changeAt(places, k); change > size || change == size && k < place {
				t.Errorf("RoughestStep(%v) = %d, %d, but the place %d has %d", places, place, size, k, change)
			}
		}
	}
}

func TestCloseLoop(t *testing.T) {
	cases := []struct {
		places []int64
		over   int64
		want   []int64
	}{
		{ints(0, 10, 20, 30), 2, ints(0, 10, 10, 10)},
		{ints(0, 10, 20, 30), 1, ints(0, 10, 20, 15)},
		{ints(0, 10, 20, 30), 3, ints(0, 3, 5, 8)},
		{ints(0, 10, 20, 30), 4, ints(0, 0, 2, 6)},
		{ints(30, 20, 10, 0), 2, ints(30, 20, 20, 20)},
		{ints(30, 20, 10, 0), 4, ints(36, 32, 28, 24)},
		{ints(30, 20, 10, 0), 1, ints(30, 20, 10, 15)},
		// Halves go upwards, be the gap positive or negative.
		{ints(9, 0), 1, ints(9, 5)},
		{ints(0, 9), 1, ints(0, 5)},
		{ints(1, 0), 1, ints(1, 1)},
		{ints(0, 1), 1, ints(0, 1)},
		{ints(6, 5, 4, 4), 3, ints(6, 6, 5, 6)},
		{ints(4, 5, 6, 6), 3, ints(4, 5, 5, 5)},
		{ints(3, 5, 0), 2, ints(3, 6, 2)},
		{ints(4, 5, 0), 2, ints(4, 6, 3)},
		{ints(5, 5, 0), 2, ints(5, 7, 3)},
		{ints(0, 5, 4), 2, ints(0, 4, 1)},
		{ints(0, 5, 5), 2, ints(0, 3, 2)},
		// Places are led into their bounds, and those behind them do not notice it.
		{ints(500, 1000, 400), 2, ints(500, 1000, 467)},
		{ints(500, 990, 400), 2, ints(500, 1000, 467)},
		{ints(500, 967, 400), 2, ints(500, 1000, 467)},
		{ints(500, 966, 400), 2, ints(500, 999, 467)},
		{ints(500, 0, 600), 2, ints(500, 0, 533)},
		{ints(500, 10, 600), 2, ints(500, 0, 533)},
		{ints(500, 33, 600), 2, ints(500, 0, 533)},
		{ints(500, 34, 600), 2, ints(500, 1, 533)},
		{ints(1000, 1000, 1000, 1000, 0), 4, ints(1000, 1000, 1000, 1000, 800)},
		{ints(0, 0, 0, 0, 1000), 4, ints(0, 0, 0, 0, 200)},
		// Over as the number of all places: the first place changes too, and the gap is that of the loop as it was.
		{ints(0, 1000), 2, ints(0, 333)},
		{ints(1000, 0), 2, ints(1000, 667)},
		{ints(900, 0), 2, ints(1000, 600)},
		{ints(100, 1000), 2, ints(0, 400)},
		{ints(400, 300, 100), 3, ints(475, 450, 325)},
		// A loop that has no gap, of one place or of more, stays as it is.
		{ints(0), 1, ints(0)},
		{ints(1000), 1, ints(1000)},
		{ints(7, 1, 7), 1, ints(7, 1, 7)},
		{ints(7, 1, 7), 3, ints(7, 1, 7)},
		{flat(60, 3), 60, flat(60, 3)},
	}
	for _, c := range cases {
		if got, code := impl.CloseLoop(c.places, c.over); !slices.Equal(got, c.want) || code != impl.OK {
			t.Errorf("CloseLoop(%v, %d) = %v, %d, want %v", c.places, c.over, got, code, c.want)
		}
	}
}

// wantClosed changes places by exact shares of the gap.
func wantClosed(places []int64, over int64) []int64 {
	want := slices.Clone(places)
	many := int64(len(places))
	gap := big.NewRat(places[0]-places[many-1], 1)
	for i := int64(1); i <= over; i++ {
		share := nearest(new(big.Rat).Mul(gap, big.NewRat(i, over+1)))
		k := many - over + i - 1
		want[k] = max(0, min(1000, places[k]+share))
	}
	return want
}

func TestCloseLoopByExactShares(t *testing.T) {
	for _, places := range append(sampleLoops(), shortLoops()...) {
		for over := int64(1); over <= int64(len(places)); over++ {
			got, code := impl.CloseLoop(places, over)
			if want := wantClosed(places, over); !slices.Equal(got, want) || code != impl.OK || !impl.ValidLoop(got) {
				t.Fatalf("CloseLoop(%v, %d) = %v, %d, want %v", places, over, got, code, want)
			}
		}
	}
}

// TestCloseLoopOfAllGaps checks each gap, up and down, with each number of shares.
func TestCloseLoopOfAllGaps(t *testing.T) {
	for gap := int64(-1000); gap <= 1000; gap++ {
		for _, over := range []int64{1, 2, 3, 4, 5, 6, 7, 15, 58, 59, 60} {
			places := flat(60, 500)
			places[0], places[59] = max(gap, 0), max(-gap, 0)
			got, code := impl.CloseLoop(places, over)
			if want := wantClosed(places, over); !slices.Equal(got, want) || code != impl.OK {
				t.Fatalf("CloseLoop(%v, %d) = %v, %d, want %v", places, over, got, code, want)
			}
		}
	}
}

func TestCloseLoopErrors(t *testing.T) {
	for _, places := range sampleLoops() {
		many := int64(len(places))
		for _, over := range append([]int64{many, many + 1, 60, 61}, extremes...) {
			got, code := impl.CloseLoop(places, over)
			inside := over >= 1 && over <= many
			if inside != (code == impl.OK) || !inside && (code != impl.ErrRange || len(got) != 0) {
				t.Errorf("CloseLoop(%v, %d) = %v, %d", places, over, got, code)
			}
		}
	}
	for _, places := range invalidLoops() {
		for _, over := range append([]int64{int64(len(places)), 61}, extremes...) {
			if got, code := impl.CloseLoop(places, over); len(got) != 0 || code != impl.ErrInvalid {
				t.Errorf("CloseLoop(%v, %d) = %v, %d, want ErrInvalid", places, over, got, code)
			}
		}
	}
}

// leastMultiple counts up to the first number that is a multiple of both.
func leastMultiple(a, b int64) int64 {
	n := int64(1)
	for n%a != 0 || n%b != 0 {
		n++
	}
	return n
}

func TestCommonLength(t *testing.T) {
	cases := [][3]int64{{8, 12, 24}, {12, 8, 24}, {1, 1, 1}, {1, 60, 60}, {60, 1, 60}, {60, 60, 60}, {59, 60, 3540}, {30, 45, 90}, {7, 7, 7}, {6, 35, 210}, {40, 9, 360}, {28, 13, 364}}
	for _, c := range cases {
		if got, code := impl.CommonLength(c[0], c[1]); got != c[2] || code != impl.OK {
			t.Errorf("CommonLength(%d, %d) = %d, %d, want %d", c[0], c[1], got, code, c[2])
		}
	}
	for a := int64(1); a <= 60; a++ {
		for b := int64(1); b <= 60; b++ {
			if got, code := impl.CommonLength(a, b); got != leastMultiple(a, b) || code != impl.OK {
				t.Errorf("CommonLength(%d, %d) = %d, %d, want %d", a, b, got, code, leastMultiple(a, b))
			}
		}
	}
}

func TestCommonLengthErrors(t *testing.T) {
	numbers := append([]int64{60, 61, -60, -61, 120}, extremes...)
	for _, a := range numbers {
		for _, b := range numbers {
			inside := a >= 1 && a <= 60 && b >= 1 && b <= 60
			got, code := impl.CommonLength(a, b)
			if inside != (code == impl.OK) || !inside && (code != impl.ErrRange || got != 0) {
				t.Errorf("CommonLength(%d, %d) = %d, %d", a, b, got, code)
			}
		}
	}
}

func TestJoinLoops(t *testing.T) {
	cases := []struct {
		a, b []int64
		want [][]int64
	}{
		{ints(1, 2), ints(5, 6, 7), [][]int64{{1, 5}, {2, 6}, {1, 7}, {2, 5}, {1, 6}, {2, 7}}},
		{ints(5, 6, 7), ints(1, 2), [][]int64{{5, 1}, {6, 2}, {7, 1}, {5, 2}, {6, 1}, {7, 2}}},
		{ints(3), ints(4), [][]int64{{3, 4}}},
		{ints(3), ints(4, 5, 6), [][]int64{{3, 4}, {3, 5}, {3, 6}}},
		{ints(4, 5, 6), ints(3), [][]int64{{4, 3}, {5, 3}, {6, 3}}},
		{ints(0, 1000), ints(1000, 0), [][]int64{{0, 1000}, {1000, 0}}},
		{ints(1, 2), ints(5, 6, 7, 8), [][]int64{{1, 5}, {2, 6}, {1, 7}, {2, 8}}},
	}
	for _, c := range cases {
		if got, code := impl.JoinLoops(c.a, c.b); !slices.EqualFunc(got, c.want, slices.Equal) || code != impl.OK {
			t.Errorf("JoinLoops(%v, %v) = %v, %d, want %v", c.a, c.b, got, code, c.want)
		}
	}
}

// TestJoinLoopsOfAllLengths checks all numbers of places, those that are joined to just 360 pairs and to just too many among them.
func TestJoinLoopsOfAllLengths(t *testing.T) {
	for many := int64(1); many <= 60; many++ {
		for other := int64(1); other <= 60; other++ {
			checkJoined(t, wave(many), wave(other))
		}
	}
	for _, sizes := range [][2]int64{{40, 9}, {9, 40}, {45, 8}, {24, 45}, {36, 40}} {
		if got, code := impl.JoinLoops(wave(sizes[0]), wave(sizes[1])); len(got) != 360 || code != impl.OK {
			t.Errorf("JoinLoops of %d and %d places has %d pairs, %d", sizes[0], sizes[1], len(got), code)
		}
	}
	for _, sizes := range [][2]int64{{28, 13}, {13, 28}, {52, 7}, {20, 19}, {59, 60}, {60, 59}} {
		if got, code := impl.JoinLoops(wave(sizes[0]), wave(sizes[1])); len(got) != 0 || code != impl.ErrFull {
			t.Errorf("JoinLoops of %d and %d places has %d pairs, %d, want ErrFull", sizes[0], sizes[1], len(got), code)
		}
	}
}

func checkJoined(t *testing.T, a, b []int64) {
	t.Helper()
	length := leastMultiple(int64(len(a)), int64(len(b)))
	got, code := impl.JoinLoops(a, b)
	if length > 360 {
		if len(got) != 0 || code != impl.ErrFull {
			t.Errorf("JoinLoops(%v, %v) has %d pairs, %d, want ErrFull", a, b, len(got), code)
		}
		return
	}
	if int64(len(got)) != length || code != impl.OK {
		t.Fatalf("JoinLoops(%v, %v) has %d pairs, %d, want %d", a, b, len(got), code, length)
	}
	for k, pair := range got {
		if want := ints(counted(a, int64(k)), counted(b, int64(k))); !slices.Equal(pair, want) {
			t.Errorf("JoinLoops(%v, %v): the pair %d is %v, want %v", a, b, k, pair, want)
		}
	}
}

func TestJoinLoopsErrors(t *testing.T) {
	for _, bad := range invalidLoops() {
		for _, other := range append(invalidLoops(), ints(1), wave(59), wave(60)) {
			for _, p := range [][2][]int64{{bad, other}, {other, bad}} {
				if got, code := impl.JoinLoops(p[0], p[1]); len(got) != 0 || code != impl.ErrInvalid {
					t.Errorf("JoinLoops(%v, %v) = %v, %d, want ErrInvalid", p[0], p[1], got, code)
				}
			}
		}
	}
}

func TestTurnLoop(t *testing.T) {
	cases := []struct {
		places []int64
		by     int64
		want   []int64
	}{
		{ints(0, 4, 8, 5), 0, ints(0, 4, 8, 5)},
		{ints(0, 4, 8, 5), 1, ints(4, 8, 5, 0)},
		{ints(0, 4, 8, 5), 2, ints(8, 5, 0, 4)},
		{ints(0, 4, 8, 5), 3, ints(5, 0, 4, 8)},
		{ints(0, 4, 8, 5), 4, ints(0, 4, 8, 5)},
		{ints(0, 4, 8, 5), 5, ints(4, 8, 5, 0)},
		{ints(0, 4, 8, 5), 59, ints(5, 0, 4, 8)},
		{ints(0, 4, 8, 5), 60, ints(0, 4, 8, 5)},
		{ints(0, 4, 8), 59, ints(8, 0, 4)},
		{ints(7), 0, ints(7)},
		{ints(7), 1, ints(7)},
		{ints(7), 60, ints(7)},
	}
	for _, c := range cases {
		if got, code := impl.TurnLoop(c.places, c.by); !slices.Equal(got, c.want) || code != impl.OK {
			t.Errorf("TurnLoop(%v, %d) = %v, %d, want %v", c.places, c.by, got, code, c.want)
		}
	}
}

// TestTurnLoopPlaceByPlace checks that each turn by one more takes the first place to the end.
func TestTurnLoopPlaceByPlace(t *testing.T) {
	for _, places := range sampleLoops() {
		want := slices.Clone(places)
		for by := range int64(61) {
			if got, code := impl.TurnLoop(places, by); !slices.Equal(got, want) || code != impl.OK {
				t.Fatalf("TurnLoop(%v, %d) = %v, %d, want %v", places, by, got, code, want)
			}
			want = append(want[1:], want[0])
		}
	}
}

func TestTurnLoopErrors(t *testing.T) {
	for _, by := range append([]int64{-61, -60, -4, 60, 61, 64}, extremes...) {
		for _, places := range [][]int64{ints(7), ints(0, 4, 8, 4), wave(60)} {
			got, code := impl.TurnLoop(places, by)
			inside := by >= 0 && by <= 60
			if inside != (code == impl.OK) || !inside && (code != impl.ErrRange || len(got) != 0) {
				t.Errorf("TurnLoop(%v, %d) = %v, %d", places, by, got, code)
			}
		}
		for _, places := range invalidLoops() {
			if got, code := impl.TurnLoop(places, by); len(got) != 0 || code != impl.ErrInvalid {
				t.Errorf("TurnLoop(%v, %d) = %v, %d, want ErrInvalid", places, by, got, code)
			}
		}
	}
}

func TestBestTurn(t *testing.T) {
	cases := []struct {
		a, b    []int64
		by, sum int64
	}{
		{ints(0, 4, 8, 4), ints(8, 4, 0, 5), 2, 1},
		{ints(8, 4, 0, 5), ints(0, 4, 8, 4), 2, 1},
		{ints(0, 4, 8, 5), ints(4, 8, 5, 0), 1, 0},
		{ints(4, 8, 5, 0), ints(0, 4, 8, 5), 3, 0},
		{ints(0, 4, 8, 5), ints(0, 4, 8, 5), 0, 0},
		{ints(3), ints(3), 0, 0},
		{ints(0), ints(1000), 0, 1000},
		{ints(1000), ints(0), 0, 1000},
		{flat(60, 0), flat(60, 1000), 0, 60000},
		// The first one of several best turns.
		{ints(0, 9, 0, 9), ints(9, 0, 9, 0), 1, 0},
		{ints(9, 9, 0, 9, 9, 0), ints(0, 9, 9, 0, 9, 9), 2, 0},
		{ints(0, 1, 2), ints(1, 1, 1), 0, 2},
		{ints(1, 2, 3, 4), ints(4, 4, 1, 1), 2, 2},
		// The sum of the squares, and the greatest difference, would be least without a turn.
		{ints(0, 2, 0, 1), ints(2, 3, 1, 0), 1, 3},
		{ints(0, 6, 1), ints(5, 0, 0), 1, 2},
	}
	for _, c := range cases {
		if by, sum, code := impl.BestTurn(c.a, c.b); by != c.by || sum != c.sum || code != impl.OK {
			t.Errorf("BestTurn(%v, %v) = %d, %d, %d, want %d, %d", c.a, c.b, by, sum, code, c.by, c.sum)
		}
	}
}

func sumOfDifferences(a, b []int64) int64 {
	sum := int64(0)
	for k := range a {
		sum += max(a[k]-b[k], b[k]-a[k])
	}
	return sum
}

// checkBestTurn checks promise 5: turned by the told number a is as near as told, by no number nearer, and by no lesser one as near.
func checkBestTurn(t *testing.T, a, b []int64) {
	t.Helper()
	best, least, code := impl.BestTurn(a, b)
	if code != impl.OK || best < 0 || best >= int64(len(a)) {
		t.Fatalf("BestTurn(%v, %v) = %d, %d, %d", a, b, best, least, code)
	}
	for by := range int64(len(a)) {
		loop, code := impl.TurnLoop(a, by)
		if code != impl.OK || len(loop) != len(b) {
			t.Fatalf("TurnLoop(%v, %d) = %v, %d", a, by, loop, code)
		}
		sum := sumOfDifferences(loop, b)
		if by == best && sum != least || sum < least || by < best && sum == least {
			t.Fatalf("BestTurn(%v, %v) = %d, %d, but turned by %d the sum is %d", a, b, best, least, by, sum)
		}
	}
}

func TestBestTurnIsNearest(t *testing.T) {
	short := shortLoops()
	for i, a := range short {
		for j := i % 3; j < len(short); j += 3 {
			if b := short[j]; len(a) == len(b) {
				checkBestTurn(t, a, b)
			}
		}
	}
	loops := sampleLoops()
	for _, a := range loops {
		for _, b := range loops {
			if len(a) == len(b) {
				checkBestTurn(t, a, b)
			}
		}
	}
}

// TestBestTurnFindsTurns checks that a loop whose places are all different is turned back onto itself.
func TestBestTurnFindsTurns(t *testing.T) {
	for many := int64(1); many <= 60; many++ {
		for by := range many {
			turned, _ := impl.TurnLoop(wave(many), by)
			if best, sum, code := impl.BestTurn(wave(many), turned); best != by || sum != 0 || code != impl.OK {
				t.Errorf("BestTurn of %d places and themselves turned by %d = %d, %d, %d", many, by, best, sum, code)
			}
		}
	}
}

func TestBestTurnErrors(t *testing.T) {
	for _, p := range [][2][]int64{{ints(0, 4, 8, 4), ints(0, 4, 8)}, {ints(0, 4), ints(0, 4, 8)}, {ints(1), ints(1, 1)}, {wave(60), wave(59)}, {wave(30), wave(60)}, {wave(60), ints(37)}} {
		if by, sum, code := impl.BestTurn(p[0], p[1]); by != 0 || sum != 0 || code != impl.ErrFormat {
			t.Errorf("BestTurn(%v, %v) = %d, %d, %d, want ErrFormat", p[0], p[1], by, sum, code)
		}
	}
	for _, bad := range invalidLoops() {
		for _, other := range append(invalidLoops(), ints(1), ints(0, 4, 8), wave(60)) {
			for _, p := range [][2][]int64{{bad, other}, {other, bad}} {
				if by, sum, code := impl.BestTurn(p[0], p[1]); by != 0 || sum != 0 || code != impl.ErrInvalid {
					t.Errorf("BestTurn(%v, %v) = %d, %d, %d, want ErrInvalid", p[0], p[1], by, sum, code)
				}
			}
		}
	}
}

func TestThinLoop(t *testing.T) {
	cases := []struct {
		places []int64
		each   int64
		want   []int64
		code   int64
	}{
		{ints(0, 4, 8, 5), 1, ints(0, 4, 8, 5), impl.OK},
		{ints(0, 4, 8, 5), 2, ints(0, 8), impl.OK},
		{ints(0, 4, 8, 5), 3, nil, impl.ErrFormat},
		{ints(0, 4, 8, 5), 4, ints(0), impl.OK},
		{ints(0, 4, 8, 5), 5, nil, impl.ErrFormat},
		{ints(0, 4, 8, 5), 8, nil, impl.ErrFormat},
		{ints(0, 4, 8, 5), 60, nil, impl.ErrFormat},
		{ints(0, 4, 8, 5), 61, nil, impl.ErrRange},
		{ints(1, 2, 3, 4, 5, 6), 2, ints(1, 3, 5), impl.OK},
		{ints(1, 2, 3, 4, 5, 6), 3, ints(1, 4), impl.OK},
		{ints(1, 2, 3, 4, 5, 6), 4, nil, impl.ErrFormat},
		{ints(7), 1, ints(7), impl.OK},
		{ints(7), 2, nil, impl.ErrFormat},
		{wave(60), 60, ints(37), impl.OK},
		{wave(60), 59, nil, impl.ErrFormat},
	}
	for _, c := range cases {
		if got, code := impl.ThinLoop(c.places, c.each); !slices.Equal(got, c.want) || code != c.code {
			t.Errorf("ThinLoop(%v, %d) = %v, %d, want %v, %d", c.places, c.each, got, code, c.want, c.code)
		}
	}
}

func TestThinLoopOfAllNumbers(t *testing.T) {
	numbers := slices.Clone(extremes)
	for each := int64(-2); each <= 62; each++ {
		numbers = append(numbers, each)
	}
	for many := int64(1); many <= 60; many++ {
		for _, each := range numbers {
			var want []int64
			wantCode := int64(impl.OK)
			if each < 1 || each > 60 {
				wantCode = impl.ErrRange
			} else if many%each != 0 {
				wantCode = impl.ErrFormat
			} else {
				for k := int64(0); k < many; k += each {
					want = append(want, wave(many)[k])
				}
			}
			if got, code := impl.ThinLoop(wave(many), each); !slices.Equal(got, want) || code != wantCode {
				t.Errorf("ThinLoop of %d places, %d: %v, %d, want %v, %d", many, each, got, code, want, wantCode)
			}
		}
	}
	for _, places := range invalidLoops() {
		for _, each := range numbers {
			if got, code := impl.ThinLoop(places, each); len(got) != 0 || code != impl.ErrInvalid {
				t.Errorf("ThinLoop(%v, %d) = %v, %d, want ErrInvalid", places, each, got, code)
			}
		}
	}
}

// spoilNumbers changes all that belongs to the memory of a result.
func spoilNumbers(list []int64) {
	for i := range whole(list) {
		whole(list)[i] = -1
	}
}

// TestLoopsAreNew checks that results share no memory with arguments, and that arguments are left alone.
func TestLoopsAreNew(t *testing.T) {
	for _, sample := range sampleLoops() {
		places := spare(sample, 777)
		before := slices.Clone(whole(places))
		many := int64(len(places))
		results := []func() []int64{
			func() []int64 { list, _ := impl.StepsOfLoop(places); return list },
			func() []int64 { list, _ := impl.CloseLoop(places, 1); return list },
			func() []int64 { list, _ := impl.CloseLoop(places, many); return list },
			func() []int64 { list, _ := impl.TurnLoop(places, 0); return list },
			func() []int64 { list, _ := impl.TurnLoop(places, 1); return list },
			func() []int64 { list, _ := impl.TurnLoop(places, many); return list },
			func() []int64 { list, _ := impl.ThinLoop(places, 1); return list },
			func() []int64 { list, _ := impl.ThinLoop(places, many); return list },
		}
		for i, result := range results {
			first, second := result(), result()
			want := slices.Clone(second)
			spoilNumbers(first)
			if len(want) == 0 || !slices.Equal(second, want) || !slices.Equal(result(), want) || !slices.Equal(whole(places), before) {
				t.Errorf("the function %d shares memory: %v, want %v, of %v", i, second, want, places)
			}
		}
		impl.ValidLoop(places)
		impl.RoughestStep(places)
		impl.BestTurn(places, places)
		if !slices.Equal(whole(places), before) {
			t.Errorf("the places %v have been changed: %v", before, whole(places))
		}
	}
}

// TestJoinedPairsAreNew checks that no pair shares memory with an argument or another pair.
func TestJoinedPairsAreNew(t *testing.T) {
	for _, sizes := range [][2]int64{{1, 1}, {2, 2}, {2, 3}, {1, 60}, {60, 60}, {40, 9}} {
		a, b := spare(wave(sizes[0]), 777), spare(wave(sizes[1]), 888)
		beforeA, beforeB := slices.Clone(whole(a)), slices.Clone(whole(b))
		pairs, code := impl.JoinLoops(a, b)
		if code != impl.OK || len(pairs) == 0 {
			t.Fatalf("JoinLoops(%v, %v) = %v, %d", a, b, pairs, code)
		}
		for i := range pairs {
			var rest [][]int64
			for _, pair := range pairs[i+1:] {
				rest = append(rest, slices.Clone(pair))
			}
			spoilNumbers(pairs[i])
			if !slices.EqualFunc(pairs[i+1:], rest, slices.Equal) {
				t.Fatalf("JoinLoops(%v, %v): the pair %d shares memory", a, b, i)
			}
		}
		if !slices.Equal(whole(a), beforeA) || !slices.Equal(whole(b), beforeB) {
			t.Errorf("JoinLoops has changed %v and %v", whole(a), whole(b))
		}
		checkJoined(t, a, b)
	}
}

// TestLoopsOfAllArguments checks that odd arguments are answered, twice in the same way, and with nothing beside an error.
func TestLoopsOfAllArguments(t *testing.T) {
	loops := append(invalidLoops(), ints(0), ints(0, 4, 8, 4), wave(59), wave(60))
	for _, a := range loops {
		checkTwice(t, "StepsOfLoop", func() ([]int64, int64) { return impl.StepsOfLoop(a) })
		checkNumbersTwice(t, "RoughestStep", func() (int64, int64, int64) { return impl.RoughestStep(a) })
		for _, n := range append([]int64{4, 59, 60, 61}, extremes...) {
			checkTwice(t, "CloseLoop", func() ([]int64, int64) { return impl.CloseLoop(a, n) })
			checkTwice(t, "TurnLoop", func() ([]int64, int64) { return impl.TurnLoop(a, n) })
			checkTwice(t, "ThinLoop", func() ([]int64, int64) { return impl.ThinLoop(a, n) })
		}
		for _, b := range loops {
			checkNumbersTwice(t, "BestTurn", func() (int64, int64, int64) { return impl.BestTurn(a, b) })
			pairs, code := impl.JoinLoops(a, b)
			again, codeAgain := impl.JoinLoops(a, b)
			if !slices.EqualFunc(pairs, again, slices.Equal) || code != codeAgain || code != impl.OK && len(pairs) != 0 {
				t.Errorf("JoinLoops(%v, %v) = %v, %d, and then %v, %d", a, b, pairs, code, again, codeAgain)
			}
		}
	}
}

func checkNumbersTwice(t *testing.T, name string, call func() (int64, int64, int64)) {
	t.Helper()
	a, b, code := call()
	againA, againB, codeAgain := call()
	if a != againA || b != againB || code != codeAgain || code != impl.OK && (a != 0 || b != 0) {
		t.Errorf("%s: %d, %d, %d, and then %d, %d, %d", name, a, b, code, againA, againB, codeAgain)
	}
}

func TestLimitsOfLoops(t *testing.T) {
	if impl.MaxLoop != 60 || impl.MaxJoined != 360 {
		t.Errorf("the limits are %d and %d", impl.MaxLoop, impl.MaxJoined)
	}
}

func TestExampleOfLoops(t *testing.T) {
	if got, code := impl.StepsOfLoop(ints(0, 4, 8, 4)); !slices.Equal(got, ints(4, 4, -4, -4)) || code != impl.OK {
		t.Errorf("the loop 0 4 8 4 has the steps %v, %d", got, code)
	}
}
