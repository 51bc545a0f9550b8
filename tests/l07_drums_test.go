package tests

import (
	"fmt"
	"math"
	"math/big"
	"runtime"
	"slices"
	"strings"
	"sync"
	"testing"
	"time"

	"loop.example/g01063/impl"
)

type drum = impl.Drum

func drumOf(round, high, slits int64) drum { return drum{Round: round, High: high, Slits: slits} }

// drumSizes are numbers at, and just beyond, every limit of the chapter, and at the ends of integers.
var drumSizes = append([]int64{
	-100, 19, 20, 21, 47, 48, 49, 50, 99, 100, 101, 4999, 5000, 5001, 9999, 10000, 10001, 1 << 32, 1<<32 + 1, 1<<32 + 48, 1<<32 + 100, math.MinInt32, math.MaxUint32,
}, extremes...)

// rounds are circumferences at the limits and between them, that many numbers divide, or few.
var rounds = []int64{100, 101, 102, 103, 107, 120, 127, 144, 240, 599, 600, 615, 997, 1000, 2520, 5040, 7919, 9973, 9999, 10000}

// sampleDrums are valid.
func sampleDrums() []drum {
	list := []drum{drumOf(100, 20, 1), drumOf(100, 20, 48), drumOf(10000, 1000, 1), drumOf(10000, 1000, 48), drumOf(600, 100, 12)}
	for i, round := range rounds {
		high := []int64{20, 21, 99, 100, 333, 999, 1000}[i%7]
		list = append(list, drumOf(round, high, int64(i)+1), drumOf(round, high, 48-int64(i)))
	}
	return list
}

// invalidDrums are invalid for one reason each, but for the last ones.
func invalidDrums() []drum {
	list := []drum{}
	for _, n := range drumSizes {
		if n < 100 || n > 10000 {
			list = append(list, drumOf(n, 100, 12))
		}
		if n < 20 || n > 1000 {
			list = append(list, drumOf(600, n, 12))
		}
		if n < 1 || n > 48 {
			list = append(list, drumOf(600, 100, n))
		}
	}
	return append(list, drum{}, drumOf(-600, -100, -12), drumOf(math.MinInt64, math.MinInt64, math.MinInt64), drumOf(math.MaxInt64, math.MaxInt64, math.MaxInt64))
}

// eachDrumSize calls f with a few drums and all sizes.
func eachDrumSize(f func(d drum, n int64)) {
	for _, d := range []drum{drumOf(100, 20, 1), drumOf(600, 100, 12), drumOf(9999, 999, 47), drumOf(10000, 1000, 48)} {
		for _, n := range drumSizes {
			f(d, n)
		}
	}
}

func wantPlaces(round, many int64) []int64 {
	var places []int64
	for k := range many {
		places = append(places, nearest(big.NewRat(k*round, many)))
	}
	return places
}

func TestValidDrum(t *testing.T) {
	for _, d := range sampleDrums() {
		if !impl.ValidDrum(d) {
			t.Errorf("ValidDrum(%v) = false", d)
		}
	}
	for _, d := range invalidDrums() {
		if impl.ValidDrum(d) {
			t.Errorf("ValidDrum(%v) = true", d)
		}
	}
	for n := int64(-5); n <= 10100; n++ {
		got := [3]bool{impl.ValidDrum(drumOf(n, 100, 12)), impl.ValidDrum(drumOf(600, n, 12)), impl.ValidDrum(drumOf(600, 100, n))}
		if want := [3]bool{n >= 100 && n <= 10000, n >= 20 && n <= 1000, n >= 1 && n <= 48}; got != want {
			t.Errorf("ValidDrum of drums with %d as the circumference, the height, and the slits = %v, want %v", n, got, want)
		}
	}
}

func TestStripFor(t *testing.T) {
	cases := []struct {
		d          drum
		glue       int64
		long, high int64
	}{
		{drumOf(600, 100, 12), 15, 615, 50},
		{drumOf(600, 100, 12), 0, 600, 50},
		{drumOf(600, 100, 12), 1, 601, 50},
		{drumOf(600, 100, 12), 100, 700, 50},
		{drumOf(600, 100, 1), 15, 615, 50},
		{drumOf(600, 101, 12), 15, 615, 50},
		{drumOf(600, 102, 12), 15, 615, 51},
		{drumOf(601, 99, 48), 10, 611, 49},
		{drumOf(100, 20, 1), 0, 100, 10},
		{drumOf(100, 21, 1), 100, 200, 10},
		{drumOf(10000, 1000, 48), 100, 10100, 500},
		{drumOf(10000, 999, 48), 0, 10000, 499},
	}
	for _, c := range cases {
		if long, high, code := impl.StripFor(c.d, c.glue); long != c.long || high != c.high || code != impl.OK {
			t.Errorf("StripFor(%v, %d) = %d, %d, %d, want %d, %d", c.d, c.glue, long, high, code, c.long, c.high)
		}
	}
	eachDrumSize(func(d drum, n int64) {
		long, high, code := impl.StripFor(d, n)
		inside := n >= 0 && n <= 100
		if inside && (long != d.Round+n || code != impl.OK) || !inside && (long != 0 || high != 0 || code != impl.ErrRange) {
			t.Errorf("StripFor(%v, %d) = %d, %d, %d", d, n, long, high, code)
		}
	})
}

// TestStripIsHalfAsHigh checks that two strips are as high as the drum, or lower by one.
func TestStripIsHalfAsHigh(t *testing.T) {
	for high := int64(20); high <= 1000; high++ {
		_, got, code := impl.StripFor(drumOf(600, high, 12), 15)
		if code != impl.OK || 2*got != high && (2*got != high-1 || high%2 == 0) {
			t.Errorf("the strip of a drum with the height %d has the height %d, %d", high, got, code)
		}
	}
}

func TestPlacesOf(t *testing.T) {
	cases := []struct {
		round, pictures int64
		want            []int64
	}{
		{600, 7, ints(0, 86, 171, 257, 343, 429, 514)},
		{600, 1, ints(0)},
		{600, 2, ints(0, 300)},
		{600, 12, ints(0, 50, 100, 150, 200, 250, 300, 350, 400, 450, 500, 550)},
		{100, 3, ints(0, 33, 67)},
		{100, 6, ints(0, 17, 33, 50, 67, 83)},
		// Halves are rounded upwards, be the numbers around them even or odd.
		{101, 2, ints(0, 51)},
		{103, 2, ints(0, 52)},
		{100, 8, ints(0, 13, 25, 38, 50, 63, 75, 88)},
		{102, 4, ints(0, 26, 51, 77)},
		{10000, 16, ints(0, 625, 1250, 1875, 2500, 3125, 3750, 4375, 5000, 5625, 6250, 6875, 7500, 8125, 8750, 9375)},
		{10000, 1, ints(0)},
	}
	for _, c := range cases {
		if got, code := impl.PlacesOf(drumOf(c.round, 100, 5), c.pictures); !slices.Equal(got, c.want) || code != impl.OK {
			t.Errorf("PlacesOf(%d, %d) = %v, %d, want %v", c.round, c.pictures, got, code, c.want)
		}
	}
}

// TestPlacesOfAllCounts also checks that the places of slits are those of as many pictures, and that they all lie on the drum, and not on its glue.
func TestPlacesOfAllCounts(t *testing.T) {
	for _, round := range rounds {
		for many := int64(1); many <= 48; many++ {
			want := wantPlaces(round, many)
			places, code := impl.PlacesOf(drumOf(round, 77, 48), many)
			slits, slitCode := impl.SlitPlaces(drumOf(round, 77, many))
			if !slices.Equal(places, want) || code != impl.OK || !slices.Equal(slits, want) || slitCode != impl.OK {
				t.Fatalf("%d places around %d: %v, %d, and of slits %v, %d, want %v", many, round, places, code, slits, slitCode, want)
			}
			for k := 1; k < len(places); k++ {
				if places[k] <= places[k-1] {
					t.Errorf("%d places around %d: the place %d is not behind the one before it", many, round, k)
				}
			}
			if last := places[many-1]; places[0] != 0 || last >= round {
				t.Errorf("%d places around %d are from %d to %d", many, round, places[0], last)
			}
		}
	}
}

func TestPlacesOfErrors(t *testing.T) {
	eachDrumSize(func(d drum, n int64) {
		got, code := impl.PlacesOf(d, n)
		if onDisc(n) && (int64(len(got)) != n || code != impl.OK) || !onDisc(n) && (len(got) != 0 || code != impl.ErrRange) {
			t.Errorf("PlacesOf(%v, %d) = %v, %d", d, n, got, code)
		}
	})
}

func TestSlitPlaces(t *testing.T) {
	cases := []struct {
		d    drum
		want []int64
	}{
		{drumOf(600, 100, 4), ints(0, 150, 300, 450)},
		{drumOf(600, 100, 1), ints(0)},
		{drumOf(600, 33, 7), ints(0, 86, 171, 257, 343, 429, 514)},
		{drumOf(101, 20, 2), ints(0, 51)},
		{drumOf(100, 20, 8), ints(0, 13, 25, 38, 50, 63, 75, 88)},
	}
	for _, c := range cases {
		if got, code := impl.SlitPlaces(c.d); !slices.Equal(got, c.want) || code != impl.OK {
			t.Errorf("SlitPlaces(%v) = %v, %d, want %v", c.d, got, code, c.want)
		}
	}
}

func TestWidestPicture(t *testing.T) {
	cases := []struct {
		round, pictures, gap int64
		want, code           int64
	}{
		{600, 12, 10, 40, impl.OK},
		{600, 12, 0, 50, impl.OK},
		// A gap that leaves just 1, and gaps that leave nothing or less.
		{600, 12, 49, 1, impl.OK},
		{600, 12, 50, 0, impl.ErrFull},
		{600, 12, 51, 0, impl.ErrFull},
		{600, 12, 10000, 0, impl.ErrFull},
		{600, 1, 0, 600, impl.OK},
		{600, 1, 599, 1, impl.OK},
		{600, 1, 600, 0, impl.ErrFull},
		{600, 7, 0, 85, impl.OK},
		{600, 7, 84, 1, impl.OK},
		{600, 7, 85, 0, impl.ErrFull},
		{599, 12, 10, 39, impl.OK},
		{611, 12, 10, 40, impl.OK},
		{612, 12, 10, 41, impl.OK},
		{100, 48, 0, 2, impl.OK},
		{100, 48, 1, 1, impl.OK},
		{100, 48, 2, 0, impl.ErrFull},
		{10000, 1, 0, 10000, impl.OK},
		{10000, 1, 9999, 1, impl.OK},
		{10000, 1, 10000, 0, impl.ErrFull},
		// A range is checked first, even where nothing would be left.
		{10000, 1, 10001, 0, impl.ErrRange},
		{600, 12, -1, 0, impl.ErrRange},
		{600, 0, 10, 0, impl.ErrRange},
		{600, 49, 10, 0, impl.ErrRange},
		{600, 49, 600, 0, impl.ErrRange},
		{600, -1, 10, 0, impl.ErrRange},
		{100, 48, math.MaxInt64, 0, impl.ErrRange},
		{100, 48, math.MinInt64, 0, impl.ErrRange},
		{600, math.MinInt64, 0, 0, impl.ErrRange},
	}
	for _, c := range cases {
		if got, code := impl.WidestPicture(drumOf(c.round, 100, 5), c.pictures, c.gap); got != c.want || code != c.code {
			t.Errorf("WidestPicture(%d, %d, %d) = %d, %d, want %d, %d", c.round, c.pictures, c.gap, got, code, c.want, c.code)
		}
	}
}

// TestWidestPicturesFit checks that so many pictures and gaps fit around the drum, and wider ones do not.
func TestWidestPicturesFit(t *testing.T) {
	for _, round := range rounds {
		for pictures := int64(1); pictures <= 48; pictures++ {
			for _, gap := range []int64{0, 1, 2, 3, 10, 50, 99, 100, 101, 500, 5000, 10000} {
				got, code := impl.WidestPicture(drumOf(round, 500, 48), pictures, gap)
				if code == impl.ErrFull && got == 0 {
					if pictures*(gap+1) <= round {
						t.Errorf("WidestPicture(%d, %d, %d) = ErrFull, but pictures fit", round, pictures, gap)
					}
					continue
				}
				if code != impl.OK || got < 1 || pictures*(got+gap) > round || pictures*(got+1+gap) <= round {
					t.Errorf("WidestPicture(%d, %d, %d) = %d, %d", round, pictures, gap, got, code)
				}
			}
		}
	}
}

// fitting counts how often a part fits into a size, part by part.
func fitting(size, part int64) int64 {
	count := int64(0)
	for end := part; end <= size; end += part {
		count++
	}
	return count
}

func wantStrips(d drum, glue, wide, high int64) int64 {
	long, low := d.Round+glue, fitting(d.High, 2)
	return max(fitting(wide, long)*fitting(high, low), fitting(high, long)*fitting(wide, low))
}

func TestStripsFrom(t *testing.T) {
	d := drumOf(600, 100, 12)
	cases := []struct {
		d                drum
		glue, wide, high int64
		want             int64
	}{
		{d, 15, 1300, 120, 4},
		{d, 15, 120, 700, 2},
		{d, 15, 700, 120, 2},
		// Just one strip, and none: the glue needs paper too.
		{d, 15, 615, 50, 1},
		{d, 15, 614, 50, 0},
		{d, 15, 615, 49, 0},
		{d, 15, 50, 615, 1},
		{d, 15, 50, 614, 0},
		{d, 15, 49, 615, 0},
		{d, 0, 600, 50, 1},
		{d, 1, 600, 50, 0},
		{d, 100, 700, 50, 1},
		{d, 100, 699, 50, 0},
		{d, 15, 1229, 99, 1},
		{d, 15, 1230, 100, 4},
		{d, 15, 1, 1, 0},
		{d, 15, 5000, 1, 0},
		{d, 15, 1, 5000, 0},
		{d, 15, 614, 614, 0},
		// As many along the width as along the height, and more along one of them.
		{d, 15, 615, 615, 12},
		{d, 15, 5000, 5000, 800},
		{d, 15, 630, 640, 12},
		{d, 15, 650, 649, 13},
		{d, 15, 649, 650, 13},
		{d, 15, 1230, 615, 24},
		{d, 15, 615, 1230, 24},
		{d, 15, 1229, 615, 24},
		{d, 15, 615, 5000, 100},
		{d, 15, 614, 5000, 96},
		{drumOf(600, 101, 12), 15, 615, 50, 1},
		{drumOf(600, 102, 12), 15, 615, 50, 0},
		{drumOf(100, 20, 1), 0, 5000, 5000, 25000},
		{drumOf(100, 20, 1), 0, 100, 10, 1},
		{drumOf(100, 21, 1), 0, 10, 100, 1},
		{drumOf(4900, 1000, 48), 100, 5000, 5000, 10},
		{drumOf(4901, 1000, 48), 100, 5000, 5000, 0},
		{drumOf(5000, 1000, 48), 0, 5000, 500, 1},
		{drumOf(5001, 1000, 48), 0, 5000, 5000, 0},
		{drumOf(10000, 1000, 48), 0, 5000, 5000, 0},
	}
	for _, c := range cases {
		if got, code := impl.StripsFrom(c.d, c.glue, c.wide, c.high); got != c.want || code != impl.OK {
			t.Errorf("StripsFrom(%v, %d, %d, %d) = %d, %d, want %d", c.d, c.glue, c.wide, c.high, got, code, c.want)
		}
	}
}

func TestStripsFromAllPapers(t *testing.T) {
	sizes := []int64{1, 9, 10, 49, 50, 99, 100, 101, 120, 499, 500, 600, 615, 700, 1000, 1230, 2999, 4999, 5000}
	for _, d := range sampleDrums() {
		for _, glue := range []int64{0, 1, 15, 99, 100} {
			for _, wide := range sizes {
				for _, high := range sizes {
					want := wantStrips(d, glue, wide, high)
					got, code := impl.StripsFrom(d, glue, wide, high)
					turned, _ := impl.StripsFrom(d, glue, high, wide)
					if got != want || code != impl.OK || turned != want {
						t.Fatalf("StripsFrom(%v, %d, %d, %d) = %d, %d, and of the turned paper %d, want %d", d, glue, wide, high, got, code, turned, want)
					}
				}
			}
		}
	}
}

func TestStripsFromErrors(t *testing.T) {
	eachDrumSize(func(d drum, n int64) {
		isGlue, isPaper := n >= 0 && n <= 100, n >= 1 && n <= 5000
		for _, c := range []struct {
			inside           bool
			glue, wide, high int64
		}{
			{isGlue, n, 1300, 120}, {isPaper, 15, n, 120}, {isPaper, 15, 1300, n}, {isGlue && isPaper, n, n, n}, {false, n, 0, 120}, {false, 101, n, n}, {false, 15, n, 5001}, {false, 15, 5001, n},
		} {
			got, code := impl.StripsFrom(d, c.glue, c.wide, c.high)
			if c.inside != (code == impl.OK) || !c.inside && (got != 0 || code != impl.ErrRange) {
				t.Errorf("StripsFrom(%v, %d, %d, %d) = %d, %d", d, c.glue, c.wide, c.high, got, code)
			}
		}
	})
}

func TestPiecesFor(t *testing.T) {
	cases := []struct {
		round, glue, long int64
		want, code        int64
	}{
		// The circumference is covered exactly, or all but one.
		{600, 10, 210, 3, impl.OK},
		{600, 10, 209, 4, impl.OK},
		{600, 10, 211, 3, impl.OK},
		{600, 10, 610, 1, impl.OK},
		{600, 10, 609, 2, impl.OK},
		{600, 10, 310, 2, impl.OK},
		{600, 10, 309, 3, impl.OK},
		{601, 10, 210, 4, impl.OK},
		{599, 10, 210, 3, impl.OK},
		{600, 0, 600, 1, impl.OK},
		{600, 0, 599, 2, impl.OK},
		{600, 0, 601, 1, impl.OK},
		{600, 0, 1, 600, impl.OK},
		{600, 0, 10000, 1, impl.OK},
		// Pieces that are just as long as the glue, and longer or shorter by one.
		{600, 10, 10, 0, impl.ErrFull},
		{600, 10, 11, 600, impl.OK},
		{600, 10, 12, 300, impl.OK},
		{600, 10, 9, 0, impl.ErrFull},
		{600, 10, 1, 0, impl.ErrFull},
		{600, 1, 1, 0, impl.ErrFull},
		{600, 1, 2, 600, impl.OK},
		{600, 100, 100, 0, impl.ErrFull},
		{600, 100, 101, 600, impl.OK},
		{100, 100, 200, 1, impl.OK},
		{100, 100, 199, 2, impl.OK},
		{100, 0, 1, 100, impl.OK},
		{10000, 0, 1, 10000, impl.OK},
		{10000, 100, 101, 10000, impl.OK},
		{10000, 0, 10000, 1, impl.OK},
		{10000, 1, 10000, 2, impl.OK},
		{10000, 100, 10000, 2, impl.OK},
		{9900, 100, 10000, 1, impl.OK},
		{9901, 100, 10000, 2, impl.OK},
		// A range is checked first, even where the pieces would not be longer than the glue.
		{600, 101, 101, 0, impl.ErrRange},
		{600, 101, 50, 0, impl.ErrRange},
		{600, 10, 0, 0, impl.ErrRange},
		{600, 0, 0, 0, impl.ErrRange},
		{600, -1, 10, 0, impl.ErrRange},
		{600, 10, 10001, 0, impl.ErrRange},
		{600, 10, -1, 0, impl.ErrRange},
		{600, math.MinInt64, math.MaxInt64, 0, impl.ErrRange},
		{600, math.MaxInt64, math.MinInt64, 0, impl.ErrRange},
	}
	for _, c := range cases {
		if got, code := impl.PiecesFor(drumOf(c.round, 100, 12), c.glue, c.long); got != c.want || code != c.code {
			t.Errorf("PiecesFor(%d, %d, %d) = %d, %d, want %d, %d", c.round, c.glue, c.long, got, code, c.want, c.code)
		}
	}
}

// TestPiecesCoverDrum checks promise 7: pieces that are told cover a drum, and one less does not.
func TestPiecesCoverDrum(t *testing.T) {
	for _, round := range append([]int64{210, 400, 9900, 9901}, rounds...) {
		for _, glue := range []int64{0, 1, 2, 7, 10, 15, 50, 99, 100} {
			for long := int64(1); long <= 10000; long++ {
				pieces, code := impl.PiecesFor(drumOf(round, 20, 1), glue, long)
				if long <= glue {
					if pieces != 0 || code != impl.ErrFull {
						t.Fatalf("PiecesFor(%d, %d, %d) = %d, %d, want ErrFull", round, glue, long, pieces, code)
					}
					continue
				}
				if code != impl.OK || pieces < 1 || pieces*(long-glue) < round || (pieces-1)*(long-glue) >= round {
					t.Fatalf("PiecesFor(%d, %d, %d) = %d, %d", round, glue, long, pieces, code)
				}
			}
		}
	}
}

// TestWholeStripIsOnePiece checks that a strip covers its drum alone, and a strip that is shorter by one does not.
func TestWholeStripIsOnePiece(t *testing.T) {
	for _, d := range sampleDrums() {
		for _, glue := range []int64{0, 1, 15, 100} {
			long, _, _ := impl.StripFor(d, glue)
			if long > 10000 {
				continue
			}
			one, code := impl.PiecesFor(d, glue, long)
			two, codeShort := impl.PiecesFor(d, glue, long-1)
			if one != 1 || code != impl.OK || two != 2 || codeShort != impl.OK {
				t.Errorf("%v is covered by %d pieces of the length %d, %d, and by %d shorter ones, %d", d, one, long, code, two, codeShort)
			}
		}
	}
}

func TestPiecesForErrors(t *testing.T) {
	eachDrumSize(func(d drum, n int64) {
		isGlue, isLong := n >= 0 && n <= 100, n >= 1 && n <= 10000
		for _, c := range []struct {
			inside     bool
			glue, long int64
		}{
			{isGlue, n, 300}, {isGlue, n, 1}, {isLong, 10, n}, {isLong, 100, n}, {isGlue && isLong, n, n}, {false, n, 10001}, {false, n, 0}, {false, 101, n}, {false, -1, n},
		} {
			got, code := impl.PiecesFor(d, c.glue, c.long)
			if c.inside == (code == impl.ErrRange) || code != impl.OK && got != 0 {
				t.Errorf("PiecesFor(%v, %d, %d) = %d, %d", d, c.glue, c.long, got, code)
			}
		}
	})
}

// wantDistance is the least distance to a place, which is once more there before the beginning of the drum, and behind its end.
func wantDistance(round, from int64, places []int64) int64 {
	least := round
	for _, place := range places {
		for _, shown := range ints(place-round, place, place+round) {
			least = min(least, max(from-shown, shown-from))
		}
	}
	return least
}

func wantWorst(d drum, pictures int64) (int64, int64) {
	worst, greatest := int64(0), int64(-1)
	places := wantPlaces(d.Round, pictures)
	for slit, from := range wantPlaces(d.Round, d.Slits) {
		if distance := wantDistance(d.Round, from, places); distance > greatest {
			worst, greatest = int64(slit), distance
		}
	}
	return worst, greatest
}

func TestWorstSlit(t *testing.T) {
	cases := []struct {
		d              drum
		pictures       int64
		slit, distance int64
	}{
		{drumOf(600, 100, 4), 3, 2, 100},
		{drumOf(600, 100, 12), 12, 0, 0},
		{drumOf(600, 100, 12), 24, 0, 0},
		{drumOf(600, 100, 1), 1, 0, 0},
		{drumOf(600, 100, 1), 48, 0, 0},
		{drumOf(600, 100, 2), 1, 1, 300},
		{drumOf(600, 100, 12), 1, 6, 300},
		{drumOf(600, 100, 48), 1, 24, 300},
		{drumOf(10000, 100, 48), 1, 24, 5000},
		// Several slits are equally far.
		{drumOf(600, 100, 3), 1, 1, 200},
		{drumOf(600, 100, 12), 6, 1, 50},
		{drumOf(600, 100, 4), 2, 1, 150},
		{drumOf(600, 100, 5), 4, 2, 60},
		{drumOf(600, 100, 7), 1, 3, 257},
		// The nearest place of the last slits is the first one, across the beginning of the drum.
		{drumOf(600, 100, 7), 2, 2, 129},
		{drumOf(600, 100, 6), 5, 3, 60},
		// An odd circumference has no place that is just opposite.
		{drumOf(101, 20, 2), 1, 1, 50},
		{drumOf(103, 20, 2), 1, 1, 51},
		// Rounded places are compared: all of them are 12 or 13 apart.
		{drumOf(100, 20, 8), 4, 1, 12},
		{drumOf(100, 20, 8), 2, 2, 25},
	}
	for _, c := range cases {
		wantSlit, wantDistance := wantWorst(c.d, c.pictures)
		if c.slit != wantSlit || c.distance != wantDistance {
			t.Errorf("the case %v disagrees with %d, %d", c, wantSlit, wantDistance)
		}
		if slit, distance, code := impl.WorstSlit(c.d, c.pictures); slit != c.slit || distance != c.distance || code != impl.OK {
			t.Errorf("WorstSlit(%v, %d) = %d, %d, %d, want %d, %d", c.d, c.pictures, slit, distance, code, c.slit, c.distance)
		}
	}
}

func TestWorstSlitOfAllCounts(t *testing.T) {
	for _, round := range rounds {
		for slits := int64(1); slits <= 48; slits++ {
			for pictures := int64(1); pictures <= 48; pictures++ {
				d := drumOf(round, 20+slits, slits)
				wantSlit, wantDistance := wantWorst(d, pictures)
				slit, distance, code := impl.WorstSlit(d, pictures)
				if slit != wantSlit || distance != wantDistance || code != impl.OK {
					t.Fatalf("WorstSlit(%v, %d) = %d, %d, %d, want %d, %d", d, pictures, slit, distance, code, wantSlit, wantDistance)
				}
			}
		}
	}
}

func TestWorstSlitErrors(t *testing.T) {
	eachDrumSize(func(d drum, n int64) {
		slit, distance, code := impl.WorstSlit(d, n)
		if onDisc(n) != (code == impl.OK) || !onDisc(n) && (slit != 0 || distance != 0 || code != impl.ErrRange) {
			t.Errorf("WorstSlit(%v, %d) = %d, %d, %d", d, n, slit, distance, code)
		}
	})
}

// TestWorstSlitLeavesNothingBehind checks that nothing goes on when calls have returned.
func TestWorstSlitLeavesNothingBehind(t *testing.T) {
	before := runtime.NumGoroutine()
	for pictures := int64(-10); pictures <= 60; pictures++ {
		for slits := int64(-10); slits <= 60; slits++ {
			impl.WorstSlit(drumOf(600, 100, slits), pictures)
		}
	}
	for range 100 {
		if runtime.NumGoroutine() <= before {
			return
		}
		time.Sleep(10 * time.Millisecond)
	}
	t.Errorf("%d goroutines were running before the calls, and %d are behind them", before, runtime.NumGoroutine())
}

// TestWorstSlitsAtOnce checks that calls at the same time do not disturb each other.
func TestWorstSlitsAtOnce(t *testing.T) {
	var calls sync.WaitGroup
	for slits := int64(1); slits <= 48; slits++ {
		calls.Go(func() {
			for pictures := int64(1); pictures <= 48; pictures++ {
				d := drumOf(997, 100, slits)
				wantSlit, wantDistance := wantWorst(d, pictures)
				if slit, distance, code := impl.WorstSlit(d, pictures); slit != wantSlit || distance != wantDistance || code != impl.OK {
					t.Errorf("WorstSlit(%v, %d) = %d, %d, %d, want %d, %d", d, pictures, slit, distance, code, wantSlit, wantDistance)
				}
			}
		})
	}
	calls.Wait()
}

func TestDrumText(t *testing.T) {
	cases := map[drum]string{
		drumOf(600, 100, 12):    "600x100/12",
		drumOf(100, 20, 1):      "100x20/1",
		drumOf(10000, 1000, 48): "10000x1000/48",
		drumOf(101, 21, 10):     "101x21/10",
		drumOf(9999, 999, 9):    "9999x999/9",
	}
	for d, want := range cases {
		if got := impl.DrumText(d); got != want {
			t.Errorf("DrumText(%v) = %q, want %q", d, got, want)
		}
		if got, ok := impl.ReadDrum(want); got != d || !ok {
			t.Errorf("ReadDrum(%q) = %v, %v, want %v", want, got, ok, d)
		}
	}
	for _, d := range invalidDrums() {
		if got := impl.DrumText(d); got != "" {
			t.Errorf("DrumText(%v) = %q, want none", d, got)
		}
	}
}

// TestDrumsAreReadBack checks drums, invalid ones too, with each number of one field.
func TestDrumsAreReadBack(t *testing.T) {
	check := func(d drum) {
		text := fmt.Sprintf("%dx%d/%d", d.Round, d.High, d.Slits)
		want, wantText := drum{}, ""
		valid := d.Round >= 100 && d.Round <= 10000 && d.High >= 20 && d.High <= 1000 && d.Slits >= 1 && d.Slits <= 48
		if valid {
			want, wantText = d, text
		}
		if got, ok := impl.ReadDrum(text); got != want || ok != valid {
			t.Errorf("ReadDrum(%q) = %v, %v", text, got, ok)
		}
		if got := impl.DrumText(d); got != wantText {
			t.Errorf("DrumText(%v) = %q, want %q", d, got, wantText)
		}
	}
	for n := int64(-3); n <= 10050; n++ {
		check(drumOf(n, 100, 12))
		check(drumOf(600, n, 12))
		check(drumOf(600, 100, n))
	}
	for _, d := range append(sampleDrums(), invalidDrums()...) {
		check(d)
	}
}

// noDrumTexts are the text of a drum but for one thing each.
var noDrumTexts = []string{
	// Parts that are missing or too many.
	"", "x", "/", "x/", "/x", "600", "600x", "600x100", "600x100/", "x100/12", "600x/12", "x/12", "600/12", "100/12", "600x12", "/12", "600100/12", "600x10012",
	"600x100/12/", "600x100/12/1", "600x100x12", "600x100x12/1", "600xx100/12", "600x100//12", "600x100/12x", "x600x100/12", "600x100/1x2", "600/100x12", "12/100x600", "600x100/12,600x100/12", "600/1x100/12",
	// Leading zeros.
	"0600x100/12", "600x0100/12", "600x100/012", "00600x100/12", "600x020/12", "600x100/01", "600x100/00", "0x0/0",
	// Signs.
	"+600x100/12", "600x+100/12", "600x100/+12", "-600x100/12", "600x-100/12", "600x100/-12", "-600x-100/-12", "600x100/-0", "-0x100/12", "600-x100/12",
	// Blanks.
	" ", " 600x100/12", "600x100/12 ", "600 x100/12", "600x 100/12", "600x100 /12", "600x100/ 12", "6 00x100/12", "\t600x100/12", "600x100/12\n", "600x100/12\r", "600x100/12\x00", "\x00600x100/12",
	// Other letters and digits.
	"600X100/12", "600*100/12", "600×100/12", "600х100/12", "600x100:12", "600x100\\12", "600x100|12", "600x100∕12", "600x100／12", "a", "axb/c", "600x100/c", "600xb/12", "ax100/12", "600.0x100/12", "600x100.5/12", "6e2x100/12",
	"600x1e2/12", "0x258x100/12", "600x0x64/12", "6_00x100/12", "６００x100/12", "600x100/１２", "600x١٠٠/12", "\xff", "600x100/12\xff", "600\xffx100/12",
	// Numbers outside the limits.
	"99x100/12", "10001x100/12", "600x19/12", "600x1001/12", "600x100/0", "600x100/49", "0x100/12", "600x0/12", "1000000x100/12", "600x1000000/12", "600x100/1000000", "1x1/1",
	"9223372036854775807x100/12", "600x9223372036854775807/12", "600x100/9223372036854775807", "9223372036854775808x100/12", "-9223372036854775808x100/12", "600x100/-9223372036854775808",
	"18446744073709552216x100/12", "600x18446744073709551716/12", "600x100/18446744073709551628", "4294967896x100/12", "600x4294967396/12", "600x100/4294967308", "999999999999999999x100/12", "1000000000000000000x100/12",
}

func TestReadDrum(t *testing.T) {
	long := []string{strings.Repeat("x", 5000), "600x100/" + strings.Repeat("1", 5000), strings.Repeat("600x100/12", 500), strings.Repeat("0", 5000) + "600x100/12"}
	for _, s := range slices.Concat(noDrumTexts, long, oddTexts) {
		if got, ok := impl.ReadDrum(s); ok || got != (drum{}) {
			t.Errorf("ReadDrum(%.40q) = %v, %v, want none", s, got, ok)
		}
	}
}

// TestReadDrumOfAllBytes puts each byte at and before each place of texts, and takes each byte away.
func TestReadDrumOfAllBytes(t *testing.T) {
	check := func(s string) {
		d, ok := impl.ReadDrum(s)
		if ok && (impl.DrumText(d) != s || !impl.ValidDrum(d)) || !ok && d != (drum{}) {
			t.Errorf("ReadDrum(%q) = %v, %v", s, d, ok)
		}
		if ok != isDrumText(s) {
			t.Errorf("ReadDrum(%q) = %v, %v, want %v", s, d, ok, !ok)
		}
	}
	for _, text := range []string{"600x100/12", "100x20/1", "10000x1000/48"} {
		for k := range len(text) + 1 {
			for b := range 256 {
				check(text[:k] + string([]byte{byte(b)}) + text[k:])
				if k < len(text) {
					check(text[:k] + string([]byte{byte(b)}) + text[k+1:])
				}
			}
			if k < len(text) {
				check(text[:k] + text[k+1:])
			}
			check(text[:k])
			check(text[k:])
		}
	}
}

// isDrumText reports whether the numbers that are scanned from a text make just this text, and are within the limits.
func isDrumText(s string) bool {
	var round, high, slits int64
	if n, _ := fmt.Sscanf(s, "%dx%d/%d", &round, &high, &slits); n != 3 {
		return false
	}
	return fmt.Sprintf("%dx%d/%d", round, high, slits) == s && round >= 100 && round <= 10000 && high >= 20 && high <= 1000 && slits >= 1 && slits <= 48
}

// TestInvalidDrumsComeFirst checks invalid drums with arguments inside and outside of their ranges, and such as leave nothing.
func TestInvalidDrumsComeFirst(t *testing.T) {
	for _, d := range invalidDrums() {
		slits, slitsCode := impl.SlitPlaces(d)
		if len(slits) != 0 || slitsCode != impl.ErrInvalid {
			t.Errorf("SlitPlaces(%v) = %v, %d, want ErrInvalid", d, slits, slitsCode)
		}
		for _, n := range ints(math.MinInt64, -1, 0, 1, 10, 48, 49, 100, 101, 600, 10000, 10001, math.MaxInt64) {
			long, high, one := impl.StripFor(d, n)
			places, two := impl.PlacesOf(d, n)
			slit, distance, three := impl.WorstSlit(d, n)
			if long != 0 || high != 0 || len(places) != 0 || slit != 0 || distance != 0 {
				t.Errorf("%v, %d: %d, %d, %v, %d, %d", d, n, long, high, places, slit, distance)
			}
			codes := ints(one, two, three)
			for _, m := range ints(math.MinInt64, 0, 10, 101, 5001, 10001, math.MaxInt64) {
				widest, four := impl.WidestPicture(d, n, m)
				strips, five := impl.StripsFrom(d, m, n, n)
				pieces, six := impl.PiecesFor(d, n, m)
				if widest != 0 || strips != 0 || pieces != 0 {
					t.Errorf("%v, %d, %d: %d, %d, %d", d, n, m, widest, strips, pieces)
				}
				codes = append(codes, four, five, six)
			}
			if slices.ContainsFunc(codes, func(code int64) bool { return code != impl.ErrInvalid }) {
				t.Errorf("%v, %d: the codes are %v, want ErrInvalid", d, n, codes)
			}
		}
	}
}

// TestPlacesAreNew checks that no two results share memory.
func TestPlacesAreNew(t *testing.T) {
	for _, d := range sampleDrums() {
		results := []func() []int64{
			func() []int64 { list, _ := impl.SlitPlaces(d); return list },
			func() []int64 { list, _ := impl.PlacesOf(d, d.Slits); return list },
			func() []int64 { list, _ := impl.PlacesOf(d, 1); return list },
			func() []int64 { list, _ := impl.PlacesOf(d, 48); return list },
		}
		slit, distance, _ := impl.WorstSlit(d, 7)
		for i, result := range results {
			first, second := result(), result()
			want := slices.Clone(second)
			spoilNumbers(first)
			if len(want) == 0 || !slices.Equal(second, want) || !slices.Equal(result(), want) {
				t.Errorf("the function %d of %v shares memory: %v, want %v", i, d, second, want)
			}
		}
		if again, distanceAgain, _ := impl.WorstSlit(d, 7); again != slit || distanceAgain != distance {
			t.Errorf("WorstSlit(%v, 7) = %d, %d, and then %d, %d", d, slit, distance, again, distanceAgain)
		}
	}
}

// TestDrumsOfAllArguments checks that odd arguments are answered, twice in the same way, and with nothing beside an error.
func TestDrumsOfAllArguments(t *testing.T) {
	for i, d := range append(sampleDrums(), invalidDrums()...) {
		checkTwice(t, "SlitPlaces", func() ([]int64, int64) { return impl.SlitPlaces(d) })
		for k, n := range drumSizes {
			m := drumSizes[(7*i+5*k)%len(drumSizes)]
			checkTwice(t, "PlacesOf", func() ([]int64, int64) { return impl.PlacesOf(d, n) })
			checkNumbersTwice(t, "StripFor", func() (int64, int64, int64) { return impl.StripFor(d, n) })
			checkNumbersTwice(t, "WorstSlit", func() (int64, int64, int64) { return impl.WorstSlit(d, n) })
			one := func(n, code int64) (int64, int64, int64) { return n, 0, code }
			checkNumbersTwice(t, "WidestPicture", func() (int64, int64, int64) { return one(impl.WidestPicture(d, n, m)) })
			checkNumbersTwice(t, "StripsFrom", func() (int64, int64, int64) { return one(impl.StripsFrom(d, 100, n, m)) })
			checkNumbersTwice(t, "StripsFrom", func() (int64, int64, int64) { return one(impl.StripsFrom(d, n, m, 5000)) })
			checkNumbersTwice(t, "PiecesFor", func() (int64, int64, int64) { return one(impl.PiecesFor(d, n, m)) })
		}
	}
	for _, round := range extremes {
		for _, high := range extremes {
			for _, slits := range extremes {
				d := drumOf(round, high, slits)
				if text := impl.DrumText(d); impl.ValidDrum(d) != (text != "") || text != impl.DrumText(d) {
					t.Errorf("DrumText(%v) = %q", d, text)
				}
			}
		}
	}
	for _, s := range append(noDrumTexts, oddTexts...) {
		first, ok := impl.ReadDrum(s)
		if again, okAgain := impl.ReadDrum(s); first != again || ok != okAgain {
			t.Errorf("ReadDrum(%.40q) = %v, %v, and then %v, %v", s, first, ok, again, okAgain)
		}
	}
}

func TestLimitsOfDrums(t *testing.T) {
	if impl.MaxRound != 10000 || impl.MaxHigh != 1000 || impl.MaxGlue != 100 || impl.MaxPaperW != 5000 {
		t.Errorf("the limits are %d, %d, %d and %d", impl.MaxRound, impl.MaxHigh, impl.MaxGlue, impl.MaxPaperW)
	}
}

func TestExampleOfDrums(t *testing.T) {
	d, ok := impl.ReadDrum("600x100/12")
	if got, code := impl.WidestPicture(d, 12, 10); got != 40 || code != impl.OK || !ok {
		t.Errorf("for the drum 600x100/12, 12 pictures with gaps of 10 may be %d wide, %d, %v", got, code, ok)
	}
}
