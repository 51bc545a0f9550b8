package tests

import (
	"math"
	"math/big"
	"slices"
	"strings"
	"testing"

	"loop.example/g01063/impl"
)

type scene = impl.Scene

// sceneTimes are Ticks at the limits, around half of the longest page and the whole of it, and between them.
var sceneTimes = []int64{1, 2, 3, 4, 5, 6, 7, 11, 12, 24, 25, 49, 50, 51, 60, 73, 96, 99, 100, 101, 149, 150, 151, 199, 200, 360, 499, 500, 720, 901, 996, 997, 998, 999, 1000}

// bookNumbers are numbers at, and just beyond, every limit of the chapter, and at the ends of integers.
var bookNumbers = append([]int64{
	-100, -60, 12, 13, 59, 60, 61, 99, 100, 101, 5999, 6000, 6001, 1 << 32, 1<<32 + 1, 1<<32 + 60, 1<<32 + 100, math.MinInt32, math.MaxUint32,
}, extremes...)

// scenesFor returns scenes with the poses a, b, c and so on, for so many ticks each.
func scenesFor(ticks ...int64) []scene {
	var list []scene
	for i, n := range ticks {
		list = append(list, scene{Pose: alphabet[i : i+1], Ticks: n})
	}
	return list
}

// evenScenes returns many scenes of so many ticks each.
func evenScenes(many int, ticks int64) []scene {
	return scenesFor(slices.Repeat(ints(ticks), many)...)
}

// sampleScenes are valid.
func sampleScenes() [][]scene {
	list := [][]scene{
		{{Pose: "z", Ticks: 1000}}, {{Pose: "a", Ticks: 6}, {Pose: "b", Ticks: 4}},
		{{Pose: "a", Ticks: 3}, {Pose: "b", Ticks: 5}, {Pose: "a", Ticks: 3}}, {{Pose: "z", Ticks: 1}, {Pose: "a", Ticks: 1000}, {Pose: "z", Ticks: 1}},
	}
	for i, n := range sceneTimes {
		list = append(list, scenesFor(n), scenesFor(n, 1), scenesFor(1, n), scenesFor(n, n), scenesFor(n, sceneTimes[(5*i+3)%len(sceneTimes)], sceneTimes[(11*i+7)%len(sceneTimes)]))
	}
	for many := 1; many <= 12; many++ {
		for _, n := range ints(1, 2, 5, 6, 9, 40, 49, 50, 51, 83, 84, 100, 500, 549, 550, 1000) {
			list = append(list, evenScenes(many, n))
		}
		for k := range int64(8) {
			var ticks []int64
			for i := range int64(many) {
				ticks = append(ticks, (k*k*37+i*i*(11+k)+i*53)%[]int64{7, 20, 60, 130, 300, 480, 700, 1000}[k]+1)
			}
			list = append(list, scenesFor(ticks...))
		}
	}
	return list
}

// invalidScenes are invalid for one reason each, but for the last ones.
func invalidScenes() [][]scene {
	list := [][]scene{nil, {}, evenScenes(13, 1), evenScenes(13, 1000), evenScenes(24, 5), slices.Repeat(scenesFor(1, 2), 500)}
	for _, n := range bookNumbers {
		if n < 1 || n > 1000 {
			list = append(list, scenesFor(n), scenesFor(n, 4), scenesFor(4, n), scenesFor(4, n, 4), scenesFor(slices.Concat(flat(11, 5), ints(n))...))
		}
	}
	for _, pose := range []string{"", "ab", "aa", "abc", "A", "Z", "`", "{", "1", "-", " ", " a", "a ", "\n", "a\n", "\x00", "\x80", "\xe1", "\xff", "a\xff", "é", "ａ", "а", "\ufffd", "\U00010061", strings.Repeat("a", 5000)} {
		list = append(list, []scene{{Pose: pose, Ticks: 4}}, []scene{{Pose: pose, Ticks: 4}, {Pose: "b", Ticks: 4}}, []scene{{Pose: "b", Ticks: 4}, {Pose: pose, Ticks: 4}})
	}
	for _, many := range []int{2, 3, 12} {
		for k := range many - 1 {
			twice := evenScenes(many, 5)
			twice[k+1].Pose = twice[k].Pose
			list = append(list, twice)
			other := slices.Clone(twice)
			other[k].Ticks = 7
			list = append(list, other)
		}
	}
	return append(list, make([]scene, 1), make([]scene, 13), []scene{{Pose: "", Ticks: math.MinInt64}, {Pose: "", Ticks: math.MaxInt64}}, slices.Repeat([]scene{{Pose: "a", Ticks: math.MaxInt64}}, 100))
}

// samplePages are valid.
func samplePages() []string {
	list := append(textsOf("ab", 7), textsOf("abc", 4)...)
	list = append(list, strings.Repeat("a", 60), strings.Repeat("z", 59), strings.Repeat("ab", 30), strings.Repeat("ab", 6), strings.Repeat("ab", 6)+"a", alphabet[:12], alphabet[:13], alphabet)
	for k := 1; k < 60; k++ {
		list = append(list, strings.Repeat("a", k)+strings.Repeat("b", 60-k), strings.Repeat("q", k))
	}
	for _, many := range []int{1, 4, 5, 9, 10, 11} {
		whole := ""
		for k := range 12 {
			whole += strings.Repeat(alphabet[k:k+1], many)
		}
		list = append(list, whole[:min(60, 12*many)], whole[:many], whole[many/2:min(len(whole), 50)])
	}
	return list
}

// invalidPages are invalid for one reason each.
func invalidPages() []string {
	list := []string{
		"", strings.Repeat("a", 61), strings.Repeat("ab", 31), strings.Repeat("a", 120), strings.Repeat("ab", 5000), strings.Repeat("a", 60) + "\n",
		"A", "Z", "aBa", "`", "{", "a`b", "ab{", "1", "ab1", "-", "a-b", "_", "a.b", " ", " a", "a ", "a b", "ab\n", "\n", "\tab", "\r", "\x00", "a\x00", "\x00a",
		"\x7f", "\x80", "\xe1", "\xff", "a\xff", "\xffa", "a\xe1b", "\xc3\xa1", "á", "aá", "é", "ß", "ａ", "ab\u0301", "а", "日本", "\ufffd", "\u0161", strings.Repeat("é", 30), strings.Repeat("é", 60), "\U00010061",
	}
	for _, bad := range []string{" ", "A", "{", "`", "\xe1"} {
		for k := range 60 {
			list = append(list, strings.Repeat("a", k)+bad+strings.Repeat("a", 59-k))
		}
	}
	return list
}

// seenTicks returns the pose at each tick of a book.
func seenTicks(pages string, each int64) string {
	seen := ""
	for k := range pages {
		seen += strings.Repeat(pages[k:k+1], int(each))
	}
	return seen
}

// wantScenes counts the scenes of a book tick by tick.
func wantScenes(pages string, each int64) ([]scene, int64) {
	var list []scene
	seen := seenTicks(pages, each)
	for tick := range seen {
		if tick == 0 || seen[tick] != seen[tick-1] {
			list = append(list, scene{Pose: seen[tick : tick+1]})
		}
		list[len(list)-1].Ticks++
	}
	if len(list) > 12 || slices.ContainsFunc(list, func(s scene) bool { return s.Ticks > 1000 }) {
		return nil, impl.ErrFull
	}
	return list, impl.OK
}

// wantCount returns how many pages a scene has.
func wantCount(ticks, each int64) int64 { return max(1, nearest(big.NewRat(ticks, each))) }

// wantBook returns the pages for scenes, and their error.
func wantBook(list []scene, each int64) (string, int64, int64) {
	pages, wrong := "", int64(0)
	for _, s := range list {
		count := wantCount(s.Ticks, each)
		pages += strings.Repeat(s.Pose, int(count))
		wrong += max(count*each-s.Ticks, s.Ticks-count*each)
	}
	if len(pages) > 60 {
		return "", 0, impl.ErrFull
	}
	return pages, wrong, impl.OK
}

func TestValidScenes(t *testing.T) {
	for _, list := range sampleScenes() {
		if !impl.ValidScenes(list) {
			t.Errorf("ValidScenes(%v) = false", list)
		}
	}
	for _, list := range invalidScenes() {
		if impl.ValidScenes(list) {
			t.Errorf("ValidScenes(%v) = true", list)
		}
	}
	for many := range 24 {
		if got := impl.ValidScenes(evenScenes(many, 5)); got != (many >= 1 && many <= 12) {
			t.Errorf("ValidScenes of %d scenes = %v", many, got)
		}
	}
	for n := int64(-5); n <= 1100; n++ {
		want := n >= 1 && n <= 1000
		if got := [2]bool{impl.ValidScenes(scenesFor(n)), impl.ValidScenes(scenesFor(5, 5, n))}; got != [2]bool{want, want} {
			t.Errorf("ValidScenes of scenes with %d ticks = %v, want %v", n, got, want)
		}
	}
}

// TestValidScenesOfAllPoses checks each byte, and each pair of poses behind one another and apart.
func TestValidScenesOfAllPoses(t *testing.T) {
	for b := range 256 {
		pose := string([]byte{byte(b)})
		want := b >= 'a' && b <= 'z'
		if got := impl.ValidScenes([]scene{{Pose: pose, Ticks: 1}}); got != want {
			t.Errorf("ValidScenes of the pose %q = %v", pose, got)
		}
		if impl.ValidScenes([]scene{{Pose: pose + "a", Ticks: 1}}) || impl.ValidScenes([]scene{{Pose: "a" + pose, Ticks: 1}}) {
			t.Errorf("ValidScenes of two letters, a and %q = true", pose)
		}
	}
	for a := 'a'; a <= 'z'; a++ {
		for b := 'a'; b <= 'z'; b++ {
			one, two := scene{Pose: string(a), Ticks: 1}, scene{Pose: string(b), Ticks: 2}
			got := [3]bool{impl.ValidScenes([]scene{one, two}), impl.ValidScenes([]scene{one, two, one}), impl.ValidScenes([]scene{two, one, one})}
			if got != [3]bool{a != b, a != b, false} {
				t.Errorf("ValidScenes of the poses %c and %c = %v", a, b, got)
			}
		}
	}
}

func TestSameScenes(t *testing.T) {
	a, b := scene{Pose: "a", Ticks: 6}, scene{Pose: "b", Ticks: 4}
	cases := []struct {
		a, b []scene
		want bool
	}{
		{nil, nil, true}, {nil, []scene{}, true}, {[]scene{}, nil, true}, {[]scene{}, []scene{}, true},
		{[]scene{a, b}, []scene{a, b}, true}, {[]scene{a, b}, []scene{b, a}, false}, {[]scene{a, b}, []scene{a}, false}, {[]scene{a}, []scene{a, b}, false}, {nil, []scene{a}, false}, {[]scene{a}, []scene{}, false},
		{[]scene{a}, []scene{{Pose: "b", Ticks: 6}}, false}, {[]scene{a}, []scene{{Pose: "a", Ticks: 7}}, false}, {[]scene{a, b}, []scene{a, {Pose: "b", Ticks: 5}}, false}, {[]scene{a, b}, []scene{a, {Pose: "c", Ticks: 4}}, false},
		// Lists that are not valid.
		{[]scene{a, a}, []scene{a, a}, true}, {[]scene{a, a}, []scene{a}, false}, {[]scene{{}}, []scene{{}}, true}, {[]scene{{}}, nil, false}, {[]scene{{}}, []scene{{}, {}}, false},
		{[]scene{{Pose: "A"}}, []scene{{Pose: "a"}}, false}, {[]scene{{Pose: "ab"}}, []scene{{Pose: "ab"}}, true}, {[]scene{{Pose: "\xff"}}, []scene{{Pose: "\xfe"}}, false}, {[]scene{{Pose: "a", Ticks: 0}}, []scene{{Pose: "", Ticks: 0}}, false},
		{[]scene{{Ticks: math.MinInt64}}, []scene{{Ticks: math.MinInt64}}, true}, {[]scene{{Ticks: math.MinInt64}}, []scene{{Ticks: math.MaxInt64}}, false}, {[]scene{{Ticks: 1 << 32}}, []scene{{Ticks: 0}}, false},
	}
	for _, c := range cases {
		if got := impl.SameScenes(c.a, c.b); got != c.want {
			t.Errorf("SameScenes(%v, %v) = %v", c.a, c.b, got)
		}
	}
	for _, list := range append(sampleScenes(), invalidScenes()...) {
		if !impl.SameScenes(list, slices.Clone(list)) || impl.SameScenes(list, append(slices.Clone(list), a)) || impl.SameScenes(append(slices.Clone(list), a), list) {
			t.Errorf("SameScenes of %v, itself and a longer list", list)
		}
		for i := range list {
			other, later := slices.Clone(list), slices.Clone(list)
			other[i].Pose += "q"
			later[i].Ticks++
			if impl.SameScenes(list, other) || impl.SameScenes(other, list) || impl.SameScenes(list, later) || impl.SameScenes(later, list) {
				t.Fatalf("SameScenes of %v and lists with another scene %d = true", list, i)
			}
		}
	}
}

func TestScenesOf(t *testing.T) {
	cases := []struct {
		pages string
		each  int64
		want  []scene
		code  int64
	}{
		{"aaabb", 2, scenesFor(6, 4), impl.OK},
		{"a", 1, scenesFor(1), impl.OK},
		{"z", 100, []scene{{Pose: "z", Ticks: 100}}, impl.OK},
		{"aba", 7, []scene{{Pose: "a", Ticks: 7}, {Pose: "b", Ticks: 7}, {Pose: "a", Ticks: 7}}, impl.OK},
		{"abbcccdddd", 25, scenesFor(25, 50, 75, 100), impl.OK},
		{"abba", 1, []scene{{Pose: "a", Ticks: 1}, {Pose: "b", Ticks: 2}, {Pose: "a", Ticks: 1}}, impl.OK},
		// Runs that last just as long as a scene may, and longer.
		{strings.Repeat("a", 10), 100, scenesFor(1000), impl.OK},
		{strings.Repeat("a", 11), 100, nil, impl.ErrFull},
		{strings.Repeat("a", 10), 99, scenesFor(990), impl.OK},
		{strings.Repeat("a", 11), 90, scenesFor(990), impl.OK},
		{strings.Repeat("a", 11), 91, nil, impl.ErrFull},
		{strings.Repeat("a", 40), 25, scenesFor(1000), impl.OK},
		{strings.Repeat("a", 40), 26, nil, impl.ErrFull},
		{strings.Repeat("a", 41), 25, nil, impl.ErrFull},
		{strings.Repeat("a", 60), 16, scenesFor(960), impl.OK},
		{strings.Repeat("a", 60), 17, nil, impl.ErrFull},
		{strings.Repeat("a", 60), 100, nil, impl.ErrFull},
		{strings.Repeat("a", 10) + strings.Repeat("b", 10), 100, scenesFor(1000, 1000), impl.OK},
		{strings.Repeat("a", 10) + strings.Repeat("b", 11), 100, nil, impl.ErrFull},
		{"b" + strings.Repeat("a", 11) + "b", 100, nil, impl.ErrFull},
		// As many runs as there may be scenes, and more.
		{alphabet[:12], 100, evenScenes(12, 100), impl.OK},
		{alphabet[:13], 1, nil, impl.ErrFull},
		{strings.Repeat("ab", 6), 3, slices.Repeat(scenesFor(3, 3), 6), impl.OK},
		{strings.Repeat("ab", 6) + "b", 3, append(slices.Repeat(scenesFor(3, 3), 5), scenesFor(3, 6)...), impl.OK},
		{strings.Repeat("ab", 6) + "a", 3, nil, impl.ErrFull},
		{strings.Repeat("ab", 30), 1, nil, impl.ErrFull},
		{strings.Repeat("ab", 30), 100, nil, impl.ErrFull},
		// A range is checked before.
		{strings.Repeat("ab", 30), 0, nil, impl.ErrRange},
		{strings.Repeat("a", 60), 101, nil, impl.ErrRange},
		{"aaabb", 0, nil, impl.ErrRange},
		{"aaabb", 101, nil, impl.ErrRange},
		{"aaabb", -1, nil, impl.ErrRange},
		{"", 0, nil, impl.ErrInvalid},
		{"", 2, nil, impl.ErrInvalid},
		{strings.Repeat("a", 61), 1, nil, impl.ErrInvalid},
	}
	for _, c := range cases {
		if got, code := impl.ScenesOf(c.pages, c.each); !slices.Equal(got, c.want) || code != c.code {
			t.Errorf("ScenesOf(%q, %d) = %v, %d, want %v, %d", c.pages, c.each, got, code, c.want, c.code)
		}
	}
}

func TestScenesOfAllTicks(t *testing.T) {
	for _, pages := range samplePages() {
		for each := int64(1); each <= 100; each++ {
			want, wantCode := wantScenes(pages, each)
			if got, code := impl.ScenesOf(pages, each); !slices.Equal(got, want) || code != wantCode {
				t.Fatalf("ScenesOf(%q, %d) = %v, %d, want %v, %d", pages, each, got, code, want, wantCode)
			}
		}
	}
}

func TestPageAt(t *testing.T) {
	cases := []struct {
		pages      string
		each, tick int64
		want       string
		code       int64
	}{
		{"aaabb", 2, 0, "a", impl.OK},
		{"aaabb", 2, 5, "a", impl.OK},
		{"aaabb", 2, 6, "b", impl.OK},
		{"aaabb", 2, 7, "b", impl.OK},
		{"aaabb", 2, 9, "b", impl.OK},
		{"aaabb", 2, 10, "", impl.ErrNotFound},
		{"abc", 1, 0, "a", impl.OK},
		{"abc", 1, 1, "b", impl.OK},
		{"abc", 1, 2, "c", impl.OK},
		{"abc", 1, 3, "", impl.ErrNotFound},
		{"abc", 1, 6000, "", impl.ErrNotFound},
		{"abc", 1, 6001, "", impl.ErrRange},
		{"abc", 100, 99, "a", impl.OK},
		{"abc", 100, 100, "b", impl.OK},
		{"abc", 100, 199, "b", impl.OK},
		{"abc", 100, 200, "c", impl.OK},
		{"abc", 100, 299, "c", impl.OK},
		{"abc", 100, 300, "", impl.ErrNotFound},
		{"z", 1, 0, "z", impl.OK},
		{"z", 1, 1, "", impl.ErrNotFound},
		// The longest book ends at the last tick that may be asked for.
		{strings.Repeat("a", 59) + "b", 100, 5899, "a", impl.OK},
		{strings.Repeat("a", 59) + "b", 100, 5900, "b", impl.OK},
		{strings.Repeat("a", 59) + "b", 100, 5999, "b", impl.OK},
		{strings.Repeat("a", 59) + "b", 100, 6000, "", impl.ErrNotFound},
		{strings.Repeat("a", 59) + "b", 100, 6001, "", impl.ErrRange},
		{strings.Repeat("a", 59) + "b", 99, 5940, "", impl.ErrNotFound},
		// Runs that are too many or too long for scenes are pages all the same.
		{strings.Repeat("ab", 30), 100, 5999, "b", impl.OK},
		{"abc", 1, -1, "", impl.ErrRange},
		{"abc", 0, 0, "", impl.ErrRange},
		{"abc", 101, 0, "", impl.ErrRange},
		{"abc", 0, 6000, "", impl.ErrRange},
		{"abc", 1, math.MaxInt64, "", impl.ErrRange},
		{"abc", 1, math.MinInt64, "", impl.ErrRange},
		{"abc", math.MinInt64, math.MinInt64, "", impl.ErrRange},
		{"abc", -1, math.MinInt64, "", impl.ErrRange},
		{"", 0, -1, "", impl.ErrInvalid},
		{"", 1, 0, "", impl.ErrInvalid},
		{strings.Repeat("a", 61), 1, 0, "", impl.ErrInvalid},
	}
	for _, c := range cases {
		if got, code := impl.PageAt(c.pages, c.each, c.tick); got != c.want || code != c.code {
			t.Errorf("PageAt(%q, %d, %d) = %q, %d, want %q, %d", c.pages, c.each, c.tick, got, code, c.want, c.code)
		}
	}
}

// TestPageAtAllTicks looks at a book tick by tick, to its end and behind it.
func TestPageAtAllTicks(t *testing.T) {
	for _, pages := range []string{"a", "z", "ab", "aaabb", "abcabc", alphabet, strings.Repeat("a", 59) + "b", strings.Repeat("abcde", 12)} {
		for each := int64(1); each <= 100; each++ {
			seen := seenTicks(pages, each)
			for tick := int64(0); tick <= 6000; tick++ {
				want, wantCode := "", int64(impl.ErrNotFound)
				if tick < int64(len(seen)) {
					want, wantCode = seen[tick:tick+1], impl.OK
				}
				if got, code := impl.PageAt(pages, each, tick); got != want || code != wantCode {
					t.Fatalf("PageAt(%q, %d, %d) = %q, %d, want %q, %d", pages, each, tick, got, code, want, wantCode)
				}
			}
		}
	}
}

// TestScenesAreWhatPagesShow checks that, tick by tick, the scenes of a book have the poses of its pages.
func TestScenesAreWhatPagesShow(t *testing.T) {
	for _, pages := range samplePages() {
		for _, each := range ints(1, 2, 9, 100) {
			list, code := impl.ScenesOf(pages, each)
			if code != impl.OK {
				continue
			}
			tick := int64(0)
			for _, s := range list {
				for range s.Ticks {
					if pose, code := impl.PageAt(pages, each, tick); pose != s.Pose || code != impl.OK {
						t.Fatalf("PageAt(%q, %d, %d) = %q, %d, but the scenes are %v", pages, each, tick, pose, code, list)
					}
					tick++
				}
			}
			length, _ := impl.LengthOfScenes(list)
			if _, code := impl.PageAt(pages, each, tick); code == impl.OK || length != tick {
				t.Errorf("the scenes %v of %q, %d end at the tick %d of %d", list, pages, each, tick, length)
			}
		}
	}
}

func TestExactTick(t *testing.T) {
	cases := []struct {
		list []scene
		want int64
	}{
		{scenesFor(6, 4), 2}, {scenesFor(1), 1}, {scenesFor(2), 2}, {scenesFor(99), 99}, {scenesFor(100), 100}, {scenesFor(100, 100), 100}, {scenesFor(1, 1000), 1}, {scenesFor(1000, 1), 1},
		{scenesFor(6, 10, 15), 1}, {scenesFor(6, 10, 14), 2}, {scenesFor(12, 18, 30), 6}, {scenesFor(7, 7, 7), 7}, {scenesFor(50, 75), 25}, {scenesFor(50, 100), 50}, {scenesFor(97, 970), 97},
		// A greatest common divisor that is greater than a page may take.
		{scenesFor(1000), 100}, {scenesFor(101), 1}, {scenesFor(102), 51}, {scenesFor(150), 75}, {scenesFor(196), 98}, {scenesFor(198), 99}, {scenesFor(200), 100}, {scenesFor(202), 2}, {scenesFor(210), 70}, {scenesFor(303), 3}, {scenesFor(303, 606), 3},
		{scenesFor(121), 11}, {scenesFor(500, 750), 50}, {scenesFor(997), 1}, {scenesFor(998), 2}, {scenesFor(901), 53}, {scenesFor(720, 360, 1000), 40}, {scenesFor(720, 360), 90}, {scenesFor(300, 600, 900), 100}, {scenesFor(404, 808), 4},
		{evenScenes(12, 1000), 100}, {evenScenes(12, 1), 1}, {[]scene{{Pose: "a", Ticks: 12}, {Pose: "b", Ticks: 9}, {Pose: "a", Ticks: 12}}, 3},
	}
	for _, c := range cases {
		if got, code := impl.ExactTick(c.list); got != c.want || code != impl.OK {
			t.Errorf("ExactTick(%v) = %d, %d, want %d", c.list, got, code, c.want)
		}
	}
}

// TestExactTickDividesAll tries all numbers of ticks that a page may take.
func TestExactTickDividesAll(t *testing.T) {
	check := func(list []scene) {
		want := int64(0)
		for each := int64(1); each <= 100; each++ {
			if !slices.ContainsFunc(list, func(s scene) bool { return s.Ticks%each != 0 }) {
				want = each
			}
		}
		if got, code := impl.ExactTick(list); got != want || code != impl.OK {
			t.Errorf("ExactTick(%v) = %d, %d, want %d", list, got, code, want)
		}
	}
	for n := int64(1); n <= 1000; n++ {
		check(scenesFor(n))
		check(scenesFor(n, 1000))
		check(scenesFor(840, n))
		check(scenesFor(n, 1001-n, n))
	}
	for _, list := range sampleScenes() {
		check(list)
	}
}

func TestBookFor(t *testing.T) {
	cases := []struct {
		list []scene
		each int64
		want string
		code int64
	}{
		{scenesFor(6, 4), 2, "aaabb", impl.OK},
		{scenesFor(6, 4), 1, "aaaaaabbbb", impl.OK},
		{scenesFor(6, 4), 3, "aab", impl.OK},
		{scenesFor(6, 4), 4, "aab", impl.OK},
		{scenesFor(6, 4), 5, "ab", impl.OK},
		{scenesFor(6, 4), 100, "ab", impl.OK},
		// Scenes with fewer ticks than half a page, with just as many, and with more.
		{scenesFor(1), 100, "a", impl.OK},
		{scenesFor(49), 100, "a", impl.OK},
		{scenesFor(50), 100, "a", impl.OK},
		{scenesFor(51), 100, "a", impl.OK},
		{scenesFor(1), 3, "a", impl.OK},
		{scenesFor(1), 2, "a", impl.OK},
		{scenesFor(1, 1, 1), 5, "abc", impl.OK},
		{scenesFor(2, 20, 2), 10, "abbc", impl.OK},
		{evenScenes(12, 1), 100, alphabet[:12], impl.OK},
		// Ticks that are just between two numbers of pages, and next to it.
		{scenesFor(149), 100, "a", impl.OK},
		{scenesFor(150), 100, "aa", impl.OK},
		{scenesFor(151), 100, "aa", impl.OK},
		{scenesFor(249), 100, "aa", impl.OK},
		{scenesFor(250), 100, "aaa", impl.OK},
		{scenesFor(3), 2, "aa", impl.OK},
		{scenesFor(5), 2, "aaa", impl.OK},
		{scenesFor(4), 3, "a", impl.OK},
		{scenesFor(5), 3, "aa", impl.OK},
		{scenesFor(7, 8), 5, "abb", impl.OK},
		{[]scene{{Pose: "z", Ticks: 3}, {Pose: "a", Ticks: 6}, {Pose: "z", Ticks: 4}}, 3, "zaaz", impl.OK},
		// Books that are just full, and one page over.
		{scenesFor(60), 1, strings.Repeat("a", 60), impl.OK},
		{scenesFor(61), 1, "", impl.ErrFull},
		{scenesFor(59, 1), 1, strings.Repeat("a", 59) + "b", impl.OK},
		{scenesFor(60, 1), 1, "", impl.ErrFull},
		{scenesFor(59, 1), 2, strings.Repeat("a", 30) + "b", impl.OK},
		{scenesFor(120), 2, strings.Repeat("a", 60), impl.OK},
		{scenesFor(121), 2, "", impl.ErrFull},
		{scenesFor(302), 5, strings.Repeat("a", 60), impl.OK},
		{scenesFor(303), 5, "", impl.ErrFull},
		{scenesFor(1000), 16, "", impl.ErrFull},
		{scenesFor(1000), 17, strings.Repeat("a", 59), impl.OK},
		{scenesFor(1000), 1, "", impl.ErrFull},
		{scenesFor(1000), 100, "aaaaaaaaaa", impl.OK},
		{evenScenes(12, 5), 1, "aaaaabbbbbcccccdddddeeeeefffffggggghhhhhiiiiijjjjjkkkkklllll", impl.OK},
		{evenScenes(12, 6), 1, "", impl.ErrFull},
		{evenScenes(6, 1000), 100, "aaaaaaaaaabbbbbbbbbbccccccccccddddddddddeeeeeeeeeeffffffffff", impl.OK},
		{evenScenes(7, 1000), 100, "", impl.ErrFull},
		{evenScenes(12, 549), 100, "aaaaabbbbbcccccdddddeeeeefffffggggghhhhhiiiiijjjjjkkkkklllll", impl.OK},
		{evenScenes(12, 550), 100, "", impl.ErrFull},
		{evenScenes(12, 1000), 100, "", impl.ErrFull},
		// A range is checked before.
		{evenScenes(12, 1000), 0, "", impl.ErrRange},
		{scenesFor(61), 0, "", impl.ErrRange},
		{scenesFor(6, 4), 0, "", impl.ErrRange},
		{scenesFor(6, 4), 101, "", impl.ErrRange},
		{scenesFor(6, 4), -1, "", impl.ErrRange},
		{nil, 0, "", impl.ErrInvalid},
		{nil, 2, "", impl.ErrInvalid},
		{evenScenes(13, 1000), 1, "", impl.ErrInvalid},
	}
	for _, c := range cases {
		if got, code := impl.BookFor(c.list, c.each); got != c.want || code != c.code {
			t.Errorf("BookFor(%v, %d) = %q, %d, want %q, %d", c.list, c.each, got, code, c.want, c.code)
		}
	}
}

// TestBooksOfAllTicks also checks that the pages of a book are pages, that no scene is missing, and the errors.
func TestBooksOfAllTicks(t *testing.T) {
	for _, list := range sampleScenes() {
		for each := int64(1); each <= 100; each++ {
			want, wantWrong, wantCode := wantBook(list, each)
			pages, code := impl.BookFor(list, each)
			wrong, wrongCode := impl.ErrorOfBook(list, each)
			if pages != want || code != wantCode || wrong != wantWrong || wrongCode != wantCode {
				t.Fatalf("the book for %v, %d: %q, %d, with the error %d, %d, want %q, %d, %d", list, each, pages, code, wrong, wrongCode, want, wantWrong, wantCode)
			}
			if _, scenesCode := impl.PageAt(pages, each, 0); code == impl.OK && scenesCode != impl.OK {
				t.Errorf("BookFor(%v, %d) = %q, which are no pages", list, each, pages)
			}
		}
	}
}

// TestPagesOfOneScene checks all ticks that a scene and a page may have.
func TestPagesOfOneScene(t *testing.T) {
	for ticks := int64(1); ticks <= 1000; ticks++ {
		list := scenesFor(ticks)
		for each := int64(1); each <= 100; each++ {
			pages, code := impl.BookFor(list, each)
			wrong, wrongCode := impl.ErrorOfBook(list, each)
			count := int64(strings.Count(pages, "a"))
			if ticks*2 >= each*121 {
				if pages != "" || wrong != 0 || code != impl.ErrFull || wrongCode != impl.ErrFull {
					t.Fatalf("the book for %d ticks, %d: %q, %d, %d, %d, want ErrFull", ticks, each, pages, code, wrong, wrongCode)
				}
				continue
			}
			off := count*each - ticks
			isNearest := 2*off <= each && 2*off > -each
			if code != impl.OK || wrongCode != impl.OK || count < 1 || !isNearest && count != 1 || off < -each/2 || wrong != max(off, -off) {
				t.Fatalf("the book for %d ticks, %d: %q, %d, with the error %d, %d", ticks, each, pages, code, wrong, wrongCode)
			}
		}
	}
}

func TestErrorOfBook(t *testing.T) {
	cases := []struct {
		list       []scene
		each       int64
		want, code int64
	}{
		{scenesFor(6, 4), 1, 0, impl.OK},
		{scenesFor(6, 4), 2, 0, impl.OK},
		{scenesFor(6, 4), 3, 1, impl.OK},
		{scenesFor(6, 4), 4, 2, impl.OK},
		{scenesFor(6, 4), 5, 2, impl.OK},
		{scenesFor(6, 4), 100, 190, impl.OK},
		// Scenes that are longer and shorter than their pages do not make up for each other.
		{scenesFor(9, 11), 10, 2, impl.OK},
		{scenesFor(9), 10, 1, impl.OK},
		{scenesFor(11), 10, 1, impl.OK},
		{scenesFor(14), 10, 4, impl.OK},
		{scenesFor(15), 10, 5, impl.OK},
		{scenesFor(16), 10, 4, impl.OK},
		{scenesFor(14, 16), 10, 8, impl.OK},
		{scenesFor(1), 100, 99, impl.OK},
		{scenesFor(49), 100, 51, impl.OK},
		{scenesFor(50), 100, 50, impl.OK},
		{scenesFor(149), 100, 49, impl.OK},
		{scenesFor(150), 100, 50, impl.OK},
		{scenesFor(151), 100, 49, impl.OK},
		{scenesFor(1, 1000), 100, 99, impl.OK},
		{evenScenes(12, 1), 100, 1188, impl.OK},
		{evenScenes(12, 1), 1, 0, impl.OK},
		{evenScenes(12, 549), 100, 588, impl.OK},
		{evenScenes(12, 550), 100, 0, impl.ErrFull},
		{evenScenes(12, 5), 1, 0, impl.OK},
		{evenScenes(12, 6), 1, 0, impl.ErrFull},
		{scenesFor(1000), 17, 3, impl.OK},
		{scenesFor(1000), 16, 0, impl.ErrFull},
		{scenesFor(60), 1, 0, impl.OK},
		{scenesFor(61), 1, 0, impl.ErrFull},
		{scenesFor(61), 0, 0, impl.ErrRange},
		{scenesFor(6, 4), 0, 0, impl.ErrRange},
		{scenesFor(6, 4), 101, 0, impl.ErrRange},
		{scenesFor(6, 4), -1, 0, impl.ErrRange},
		{nil, 0, 0, impl.ErrInvalid},
		{nil, 2, 0, impl.ErrInvalid},
		{evenScenes(13, 1000), 1, 0, impl.ErrInvalid},
	}
	for _, c := range cases {
		if got, code := impl.ErrorOfBook(c.list, c.each); got != c.want || code != c.code {
			t.Errorf("ErrorOfBook(%v, %d) = %d, %d, want %d, %d", c.list, c.each, got, code, c.want, c.code)
		}
	}
}

// TestExactScenesAreSeenAgain checks promise 8: scenes that are shown exactly are seen again in their book, and no others are.
func TestExactScenesAreSeenAgain(t *testing.T) {
	exact := 0
	for _, list := range sampleScenes() {
		for each := int64(1); each <= 100; each++ {
			pages, code := impl.BookFor(list, each)
			if code != impl.OK {
				continue
			}
			wrong, _ := impl.ErrorOfBook(list, each)
			divides := !slices.ContainsFunc(list, func(s scene) bool { return s.Ticks%each != 0 })
			seen, seenCode := impl.ScenesOf(pages, each)
			again := seenCode == impl.OK && impl.SameScenes(seen, list)
			if again != divides || again != (wrong == 0) {
				t.Errorf("the book %q for %v, %d, with the error %d, shows %v, %d", pages, list, each, wrong, seen, seenCode)
			}
			if again {
				exact++
			}
		}
		each, _ := impl.ExactTick(list)
		pages, code := impl.BookFor(list, each)
		if seen, _ := impl.ScenesOf(pages, each); code == impl.OK && !slices.Equal(seen, list) {
			t.Errorf("the book %q for %v, %d shows %v", pages, list, each, seen)
		}
	}
	if exact < 500 {
		t.Errorf("only %d books are exact", exact)
	}
}

// TestBooksOfTheirScenes checks that the scenes of a book have just this book, without an error.
func TestBooksOfTheirScenes(t *testing.T) {
	for _, pages := range samplePages() {
		for each := int64(1); each <= 100; each++ {
			list, code := impl.ScenesOf(pages, each)
			if code != impl.OK {
				continue
			}
			again, one := impl.BookFor(list, each)
			wrong, two := impl.ErrorOfBook(list, each)
			exact, three := impl.ExactTick(list)
			best, least, four := impl.BestTick(list, int64(len(pages)))
			if again != pages || wrong != 0 || exact < each || best < each || least != 0 || one != impl.OK || two != impl.OK || three != impl.OK || four != impl.OK {
				t.Fatalf("the scenes %v of %q, %d have the book %q, %d, the error %d, %d, and the ticks %d, %d, and %d, %d, %d", list, pages, each, again, one, wrong, two, exact, three, best, least, four)
			}
		}
	}
}

func TestBestTick(t *testing.T) {
	cases := []struct {
		list              []scene
		most              int64
		each, wrong, code int64
	}{
		// Of several numbers with the same least error the greatest one is told: 1 and 2, 3 and 6, and more.
		{scenesFor(6, 4), 60, 2, 0, impl.OK},
		{scenesFor(6, 4), 10, 2, 0, impl.OK},
		{scenesFor(6, 4), 5, 2, 0, impl.OK},
		{scenesFor(6, 4), 4, 3, 1, impl.OK},
		{scenesFor(6, 4), 3, 3, 1, impl.OK},
		{scenesFor(6, 4), 2, 6, 2, impl.OK},
		{scenesFor(6, 4), 1, 0, 0, impl.ErrNotFound},
		{scenesFor(6), 60, 6, 0, impl.OK},
		{scenesFor(6), 1, 6, 0, impl.OK},
		{scenesFor(1), 1, 1, 0, impl.OK},
		{scenesFor(1), 60, 1, 0, impl.OK},
		{scenesFor(100), 60, 100, 0, impl.OK},
		{scenesFor(101), 60, 100, 1, impl.OK},
		{scenesFor(99, 101), 60, 100, 2, impl.OK},
		{scenesFor(1, 3), 4, 1, 0, impl.OK},
		{scenesFor(1, 3), 3, 3, 2, impl.OK},
		{scenesFor(1, 3), 2, 3, 2, impl.OK},
		{scenesFor(1, 1, 1), 3, 1, 0, impl.OK},
		{scenesFor(1, 1, 1), 2, 0, 0, impl.ErrNotFound},
		{scenesFor(1, 100), 2, 100, 99, impl.OK},
		{scenesFor(1, 100), 3, 50, 49, impl.OK},
		// Numbers of pages that no number of ticks reaches, and that one just does.
		{scenesFor(1000), 9, 0, 0, impl.ErrNotFound},
		{scenesFor(1000), 10, 100, 0, impl.OK},
		{scenesFor(1000), 60, 100, 0, impl.OK},
		{scenesFor(949), 9, 100, 49, impl.OK},
		{scenesFor(950), 9, 0, 0, impl.ErrNotFound},
		{scenesFor(950), 10, 95, 0, impl.OK},
		{evenScenes(6, 1000), 60, 100, 0, impl.OK},
		{evenScenes(6, 1000), 59, 0, 0, impl.ErrNotFound},
		{evenScenes(7, 1000), 60, 0, 0, impl.ErrNotFound},
		{evenScenes(12, 1000), 60, 0, 0, impl.ErrNotFound},
		{evenScenes(12, 549), 60, 100, 588, impl.OK},
		{evenScenes(12, 549), 59, 0, 0, impl.ErrNotFound},
		{evenScenes(12, 550), 60, 0, 0, impl.ErrNotFound},
		{evenScenes(12, 1), 12, 1, 0, impl.OK},
		{evenScenes(12, 1), 11, 0, 0, impl.ErrNotFound},
		// A range is checked before.
		{evenScenes(12, 1000), 0, 0, 0, impl.ErrRange},
		{evenScenes(12, 1000), 61, 0, 0, impl.ErrRange},
		{scenesFor(6, 4), 0, 0, 0, impl.ErrRange},
		{scenesFor(6, 4), 61, 0, 0, impl.ErrRange},
		{scenesFor(6, 4), -1, 0, 0, impl.ErrRange},
		{scenesFor(6, 4), math.MaxInt64, 0, 0, impl.ErrRange},
		{scenesFor(6, 4), math.MinInt64, 0, 0, impl.ErrRange},
		{nil, 0, 0, 0, impl.ErrInvalid},
		{nil, 60, 0, 0, impl.ErrInvalid},
		{evenScenes(13, 1000), 60, 0, 0, impl.ErrInvalid},
	}
	for _, c := range cases {
		if each, wrong, code := impl.BestTick(c.list, c.most); each != c.each || wrong != c.wrong || code != c.code {
			t.Errorf("BestTick(%v, %d) = %d, %d, %d, want %d, %d, %d", c.list, c.most, each, wrong, code, c.each, c.wrong, c.code)
		}
	}
}

// TestNoTickHasLesserError checks promise 8: no number of ticks with few enough pages has a lesser error than the told one, and no greater one has the same.
func TestNoTickHasLesserError(t *testing.T) {
	for _, list := range sampleScenes() {
		var counts, errors [101]int64
		for each := int64(1); each <= 100; each++ {
			pages, wrong, _ := wantBook(list, each)
			counts[each], errors[each] = int64(len(pages)), wrong
		}
		for most := int64(1); most <= 60; most++ {
			want, least, wantCode := int64(0), int64(math.MaxInt64), int64(impl.OK)
			for each := int64(100); each >= 1; each-- {
				if counts[each] >= 1 && counts[each] <= most && errors[each] < least {
					want, least = each, errors[each]
				}
			}
			if want == 0 {
				least, wantCode = 0, impl.ErrNotFound
			}
			if each, wrong, code := impl.BestTick(list, most); each != want || wrong != least || code != wantCode {
				t.Fatalf("BestTick(%v, %d) = %d, %d, %d, want %d, %d, %d", list, most, each, wrong, code, want, least, wantCode)
			}
		}
	}
}

// TestToldTickHasToldError checks that the told number of ticks has a book with few enough pages and the told error.
func TestToldTickHasToldError(t *testing.T) {
	for _, list := range sampleScenes() {
		for most := int64(1); most <= 60; most++ {
			each, wrong, code := impl.BestTick(list, most)
			if code != impl.OK {
				continue
			}
			pages, pagesCode := impl.BookFor(list, each)
			if got, gotCode := impl.ErrorOfBook(list, each); pagesCode != impl.OK || int64(len(pages)) > most || got != wrong || gotCode != impl.OK {
				t.Fatalf("BestTick(%v, %d) = %d, %d, but the book is %q, %d, with the error %d, %d", list, most, each, wrong, pages, pagesCode, got, gotCode)
			}
		}
	}
}

func TestLengthOfScenes(t *testing.T) {
	cases := []struct {
		list []scene
		want int64
	}{
		{scenesFor(6, 4), 10}, {scenesFor(1), 1}, {scenesFor(1000), 1000}, {scenesFor(1, 1000), 1001}, {evenScenes(12, 1), 12}, {evenScenes(12, 1000), 12000}, {scenesFor(1, 2, 4, 8, 16, 32, 64, 128, 256, 512), 1023},
		{[]scene{{Pose: "a", Ticks: 3}, {Pose: "b", Ticks: 5}, {Pose: "a", Ticks: 3}}, 11},
	}
	for _, c := range cases {
		if got, code := impl.LengthOfScenes(c.list); got != c.want || code != impl.OK {
			t.Errorf("LengthOfScenes(%v) = %d, %d, want %d", c.list, got, code, c.want)
		}
	}
}

// TestBookRanges checks all numbers at and beyond the limits, with scenes and pages that are ordinary, full, or too many.
func TestBookRanges(t *testing.T) {
	for _, n := range bookNumbers {
		isTime, isTick, isMost := n >= 1 && n <= 100, n >= 0 && n <= 6000, n >= 1 && n <= 60
		for _, pages := range []string{"a", "aaabb", strings.Repeat("a", 60), strings.Repeat("ab", 30)} {
			list, code := impl.ScenesOf(pages, n)
			if isTime == (code == impl.ErrRange) || code != impl.OK && len(list) != 0 {
				t.Errorf("ScenesOf(%q, %d) = %v, %d", pages, n, list, code)
			}
			for _, c := range []struct {
				inside     bool
				each, tick int64
			}{{isTime, n, 0}, {isTime, n, 6000}, {isTick, 1, n}, {isTick, 100, n}, {isTime && isTick, n, n}, {false, n, -1}, {false, n, 6001}, {false, 0, n}, {false, 101, n}} {
				pose, code := impl.PageAt(pages, c.each, c.tick)
				if c.inside == (code == impl.ErrRange) || (code == impl.OK) != (len(pose) == 1) {
					t.Errorf("PageAt(%q, %d, %d) = %q, %d", pages, c.each, c.tick, pose, code)
				}
			}
		}
		for _, list := range [][]scene{scenesFor(1), scenesFor(6, 4), scenesFor(1000), evenScenes(12, 5), evenScenes(12, 1000)} {
			pages, one := impl.BookFor(list, n)
			wrong, two := impl.ErrorOfBook(list, n)
			each, least, three := impl.BestTick(list, n)
			if isTime == (one == impl.ErrRange) || one != two || one != impl.OK && (pages != "" || wrong != 0) {
				t.Errorf("%v, %d: %q, %d, %d, %d", list, n, pages, one, wrong, two)
			}
			if isMost == (three == impl.ErrRange) || three != impl.OK && (each != 0 || least != 0) {
				t.Errorf("BestTick(%v, %d) = %d, %d, %d", list, n, each, least, three)
			}
		}
	}
}

// TestInvalidPagesComeFirst checks pages that are none, with numbers inside and outside of their ranges.
func TestInvalidPagesComeFirst(t *testing.T) {
	for _, pages := range append(invalidPages(), oddTexts...) {
		for _, n := range ints(math.MinInt64, -1, 0, 1, 2, 100, 101, 6000, 6001, math.MaxInt64) {
			if list, code := impl.ScenesOf(pages, n); len(list) != 0 || code != impl.ErrInvalid {
				t.Errorf("ScenesOf(%.80q, %d) = %v, %d, want ErrInvalid", pages, n, list, code)
			}
			for _, m := range ints(math.MinInt64, -1, 0, 1, 100, 6000, 6001, math.MaxInt64) {
				if pose, code := impl.PageAt(pages, n, m); pose != "" || code != impl.ErrInvalid {
					t.Errorf("PageAt(%.80q, %d, %d) = %q, %d, want ErrInvalid", pages, n, m, pose, code)
				}
			}
		}
	}
}

// TestPagesOfAllBytes checks each byte at each place of pages.
func TestPagesOfAllBytes(t *testing.T) {
	for b := range 256 {
		want := int64(impl.ErrInvalid)
		if b >= 'a' && b <= 'z' {
			want = impl.OK
		}
		for _, size := range []int{1, 2, 60} {
			for k := range size {
				pages := []byte(strings.Repeat("m", size))
				pages[k] = byte(b)
				_, one := impl.ScenesOf(string(pages), 1)
				_, two := impl.PageAt(string(pages), 1, 0)
				if one != want || two != want {
					t.Errorf("the pages %q: %d and %d, want %d", pages, one, two, want)
				}
			}
		}
	}
	for size := range 130 {
		want := int64(impl.ErrInvalid)
		if size >= 1 && size <= 60 {
			want = impl.OK
		}
		_, one := impl.ScenesOf(strings.Repeat("q", size), 1)
		_, two := impl.PageAt(strings.Repeat("q", size), 1, 0)
		if one != want || two != want {
			t.Errorf("%d pages: %d and %d, want %d", size, one, two, want)
		}
	}
}

// TestInvalidScenesComeFirst checks scenes that are not valid, with numbers inside and outside of their ranges.
func TestInvalidScenesComeFirst(t *testing.T) {
	for _, list := range invalidScenes() {
		exact, one := impl.ExactTick(list)
		length, two := impl.LengthOfScenes(list)
		if exact != 0 || length != 0 {
			t.Errorf("%v: %d, %d", list, exact, length)
		}
		codes := ints(one, two)
		for _, n := range ints(math.MinInt64, -1, 0, 1, 2, 60, 61, 100, 101, math.MaxInt64) {
			pages, three := impl.BookFor(list, n)
			wrong, four := impl.ErrorOfBook(list, n)
			each, least, five := impl.BestTick(list, n)
			if pages != "" || wrong != 0 || each != 0 || least != 0 {
				t.Errorf("%v, %d: %q, %d, %d, %d", list, n, pages, wrong, each, least)
			}
			codes = append(codes, three, four, five)
		}
		if slices.ContainsFunc(codes, func(code int64) bool { return code != impl.ErrInvalid }) {
			t.Errorf("%v: the codes are %v, want ErrInvalid", list, codes)
		}
	}
}

// answersOfBooks are the answers of all functions of the chapter.
func answersOfBooks(list, other []scene, pages string, n, m int64) []any {
	answers := []any{impl.ValidScenes(list), impl.SameScenes(list, other), impl.SameScenes(other, list)}
	text := func(s string, code int64) { answers = append(answers, textCode{s, code}) }
	number := func(n, code int64) { answers = append(answers, numberCode{n, code}) }
	text(impl.PageAt(pages, n, m))
	number(impl.ExactTick(list))
	text(impl.BookFor(list, n))
	number(impl.ErrorOfBook(list, n))
	each, wrong, code := impl.BestTick(list, n)
	number(each, code)
	number(wrong, code)
	number(impl.LengthOfScenes(list))
	return answers
}

// TestBooksOfAllArguments checks that odd arguments are answered, twice in the same way, that nothing is beside an error, and that arguments are left alone.
func TestBooksOfAllArguments(t *testing.T) {
	lists := append(invalidScenes(), sampleScenes()...)
	texts := slices.Concat(invalidPages(), []string{"a", "aaabb", strings.Repeat("a", 60), strings.Repeat("ab", 30), alphabet}, oddTexts)
	for i, plain := range lists {
		list, other := spare(plain, scene{Pose: "y", Ticks: 7}), spare(lists[(7*i+3)%len(lists)], scene{Pose: "x", Ticks: 8})
		before, otherBefore := slices.Clone(whole(list)), slices.Clone(whole(other))
		for k, n := range bookNumbers {
			pages, m := texts[(5*i+k)%len(texts)], bookNumbers[(7*i+5*k)%len(bookNumbers)]
			first, second := answersOfBooks(list, other, pages, n, m), answersOfBooks(list, other, pages, n, m)
			if !slices.Equal(first, second) {
				t.Errorf("%v, %q, %d, %d: %v, and then %v", list, pages, n, m, first, second)
			}
			checkTwice(t, "ScenesOf", func() ([]scene, int64) { return impl.ScenesOf(pages, n) })
			checkNumbersTwice(t, "BestTick", func() (int64, int64, int64) { return impl.BestTick(list, n) })
		}
		if !slices.Equal(whole(list), before) || !slices.Equal(whole(other), otherBefore) {
			t.Errorf("the scenes %v or %v have been changed: %v, %v", before, otherBefore, whole(list), whole(other))
		}
	}
}

// TestScenesAreNew checks that no two results share memory, and that a result does not change with a later call.
func TestScenesAreNew(t *testing.T) {
	for _, pages := range samplePages() {
		first, code := impl.ScenesOf(pages, 3)
		if code != impl.OK {
			continue
		}
		second, _ := impl.ScenesOf(pages, 3)
		want := slices.Clone(second)
		for i := range whole(first) {
			whole(first)[i] = scene{Pose: "spoilt", Ticks: -1}
		}
		third, _ := impl.ScenesOf(pages, 3)
		if len(want) == 0 || !slices.Equal(second, want) || !slices.Equal(third, want) {
			t.Errorf("ScenesOf(%q, 3) shares memory: %v and %v, want %v", pages, second, third, want)
		}
	}
}

func TestLimitsOfBooks(t *testing.T) {
	if impl.MaxPages != 60 || impl.MaxScenes != 12 || impl.MaxSceneT != 1000 || impl.MaxBookTik != 100 {
		t.Errorf("the limits are %d, %d, %d and %d", impl.MaxPages, impl.MaxScenes, impl.MaxSceneT, impl.MaxBookTik)
	}
}

func TestExampleOfBooks(t *testing.T) {
	list := []scene{{Pose: "a", Ticks: 6}, {Pose: "b", Ticks: 4}}
	pages, code := impl.BookFor(list, 2)
	wrong, wrongCode := impl.ErrorOfBook(list, 2)
	if pages != "aaabb" || code != impl.OK || wrong != 0 || wrongCode != impl.OK {
		t.Errorf("the scenes a for 6 ticks and b for 4 ticks have the book %q, %d, with the error %d, %d", pages, code, wrong, wrongCode)
	}
}
