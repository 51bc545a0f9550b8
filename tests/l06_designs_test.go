package tests

import (
	"math"
	"slices"
	"strings"
	"testing"

	"loop.example/g01063/impl"
)

// alphabet has as many different letters as a motion may have.
const alphabet = "abcdefghijklmnopqrstuvwx"

// poseCounts are numbers of slits or pictures at, and beyond, the limits.
var poseCounts = append([]int64{12, 13, 23, 24, 25, 26, 48, 49, -24, -25, 1 << 32, 1<<32 + 1, 1<<32 + 24}, extremes...)

// textsOf returns all texts of 1 to most letters.
func textsOf(letters string, most int) []string {
	list, before := []string{}, []string{""}
	for range most {
		var longer []string
		for _, text := range before {
			for _, letter := range letters {
				longer = append(longer, text+string(letter))
			}
		}
		list, before = append(list, longer...), longer
	}
	return list
}

// longMotions are motions at the greatest length, and near to it.
func longMotions() []string {
	list := []string{alphabet, alphabet[1:], alphabet[:23], alphabet[:17], "zyxwvutsrqponmlkjihgfedc", "aabbccddeeffggffeeddccbb", "abcdefghijklmlkjihgfedcb"}
	for _, size := range []int{13, 19, 22, 23, 24} {
		for _, part := range []string{"a", "z", "ab", "ba", "abc", "aab", "cab", "abca", "aabb", "abba", "aaabbb", "abcacb", "abcdabce", "bbbbbbbbbbba"} {
			list = append(list, strings.Repeat(part, 24)[:size])
		}
	}
	for k := range 24 {
		list = append(list, strings.Repeat("m", k)+"a"+strings.Repeat("m", 23-k), strings.Repeat("m", k)+"z"+strings.Repeat("m", 23-k))
		list = append(list, strings.Repeat("a", k)+strings.Repeat("b", 24-k))
	}
	return list
}

func sampleMotions() []string {
	list := append(textsOf("ab", 8), textsOf("abc", 5)...)
	list = append(list, textsOf("abcd", 4)...)
	return append(list, longMotions()...)
}

// invalidMotions are invalid for one reason each.
func invalidMotions() []string {
	list := []string{
		"", alphabet + "y", alphabet + "a", alphabet + "\n", strings.Repeat("a", 25), strings.Repeat("a", 48), strings.Repeat("ab", 5000),
		"A", "Z", "aBc", "`", "{", "a`b", "ab{", "1", "ab1", "-", "a-b", "_", ".", "a.b", " ", " a", "a ", "a b", "ab\n", "\n", "\tab", "\r", "\x00", "a\x00", "\x00a",
		"\x7f", "\x80", "\xe1", "\xff", "a\xff", "\xffa", "a\xe1b", "\xc3\xa1", "á", "aá", "é", "ß", "ａ", "ab\u0301", "а", "日本", "\ufffd", "\u0161",
		strings.Repeat("é", 12), strings.Repeat("é", 24), strings.Repeat("ａ", 8), "\U00010061",
	}
	for k := range 24 {
		for _, bad := range []string{" ", "A", "{", "`", "\xe1"} {
			list = append(list, alphabet[:k]+bad+alphabet[k+1:])
		}
	}
	return list
}

// turnedText returns a text, begun at the letter k.
func turnedText(text string, k int) string {
	var turned []byte
	for i := range len(text) {
		turned = append(turned, (text + text)[k+i])
	}
	return string(turned)
}

func allTurns(text string) []string {
	var list []string
	for k := range len(text) {
		list = append(list, turnedText(text, k))
	}
	return list
}

// orders keeps the pictures that are seen through slits, which wantOrder finds by exact fractions.
var orders = map[[2]int64][]int64{}

func wantOrder(pictures, slits int64) []int64 {
	disc := [2]int64{pictures, slits}
	if orders[disc] == nil {
		for flash := range slits {
			picture, _ := wantSeen(pictures, slits, flash)
			orders[disc] = append(orders[disc], picture)
		}
	}
	return orders[disc]
}

func wantMotion(disc string, slits int64) string {
	motion := ""
	for _, picture := range wantOrder(int64(len(disc)), slits) {
		motion += disc[picture : picture+1]
	}
	return motion
}

// wantDisc draws a picture only where it is seen, and then gives the others the pose before them.
func wantDisc(motion string, pictures int64) (string, int64) {
	disc := make([]byte, pictures)
	for flash, picture := range wantOrder(pictures, int64(len(motion))) {
		if disc[picture] != 0 && disc[picture] != motion[flash] {
			return "", impl.ErrClash
		}
		disc[picture] = motion[flash]
	}
	for picture := range disc {
		if disc[picture] == 0 {
			disc[picture] = disc[picture-1]
		}
	}
	return string(disc), impl.OK
}

func TestValidMotion(t *testing.T) {
	for _, s := range append(sampleMotions(), "a", "z", "az", alphabet, strings.Repeat("z", 24)) {
		if !impl.ValidMotion(s) {
			t.Errorf("ValidMotion(%q) = false", s)
		}
	}
	for _, s := range append(invalidMotions(), oddTexts...) {
		if impl.ValidMotion(s) {
			t.Errorf("ValidMotion(%q) = true", s)
		}
	}
	for size := range 60 {
		if got := impl.ValidMotion(strings.Repeat("q", size)); got != (size >= 1 && size <= 24) {
			t.Errorf("ValidMotion of %d letters = %v", size, got)
		}
	}
}

// TestValidMotionOfAllBytes checks each byte at each place.
func TestValidMotionOfAllBytes(t *testing.T) {
	for b := range 256 {
		want := b >= 'a' && b <= 'z'
		for _, size := range []int{1, 2, 24} {
			for k := range size {
				text := []byte(alphabet[:size])
				text[k] = byte(b)
				if got := impl.ValidMotion(string(text)); got != want {
					t.Errorf("ValidMotion(%q) = %v", text, got)
				}
			}
		}
	}
}

func TestMotionOf(t *testing.T) {
	cases := []struct {
		disc  string
		slits int64
		want  string
	}{
		{"ab", 4, "abba"},
		{"ab", 1, "a"},
		{"ab", 2, "ab"},
		{"ab", 3, "abb"},
		{"ab", 6, "aabbba"},
		{"ba", 4, "baab"},
		{"abc", 2, "ac"},
		{"abc", 4, "abcc"},
		{"aab", 4, "aabb"},
		{"abcde", 2, "ad"},
		{"abcde", 3, "acd"},
		{"abcdef", 3, "ace"},
		{"abcdef", 4, "acdf"},
		{"a", 1, "a"},
		{"z", 24, strings.Repeat("z", 24)},
		{alphabet, 1, "a"},
		{alphabet, 2, "am"},
		{alphabet, 5, "afkot"},
		{alphabet, 24, alphabet},
		{alphabet, 23, "abcdefghijklnopqrstuvwx"},
		{alphabet[:23], 24, "abcdefghijklmmnopqrstuvw"},
	}
	for _, c := range cases {
		if got, code := impl.MotionOf(c.disc, c.slits); got != c.want || code != impl.OK {
			t.Errorf("MotionOf(%q, %d) = %q, %d, want %q", c.disc, c.slits, got, code, c.want)
		}
	}
}

func TestMotionOfAllSlits(t *testing.T) {
	for _, disc := range sampleMotions() {
		for slits := int64(1); slits <= 24; slits++ {
			got, code := impl.MotionOf(disc, slits)
			if got != wantMotion(disc, slits) || code != impl.OK || !impl.ValidMotion(got) {
				t.Fatalf("MotionOf(%q, %d) = %q, %d, want %q", disc, slits, got, code, wantMotion(disc, slits))
			}
		}
	}
}

// TestMotionIsSeenOrder checks that the motion has the poses of the pictures that chapter 3 tells.
func TestMotionIsSeenOrder(t *testing.T) {
	for size := 1; size <= 24; size++ {
		for slits := int64(1); slits <= 24; slits++ {
			motion, code := impl.MotionOf(alphabet[:size], slits)
			order, _ := impl.SeenOrder(int64(size), slits)
			if code != impl.OK || len(motion) != len(order) {
				t.Fatalf("MotionOf(%q, %d) = %q, %d", alphabet[:size], slits, motion, code)
			}
			for flash, picture := range order {
				if motion[flash] != alphabet[picture] {
					t.Errorf("MotionOf(%q, %d) = %q: the flash %d shows the picture %d", alphabet[:size], slits, motion, flash, picture)
				}
			}
		}
	}
}

func TestMotionOfErrors(t *testing.T) {
	for _, slits := range poseCounts {
		inside := slits >= 1 && slits <= 24
		for _, disc := range []string{"a", "ab", alphabet} {
			got, code := impl.MotionOf(disc, slits)
			if inside != (code == impl.OK) || !inside && (code != impl.ErrRange || got != "") {
				t.Errorf("MotionOf(%q, %d) = %q, %d", disc, slits, got, code)
			}
		}
		for _, disc := range invalidMotions() {
			if got, code := impl.MotionOf(disc, slits); got != "" || code != impl.ErrInvalid {
				t.Errorf("MotionOf(%q, %d) = %q, %d, want ErrInvalid", disc, slits, got, code)
			}
		}
	}
}

func TestDiscFor(t *testing.T) {
	cases := []struct {
		motion   string
		pictures int64
		want     string
		code     int64
	}{
		{"aabb", 1, "", impl.ErrClash},
		{"aabb", 2, "", impl.ErrClash},
		{"aabb", 3, "aab", impl.OK},
		{"aabb", 4, "aabb", impl.OK},
		{"abba", 1, "", impl.ErrClash},
		{"abba", 2, "ab", impl.OK},
		{"abba", 3, "", impl.ErrClash},
		{"abba", 4, "abba", impl.OK},
		// The last flash sees the first picture once more.
		{"abbb", 2, "", impl.ErrClash},
		{"bbba", 2, "", impl.ErrClash},
		{"aaab", 1, "", impl.ErrClash},
		{"aaaa", 1, "a", impl.OK},
		{"aaaa", 2, "aa", impl.OK},
		{"a", 1, "a", impl.OK},
		{"ab", 1, "", impl.ErrClash},
		{"abab", 2, "", impl.ErrClash},
		{"abab", 3, "", impl.ErrClash},
		// Pictures that are not seen, one or several of them behind a seen one, the last ones of the disc too.
		{"a", 2, "aa", impl.OK},
		{"a", 24, strings.Repeat("a", 24), impl.OK},
		{"ab", 3, "aab", impl.OK},
		{"ab", 4, "aabb", impl.OK},
		{"ab", 5, "aaabb", impl.OK},
		{"ab", 24, strings.Repeat("a", 12) + strings.Repeat("b", 12), impl.OK},
		{"abc", 4, "abbc", impl.OK},
		{"abc", 5, "aabcc", impl.OK},
		{"abc", 7, "aabbbcc", impl.OK},
		{"abc", 9, "aaabbbccc", impl.OK},
		{"abcd", 6, "aabccd", impl.OK},
		{"aabb", 8, "aaaabbbb", impl.OK},
		{"abab", 8, "aabbaabb", impl.OK},
		{alphabet[:23], 24, "abcdefghijkllmnopqrstuvw", impl.OK},
		{alphabet[:12], 24, "aabbccddeeffgghhiijjkkll", impl.OK},
		{alphabet, 24, alphabet, impl.OK},
		{alphabet, 23, "", impl.ErrClash},
		{alphabet, 1, "", impl.ErrClash},
		{"abcdefghijklmmnopqrstuvw", 23, alphabet[:23], impl.OK},
		{strings.Repeat("a", 24), 1, "a", impl.OK},
		{strings.Repeat("a", 23) + "b", 1, "", impl.ErrClash},
	}
	for _, c := range cases {
		if got, code := impl.DiscFor(c.motion, c.pictures); got != c.want || code != c.code {
			t.Errorf("DiscFor(%q, %d) = %q, %d, want %q, %d", c.motion, c.pictures, got, code, c.want, c.code)
		}
	}
}

func TestDiscForAllPictures(t *testing.T) {
	for _, motion := range sampleMotions() {
		for pictures := int64(1); pictures <= 24; pictures++ {
			want, wantCode := wantDisc(motion, pictures)
			if got, code := impl.DiscFor(motion, pictures); got != want || code != wantCode {
				t.Fatalf("DiscFor(%q, %d) = %q, %d, want %q, %d", motion, pictures, got, code, want, wantCode)
			}
		}
	}
}

// TestToldDiscShowsMotion checks promise 6, and that pictures that are not seen have the pose before them.
func TestToldDiscShowsMotion(t *testing.T) {
	for _, motion := range sampleMotions() {
		for pictures := int64(1); pictures <= 24; pictures++ {
			disc, code := impl.DiscFor(motion, pictures)
			if code != impl.OK {
				continue
			}
			if shown, _ := impl.MotionOf(disc, int64(len(motion))); shown != motion || int64(len(disc)) != pictures {
				t.Fatalf("DiscFor(%q, %d) = %q, which shows %q", motion, pictures, disc, shown)
			}
			missed, _ := impl.MissedPictures(pictures, int64(len(motion)))
			for _, picture := range missed {
				if picture == 0 || disc[picture] != disc[picture-1] {
					t.Errorf("DiscFor(%q, %d) = %q: the picture %d is not seen, and has another pose than the one before it", motion, pictures, disc, picture)
				}
			}
		}
	}
}

// TestDiscOfShownMotion checks that there is a disc for whatever a disc shows.
func TestDiscOfShownMotion(t *testing.T) {
	for _, disc := range sampleMotions() {
		for slits := int64(1); slits <= 24; slits++ {
			motion, _ := impl.MotionOf(disc, slits)
			made, code := impl.DiscFor(motion, int64(len(disc)))
			if code != impl.OK || slits >= int64(len(disc)) && made != disc {
				t.Errorf("the disc %q shows %q, but DiscFor tells %q, %d", disc, motion, made, code)
			}
		}
	}
}

func TestDiscForErrors(t *testing.T) {
	for _, pictures := range poseCounts {
		inside := pictures >= 1 && pictures <= 24
		for _, motion := range []string{"a", "aaaa", "abba", "aabb", alphabet} {
			got, code := impl.DiscFor(motion, pictures)
			if inside == (code == impl.ErrRange) || code != impl.OK && got != "" {
				t.Errorf("DiscFor(%q, %d) = %q, %d", motion, pictures, got, code)
			}
		}
		for _, motion := range invalidMotions() {
			if got, code := impl.DiscFor(motion, pictures); got != "" || code != impl.ErrInvalid {
				t.Errorf("DiscFor(%q, %d) = %q, %d, want ErrInvalid", motion, pictures, got, code)
			}
		}
	}
}

func TestFewestPictures(t *testing.T) {
	cases := map[string]int64{
		"aabb": 3, "abba": 2, "baab": 2, "abbb": 3, "abab": 4, "abcd": 4, "abcc": 3, "aaab": 4,
		"a": 1, "z": 1, "aa": 1, "ab": 2, "aba": 3, "abb": 2, "aab": 3, "aaaa": 1, "aabbba": 2, "ababab": 6, "aaabbb": 4,
		strings.Repeat("a", 24): 1, alphabet: 24, alphabet[:23]: 23, "abcdefghijklmmnopqrstuvw": 23, strings.Repeat("ab", 12): 24,
		strings.Repeat("a", 23) + "b": 19, "aaaaaabbbbbbbbbbbbaaaaaa": 2, "aaabbbbbbccccccddddddaaa": 4,
	}
	for motion, want := range cases {
		if got, code := impl.FewestPictures(motion); got != want || code != impl.OK {
			t.Errorf("FewestPictures(%q) = %d, %d, want %d", motion, got, code, want)
		}
	}
}

func TestNoDiscHasFewerPictures(t *testing.T) {
	for _, motion := range sampleMotions() {
		fewest, code := impl.FewestPictures(motion)
		if code != impl.OK || fewest < 1 || fewest > int64(len(motion)) {
			t.Fatalf("FewestPictures(%q) = %d, %d", motion, fewest, code)
		}
		for pictures := int64(1); pictures <= fewest; pictures++ {
			want := int64(impl.ErrClash)
			if pictures == fewest {
				want = impl.OK
			}
			if disc, code := impl.DiscFor(motion, pictures); code != want {
				t.Errorf("FewestPictures(%q) = %d, but with %d pictures DiscFor tells %q, %d", motion, fewest, pictures, disc, code)
			}
		}
	}
}

// TestFewestOfAllDiscs looks for the first one of all discs, with few pictures first, that shows a motion.
func TestFewestOfAllDiscs(t *testing.T) {
	for _, letters := range []string{"ab", "abc"} {
		most := 9 - len(letters)
		fewest := map[string]int64{}
		for _, disc := range textsOf(letters, most) {
			for slits := range most {
				motion := wantMotion(disc, int64(slits)+1)
				if fewest[motion] == 0 {
					fewest[motion] = int64(len(disc))
				}
			}
		}
		for _, motion := range textsOf(letters, most) {
			if got, code := impl.FewestPictures(motion); got != fewest[motion] || code != impl.OK {
				t.Errorf("FewestPictures(%q) = %d, %d, want %d", motion, got, code, fewest[motion])
			}
		}
	}
}

func TestPeriodOf(t *testing.T) {
	cases := map[string]int64{
		"a": 1, "z": 1, "aa": 1, "ab": 2, "aaa": 1, "aab": 3, "abab": 2, "aabb": 4, "abba": 4, "aaaa": 1, "abcabc": 3, "aabaab": 3, "ababab": 2, "abaaba": 3, "abcdef": 6,
		// These begin again at once, but not where the first letter follows the last one.
		"aba": 3, "ababa": 5, "abcabcab": 8, "aabaa": 5, "aaba": 4, "ababba": 6,
		strings.Repeat("a", 24): 1, strings.Repeat("ab", 12): 2, strings.Repeat("abb", 8): 3, strings.Repeat("abca", 6): 4, strings.Repeat("aabbcc", 4): 6, strings.Repeat("abcdefgh", 3): 8,
		strings.Repeat("aabaabaabaac", 2): 12, alphabet: 24, strings.Repeat("a", 23) + "b": 24, strings.Repeat("a", 23): 1, "b" + strings.Repeat("a", 22): 23,
		strings.Repeat("abcde", 5)[:24]: 24,
	}
	for motion, want := range cases {
		if got, code := impl.PeriodOf(motion); got != want || code != impl.OK {
			t.Errorf("PeriodOf(%q) = %d, %d, want %d", motion, got, code, want)
		}
	}
}

// TestBeginsAgainAfterPeriod checks promise 6: a motion begins again after its period and not before.
func TestBeginsAgainAfterPeriod(t *testing.T) {
	for _, motion := range sampleMotions() {
		period, code := impl.PeriodOf(motion)
		if code != impl.OK || period < 1 || len(motion)%int(period) != 0 {
			t.Fatalf("PeriodOf(%q) = %d, %d", motion, period, code)
		}
		for n := 1; n <= int(period); n++ {
			if again := (motion + motion)[n:n+len(motion)] == motion; again != (n == int(period)) {
				t.Errorf("PeriodOf(%q) = %d, but after %d letters it begins again: %v", motion, period, n, again)
			}
		}
	}
}

func TestSameMotion(t *testing.T) {
	cases := []struct {
		a, b string
		want bool
	}{
		{"abc", "cab", true},
		{"abc", "bca", true},
		{"abc", "abc", true},
		{"abc", "acb", false},
		{"abc", "cba", false},
		{"a", "a", true},
		{"a", "b", false},
		{"ab", "ba", true},
		{"aab", "aba", true},
		{"aab", "abb", false},
		{"aabb", "abab", false},
		// Their lengths differ, even where the one is the other one several times, or begins or ends with it.
		{"a", "aa", false},
		{"ab", "abab", false},
		{"abab", "ab", false},
		{"abc", "ab", false},
		{"ab", "abc", false},
		{"ab", "bca", false},
		{"cab", "ab", false},
		{strings.Repeat("a", 24), strings.Repeat("a", 23), false},
		{alphabet, alphabet[1:] + "a", true},
		{alphabet, "x" + alphabet[:23], true},
		{alphabet, alphabet[12:] + alphabet[:12], true},
		{alphabet, "ba" + alphabet[2:], false},
	}
	for _, c := range cases {
		for _, p := range [][2]string{{c.a, c.b}, {c.b, c.a}} {
			if got, code := impl.SameMotion(p[0], p[1]); got != c.want || code != impl.OK {
				t.Errorf("SameMotion(%q, %q) = %v, %d, want %v", p[0], p[1], got, code, c.want)
			}
		}
	}
}

func TestSameMotionOfAllPairs(t *testing.T) {
	list := append(textsOf("ab", 6), textsOf("abc", 4)...)
	list = append(list, longMotions()...)
	for _, a := range list {
		turns := allTurns(a)
		for _, b := range list {
			want := slices.Contains(turns, b)
			if got, code := impl.SameMotion(a, b); got != want || code != impl.OK {
				t.Fatalf("SameMotion(%q, %q) = %v, %d, want %v", a, b, got, code, want)
			}
		}
		for _, b := range turns {
			if got, code := impl.SameMotion(a, b); !got || code != impl.OK {
				t.Fatalf("SameMotion(%q, %q) = %v, %d, want true", a, b, got, code)
			}
		}
	}
}

func TestSameMotionErrors(t *testing.T) {
	for _, bad := range invalidMotions() {
		for _, other := range append(invalidMotions(), "a", "ab", alphabet) {
			for _, p := range [][2]string{{bad, other}, {other, bad}} {
				if got, code := impl.SameMotion(p[0], p[1]); got || code != impl.ErrInvalid {
					t.Errorf("SameMotion(%q, %q) = %v, %d, want ErrInvalid", p[0], p[1], got, code)
				}
			}
		}
	}
}

func TestFirstTurn(t *testing.T) {
	cases := map[string]string{
		"cab": "abc", "abc": "abc", "bca": "abc", "cba": "acb", "a": "a", "z": "z", "ba": "ab", "bbbb": "bbbb",
		// Several letters begin the least text, or are the least letter.
		"baba": "abab", "aba": "aab", "abaab": "aabab", "abaaab": "aaabab", "bcabca": "abcabc", "acab": "abac", "abacaba": "aabacab", "caabaab": "aabaabc",
		"zyzx": "xzyz", "x" + alphabet[:23]: alphabet[:23] + "x", "b" + strings.Repeat("a", 23): strings.Repeat("a", 23) + "b", strings.Repeat("ba", 12): strings.Repeat("ab", 12),
	}
	for motion, want := range cases {
		if got, code := impl.FirstTurn(motion); got != want || code != impl.OK {
			t.Errorf("FirstTurn(%q) = %q, %d, want %q", motion, got, code, want)
		}
	}
	for _, motion := range sampleMotions() {
		want := slices.Min(allTurns(motion))
		if got, code := impl.FirstTurn(motion); got != want || code != impl.OK {
			t.Errorf("FirstTurn(%q) = %q, %d, want %q", motion, got, code, want)
		}
	}
}

// TestFirstTurnOfAllTurns checks that motions are the same just if their first turns are.
func TestFirstTurnOfAllTurns(t *testing.T) {
	list := append(textsOf("ab", 5), textsOf("abc", 4)...)
	for _, a := range list {
		for _, b := range list {
			same, _ := impl.SameMotion(a, b)
			firstA, _ := impl.FirstTurn(a)
			firstB, _ := impl.FirstTurn(b)
			if same != (firstA == firstB) {
				t.Errorf("SameMotion(%q, %q) = %v, but the first turns are %q and %q", a, b, same, firstA, firstB)
			}
		}
	}
}

// wantBack puts each letter before those that came before it.
func wantBack(motion string) string {
	back := ""
	for _, letter := range motion {
		back = string(letter) + back
	}
	return back
}

func TestBackMotion(t *testing.T) {
	cases := map[string]string{"abc": "cba", "a": "a", "ab": "ba", "aab": "baa", "abba": "abba", "abcd": "dcba", alphabet: "xwvutsrqponmlkjihgfedcba"}
	for motion, want := range cases {
		if got, code := impl.BackMotion(motion); got != want || code != impl.OK {
			t.Errorf("BackMotion(%q) = %q, %d, want %q", motion, got, code, want)
		}
	}
	for _, motion := range sampleMotions() {
		back, code := impl.BackMotion(motion)
		again, _ := impl.BackMotion(back)
		if back != wantBack(motion) || code != impl.OK || again != motion {
			t.Errorf("BackMotion(%q) = %q, %d, and then %q", motion, back, code, again)
		}
	}
}

func TestLooksBack(t *testing.T) {
	cases := map[string]bool{
		"abba": true, "a": true, "z": true, "ab": true, "ba": true, "aab": true, "aabb": true, "abac": true, "abcb": true, "bcbd": true, "abcba": true, "aaaa": true, "abab": true,
		"abc": false, "bca": false, "abcd": false, "abcabc": false, "aabc": false, "abcbd": false, "aabbc": false, "aababb": false, "abaabb": false, "ababbb": true, "aabaab": true,
		alphabet: false, strings.Repeat("a", 24): true, strings.Repeat("abc", 8): false, strings.Repeat("ab", 12): true, "abcdefghijklmlkjihgfedcb": true, "aabbccddeeffggffeeddccbb": true,
	}
	for motion, want := range cases {
		if got, code := impl.LooksBack(motion); got != want || code != impl.OK {
			t.Errorf("LooksBack(%q) = %v, %d, want %v", motion, got, code, want)
		}
	}
	for _, motion := range sampleMotions() {
		want := slices.Contains(allTurns(motion), wantBack(motion))
		back, _ := impl.BackMotion(motion)
		same, _ := impl.SameMotion(motion, back)
		if got, code := impl.LooksBack(motion); got != want || got != same || code != impl.OK {
			t.Errorf("LooksBack(%q) = %v, %d, want %v, and SameMotion tells %v", motion, got, code, want, same)
		}
	}
}

func TestChangesIn(t *testing.T) {
	cases := map[string]int64{
		"aabb": 2, "a": 0, "z": 0, "aa": 0, "ab": 2, "aab": 2, "aba": 2, "abc": 3, "abca": 3, "abab": 4, "abba": 2, "aabbcc": 3, "abcb": 4, "abacada": 6,
		strings.Repeat("a", 24): 0, alphabet: 24, strings.Repeat("ab", 12): 24, strings.Repeat("a", 23) + "b": 2, "b" + strings.Repeat("a", 23): 2, strings.Repeat("ab", 12)[:23]: 22,
	}
	for motion, want := range cases {
		if got, code := impl.ChangesIn(motion); got != want || code != impl.OK {
			t.Errorf("ChangesIn(%q) = %d, %d, want %d", motion, got, code, want)
		}
	}
	for _, motion := range sampleMotions() {
		want := int64(0)
		around := motion + motion[:1]
		for k := range len(motion) {
			if around[k] != around[k+1] {
				want++
			}
		}
		if got, code := impl.ChangesIn(motion); got != want || code != impl.OK {
			t.Errorf("ChangesIn(%q) = %d, %d, want %d", motion, got, code, want)
		}
	}
}

// TestTurnsChangeNothing checks that wherever a motion is begun, its period, changes and first turn are the same.
func TestTurnsChangeNothing(t *testing.T) {
	for _, motion := range sampleMotions() {
		period, _ := impl.PeriodOf(motion)
		changes, _ := impl.ChangesIn(motion)
		looks, _ := impl.LooksBack(motion)
		first, _ := impl.FirstTurn(motion)
		for _, turn := range allTurns(motion) {
			gotPeriod, _ := impl.PeriodOf(turn)
			gotChanges, _ := impl.ChangesIn(turn)
			gotLooks, _ := impl.LooksBack(turn)
			gotFirst, _ := impl.FirstTurn(turn)
			if gotPeriod != period || gotChanges != changes || gotLooks != looks || gotFirst != first {
				t.Fatalf("%q: %d, %d, %v, %q, but %q: %d, %d, %v, %q", motion, period, changes, looks, first, turn, gotPeriod, gotChanges, gotLooks, gotFirst)
			}
		}
	}
}

func TestInvalidMotions(t *testing.T) {
	for _, motion := range invalidMotions() {
		fewest, one := impl.FewestPictures(motion)
		period, two := impl.PeriodOf(motion)
		first, three := impl.FirstTurn(motion)
		back, four := impl.BackMotion(motion)
		looks, five := impl.LooksBack(motion)
		changes, six := impl.ChangesIn(motion)
		if fewest != 0 || period != 0 || first != "" || back != "" || looks || changes != 0 {
			t.Errorf("%q: %d, %d, %q, %q, %v, %d", motion, fewest, period, first, back, looks, changes)
		}
		for i, code := range ints(one, two, three, four, five, six) {
			if code != impl.ErrInvalid {
				t.Errorf("%q: the function %d returns %d, want ErrInvalid", motion, i, code)
			}
		}
	}
}

type textCode struct {
	text string
	code int64
}

type numberCode struct{ number, code int64 }

type verdictCode struct {
	verdict bool
	code    int64
}

// answersFor are the answers of all functions of the chapter.
func answersFor(a, b string, n int64) []any {
	list := []any{impl.ValidMotion(a)}
	text := func(s string, code int64) { list = append(list, textCode{s, code}) }
	number := func(n, code int64) { list = append(list, numberCode{n, code}) }
	verdict := func(ok bool, code int64) { list = append(list, verdictCode{ok, code}) }
	text(impl.MotionOf(a, n))
	text(impl.DiscFor(a, n))
	number(impl.FewestPictures(a))
	number(impl.PeriodOf(a))
	verdict(impl.SameMotion(a, b))
	text(impl.FirstTurn(a))
	text(impl.BackMotion(a))
	verdict(impl.LooksBack(a))
	number(impl.ChangesIn(a))
	return list
}

// TestDesignsOfAllArguments checks that odd arguments are answered, and twice in the same way.
func TestDesignsOfAllArguments(t *testing.T) {
	texts := append(invalidMotions(), "a", "abba", "aabb", "abab", alphabet, strings.Repeat("ab", 12))
	texts = append(texts, oddTexts...)
	for i, a := range texts {
		b := texts[(7*i+3)%len(texts)]
		for _, n := range append([]int64{4, 23, 24, 25, 48, math.MinInt32, math.MaxUint32}, extremes...) {
			if first, second := answersFor(a, b, n), answersFor(a, b, n); !slices.Equal(first, second) {
				t.Errorf("%q, %q, %d: %v, and then %v", a, b, n, first, second)
			}
		}
	}
}

func TestLimitOfDesigns(t *testing.T) {
	if impl.MaxMotion != 24 {
		t.Errorf("the limit is %d", impl.MaxMotion)
	}
}

func TestExampleOfDesigns(t *testing.T) {
	if got, code := impl.MotionOf("ab", 4); got != "abba" || code != impl.OK {
		t.Errorf("through 4 slits, the disc ab shows %q, %d", got, code)
	}
	if got, code := impl.FewestPictures("aabb"); got != 3 || code != impl.OK {
		t.Errorf("the motion aabb needs %d pictures, %d", got, code)
	}
	if got, code := impl.DiscFor("aabb", 3); got != "aab" || code != impl.OK {
		t.Errorf("the motion aabb needs the disc %q, %d", got, code)
	}
}
