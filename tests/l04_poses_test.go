package tests

import (
	"math"
	"math/big"
	"slices"
	"testing"

	"loop.example/g01063/impl"
)

type point = impl.Point

type keyPose = impl.KeyPose

func at(x, y int64) point { return point{X: x, Y: y} }

func pose(joints ...point) []point { return joints }

func key(tick int64, joints ...point) keyPose { return keyPose{Tick: tick, Joints: joints} }

// line returns so many key poses at equal distances; their one joint has places from 0 to 1000 that follow the tick.
func line(many, first, apart int64) []keyPose {
	var list []keyPose
	for i := range many {
		tick := first + i*apart
		list = append(list, key(tick, at(tick%1001, (7*tick)%1001)))
	}
	return list
}

// crowd returns a pose with so many joints.
func crowd(many int64) []point {
	var joints []point
	for i := range many {
		joints = append(joints, at(100*i, 1000-50*i))
	}
	return joints
}

// sampleKeys are valid key poses, at the limits and between them.
func sampleKeys() [][]keyPose {
	a, b, c := crowd(8), crowd(8), crowd(8)
	slices.Reverse(b)
	c[7] = at(0, 0)
	return [][]keyPose{
		{key(10, at(0, 0)), key(14, at(9, 4)), key(20, at(9, 4))},
		{key(0, at(0, 0)), key(2, at(5, 2)), key(4, at(9, 4))},
		{key(0, at(3, 4))},
		{key(10000, at(1000, 1000))},
		{key(77, crowd(8)...)},
		{key(0, at(0, 1000)), key(10000, at(1000, 0))},
		{key(9999, at(0, 1000), at(1, 1)), key(10000, at(1000, 0), at(1, 2))},
		{key(0, a...), key(3, b...), key(10, c...), key(31, a...)},
		{key(5, at(0, 7), at(1, 0)), key(6, at(1, 7), at(1, 1)), key(8, at(3, 7), at(1, 4)), key(9, at(4, 8), at(2, 5))},
		line(10, 0, 1), line(10, 9991, 1), line(10, 0, 11), line(10, 500, 1000), line(9, 3, 7), line(2, 0, 99), line(2, 0, 100),
	}
}

// invalidPoses are invalid for one reason each.
func invalidPoses() [][]point {
	list := [][]point{nil, {}, crowd(9), crowd(40), {at(1, 1), at(1001, 1)}, {at(1, 1), at(1, -1)}}
	for _, n := range []int64{math.MinInt64, math.MinInt64 + 1, -1000, -1, 1001, 1002, 1 << 32, math.MaxInt64} {
		list = append(list, pose(at(n, 0)), pose(at(0, n)), pose(at(n, n)))
	}
	return list
}

// invalidKeys are invalid for one reason each.
func invalidKeys() [][]keyPose {
	list := [][]keyPose{
		nil, {}, line(11, 0, 1), line(40, 0, 1),
		{key(5, at(1, 1)), key(5, at(2, 2))},
		{key(5, at(1, 1)), key(4, at(2, 2))},
		{key(0, at(1, 1)), key(9, at(2, 2)), key(9, at(3, 3))},
		{key(0, at(1, 1)), key(9, at(2, 2)), key(8, at(3, 3))},
		{key(0, at(1, 1)), key(9, at(2, 2), at(3, 3))},
		{key(0, at(1, 1), at(2, 2)), key(9, at(2, 2))},
		{key(0, at(1, 1)), key(9, at(2, 2)), key(10, at(2, 2), at(3, 3))},
		{key(-1, at(1, 1)), key(0, at(2, 2))},
		{key(0, at(1, 1)), key(10001, at(2, 2))},
	}
	for _, tick := range []int64{math.MinInt64, -1, 10001, math.MaxInt64} {
		list = append(list, []keyPose{key(tick, at(1, 1))})
	}
	for _, joints := range invalidPoses() {
		list = append(list, []keyPose{{Tick: 1, Joints: joints}}, []keyPose{key(0, at(1, 1)), {Tick: 1, Joints: joints}}, []keyPose{{Tick: 0, Joints: joints}, {Tick: 1, Joints: joints}})
	}
	return list
}

// nearest rounds r to the nearest whole number, a half upwards.
func nearest(r *big.Rat) int64 {
	more := new(big.Rat).Add(r, half)
	return new(big.Int).Div(more.Num(), more.Denom()).Int64()
}

func wantCoordinate(a, b, part, parts int64) int64 {
	way := new(big.Rat).Mul(big.NewRat(part, parts), big.NewRat(b-a, 1))
	return nearest(way.Add(way, big.NewRat(a, 1)))
}

func wantBetween(a, b []point, part, parts int64) []point {
	var joints []point
	for i := range a {
		joints = append(joints, at(wantCoordinate(a[i].X, b[i].X, part, parts), wantCoordinate(a[i].Y, b[i].Y, part, parts)))
	}
	return joints
}

// wantPoseAt takes the first pair of key poses around the tick.
func wantPoseAt(list []keyPose, tick int64) []point {
	for i := 1; i < len(list); i++ {
		if from, to := list[i-1], list[i]; tick <= to.Tick {
			return wantBetween(from.Joints, to.Joints, tick-from.Tick, to.Tick-from.Tick)
		}
	}
	return list[0].Joints
}

func sameKeys(a, b []keyPose) bool {
	return slices.EqualFunc(a, b, func(k, l keyPose) bool { return k.Tick == l.Tick && slices.Equal(k.Joints, l.Joints) })
}

func sameKey(a, b keyPose) bool { return sameKeys([]keyPose{a}, []keyPose{b}) }

func TestValidPose(t *testing.T) {
	valid := [][]point{{at(0, 0)}, {at(1000, 1000)}, {at(0, 1000), at(1000, 0)}, {at(5, 5), at(5, 5)}}
	for many := int64(1); many <= 8; many++ {
		valid = append(valid, crowd(many))
	}
	for _, joints := range valid {
		if !impl.ValidPose(joints) {
			t.Errorf("ValidPose(%v) = false", joints)
		}
	}
	for _, joints := range invalidPoses() {
		if impl.ValidPose(joints) {
			t.Errorf("ValidPose(%v) = true", joints)
		}
	}
	for place := range 8 {
		for _, bad := range []point{at(1001, 0), at(0, 1001), at(-1, 0), at(0, -1)} {
			joints := crowd(8)
			joints[place] = bad
			if impl.ValidPose(joints) {
				t.Errorf("ValidPose(%v) = true", joints)
			}
		}
	}
}

func TestSamePose(t *testing.T) {
	same := [][2][]point{{nil, nil}, {nil, {}}, {{}, {}}, {{at(1, 2)}, {at(1, 2)}}, {crowd(8), crowd(8)}, {crowd(20), crowd(20)}, {{at(math.MinInt64, -1)}, {at(math.MinInt64, -1)}}}
	for _, p := range same {
		if !impl.SamePose(p[0], p[1]) || !impl.SamePose(p[1], p[0]) {
			t.Errorf("SamePose(%v, %v) = false", p[0], p[1])
		}
	}
	differ := [][2][]point{
		{nil, {at(0, 0)}}, {{at(1, 2)}, {at(2, 1)}}, {{at(1, 2)}, {at(1, 3)}}, {{at(1, 2)}, {at(0, 2)}}, {{at(1, 2)}, {at(1, 2), at(0, 0)}},
		{{at(1, 2), at(3, 4)}, {at(3, 4), at(1, 2)}}, {crowd(8), crowd(7)}, {{at(math.MinInt64, 0)}, {at(math.MaxInt64, 0)}}, {{at(-1, 0)}, {at(1, 0)}},
	}
	for _, p := range differ {
		if impl.SamePose(p[0], p[1]) || impl.SamePose(p[1], p[0]) {
			t.Errorf("SamePose(%v, %v) = true", p[0], p[1])
		}
	}
	long := append(crowd(8), at(9, 9))
	if !impl.SamePose(long[:8], crowd(8)) {
		t.Error("SamePose looks at what lies behind a list")
	}
}

func TestValidKeys(t *testing.T) {
	for _, list := range sampleKeys() {
		if !impl.ValidKeys(list) {
			t.Errorf("ValidKeys(%v) = false", list)
		}
	}
	for _, list := range invalidKeys() {
		if impl.ValidKeys(list) {
			t.Errorf("ValidKeys(%v) = true", list)
		}
	}
}

func TestPoseBetween(t *testing.T) {
	cases := []struct {
		a, b        []point
		part, parts int64
		want        []point
	}{
		{pose(at(0, 0)), pose(at(9, 4)), 1, 2, pose(at(5, 2))},
		{pose(at(9, 4)), pose(at(0, 0)), 1, 2, pose(at(5, 2))},
		{pose(at(0, 3)), pose(at(1, 2)), 1, 2, pose(at(1, 3))},
		{pose(at(0, 0)), pose(at(1, 2)), 1, 4, pose(at(0, 1))},
		{pose(at(0, 0)), pose(at(1, 2)), 3, 4, pose(at(1, 2))},
		{pose(at(0, 0)), pose(at(10, 100)), 1, 3, pose(at(3, 33))},
		{pose(at(0, 0)), pose(at(10, 100)), 2, 3, pose(at(7, 67))},
		{pose(at(0, 0)), pose(at(1, 1000)), 4999, 10000, pose(at(0, 500))},
		{pose(at(0, 0)), pose(at(1, 1000)), 5000, 10000, pose(at(1, 500))},
		{pose(at(0, 0)), pose(at(1, 1000)), 4, 10000, pose(at(0, 0))},
		{pose(at(0, 0)), pose(at(1, 1000)), 5, 10000, pose(at(0, 1))},
		{pose(at(1000, 1000)), pose(at(0, 1000)), 9999, 10000, pose(at(0, 1000))},
		{pose(at(1000, 1000)), pose(at(0, 1000)), 9995, 10000, pose(at(1, 1000))},
		{pose(at(7, 9)), pose(at(1000, 0)), 0, 1, pose(at(7, 9))},
		{pose(at(7, 9)), pose(at(1000, 0)), 1, 1, pose(at(1000, 0))},
		{pose(at(0, 0), at(5, 5), at(4, 1)), pose(at(2, 2), at(5, 5), at(0, 2)), 1, 2, pose(at(1, 1), at(5, 5), at(2, 2))},
	}
	for _, c := range cases {
		if got, code := impl.PoseBetween(c.a, c.b, c.part, c.parts); !slices.Equal(got, c.want) || code != impl.OK {
			t.Errorf("PoseBetween(%v, %v, %d, %d) = %v, %d, want %v", c.a, c.b, c.part, c.parts, got, code, c.want)
		}
	}
}

// TestPoseBetweenIsNearest checks the rounding of all parts, just between two whole numbers among them.
func TestPoseBetweenIsNearest(t *testing.T) {
	places := []int64{0, 1, 2, 3, 4, 5, 9, 10, 499, 500, 501, 998, 999, 1000}
	for _, parts := range []int64{1, 2, 3, 4, 6, 7, 10, 16, 1000, 9999, 10000} {
		stride := 1 + parts/20
		for part := int64(0); part <= parts; part += stride {
			for _, x := range places {
				for _, y := range places {
					a, b := pose(at(x, y), at(y, x)), pose(at(y, x), at(1000-x, y))
					got, code := impl.PoseBetween(a, b, part, parts)
					if want := wantBetween(a, b, part, parts); !slices.Equal(got, want) || code != impl.OK {
						t.Fatalf("PoseBetween(%v, %v, %d, %d) = %v, %d, want %v", a, b, part, parts, got, code, want)
					}
				}
			}
		}
	}
}

func isBetween(n, a, b int64) bool { return min(a, b) <= n && n <= max(a, b) }

// TestPoseLiesBetween checks promise 4, and that the ends of the way are the two poses themselves.
func TestPoseLiesBetween(t *testing.T) {
	a := pose(at(0, 1000), at(1000, 0), at(500, 500), at(1, 0), at(999, 1000), at(0, 3), at(17, 400), at(1000, 1000))
	b := pose(at(1000, 0), at(0, 1000), at(500, 501), at(0, 1), at(1000, 999), at(0, 3), at(400, 17), at(1000, 1000))
	for _, parts := range []int64{1, 2, 3, 5, 8, 60, 1000, 10000} {
		before := a
		for part := int64(0); part <= parts; part++ {
			got, code := impl.PoseBetween(a, b, part, parts)
			if code != impl.OK || !impl.ValidPose(got) || len(got) != len(a) {
				t.Fatalf("PoseBetween(a, b, %d, %d) = %v, %d", part, parts, got, code)
			}
			for i, joint := range got {
				inX := isBetween(joint.X, a[i].X, b[i].X) && isBetween(joint.X, before[i].X, b[i].X)
				inY := isBetween(joint.Y, a[i].Y, b[i].Y) && isBetween(joint.Y, before[i].Y, b[i].Y)
				if !inX || !inY {
					t.Fatalf("PoseBetween(a, b, %d, %d): the joint %d at %v is not between %v and %v", part, parts, i, joint, before[i], b[i])
				}
			}
			if part == 0 && !slices.Equal(got, a) || part == parts && !slices.Equal(got, b) {
				t.Fatalf("PoseBetween(a, b, %d, %d) = %v", part, parts, got)
			}
			before = got
		}
	}
}

func TestPoseBetweenErrors(t *testing.T) {
	one, two := pose(at(1, 1)), pose(at(1, 1), at(2, 2))
	cases := []struct {
		a, b        []point
		part, parts int64
		code        int64
	}{
		{one, one, 0, 10000, impl.OK},
		{one, one, 10000, 10000, impl.OK},
		{one, one, 0, 1, impl.OK},
		{one, one, 0, 10001, impl.ErrRange},
		{one, one, 0, 0, impl.ErrRange},
		{one, one, 0, -1, impl.ErrRange},
		{one, one, -1, -1, impl.ErrRange},
		{one, one, -1, 2, impl.ErrRange},
		{one, one, 3, 2, impl.ErrRange},
		{one, one, math.MinInt64, 2, impl.ErrRange},
		{one, one, math.MaxInt64, 2, impl.ErrRange},
		{one, one, math.MinInt64, math.MinInt64, impl.ErrRange},
		{one, one, math.MaxInt64, math.MaxInt64, impl.ErrRange},
		{one, two, 1, 2, impl.ErrFormat},
		{two, one, 1, 2, impl.ErrFormat},
		{crowd(8), crowd(7), 0, 1, impl.ErrFormat},
		{one, two, 3, 2, impl.ErrRange},
		{two, one, 0, 0, impl.ErrRange},
		{two, one, 0, 10001, impl.ErrRange},
	}
	for _, c := range cases {
		got, code := impl.PoseBetween(c.a, c.b, c.part, c.parts)
		if code != c.code || code != impl.OK && len(got) != 0 {
			t.Errorf("PoseBetween(%v, %v, %d, %d) = %v, %d, want the code %d", c.a, c.b, c.part, c.parts, got, code, c.code)
		}
	}
	for _, bad := range invalidPoses() {
		for _, other := range append(invalidPoses(), one, two) {
			for _, parts := range []int64{-1, 0, 1, 2, 10001} {
				got, code := impl.PoseBetween(bad, other, 1, parts)
				back, backCode := impl.PoseBetween(other, bad, 1, parts)
				if len(got) != 0 || code != impl.ErrInvalid || len(back) != 0 || backCode != impl.ErrInvalid {
					t.Errorf("PoseBetween of %v and %v with %d parts: %v, %d and %v, %d, want ErrInvalid", bad, other, parts, got, code, back, backCode)
				}
			}
		}
	}
}

func TestPoseAt(t *testing.T) {
	list := []keyPose{key(10, at(0, 0)), key(14, at(9, 4)), key(20, at(9, 4)), key(22, at(0, 1))}
	cases := map[int64]point{10: at(0, 0), 11: at(2, 1), 12: at(5, 2), 13: at(7, 3), 14: at(9, 4), 15: at(9, 4), 19: at(9, 4), 20: at(9, 4), 21: at(5, 3), 22: at(0, 1)}
	for tick, want := range cases {
		if got, code := impl.PoseAt(list, tick); !slices.Equal(got, pose(want)) || code != impl.OK {
			t.Errorf("PoseAt(list, %d) = %v, %d, want %v", tick, got, code, want)
		}
	}
	for _, list := range sampleKeys() {
		first, last := list[0].Tick, list[len(list)-1].Tick
		for tick := first; tick <= last; tick++ {
			want := wantPoseAt(list, tick)
			if got, code := impl.PoseAt(list, tick); !slices.Equal(got, want) || code != impl.OK {
				t.Fatalf("PoseAt(%v, %d) = %v, %d, want %v", list, tick, got, code, want)
			}
		}
		for _, k := range list {
			if got, code := impl.PoseAt(list, k.Tick); !slices.Equal(got, k.Joints) || code != impl.OK {
				t.Errorf("PoseAt(%v, %d) = %v, %d, want the key pose", list, k.Tick, got, code)
			}
		}
	}
}

func TestPoseAtErrors(t *testing.T) {
	for _, list := range sampleKeys() {
		first, last := list[0].Tick, list[len(list)-1].Tick
		for _, tick := range append([]int64{first - 1, last + 1, -1, 10001}, extremes...) {
			got, code := impl.PoseAt(list, tick)
			inside := tick >= first && tick <= last
			if inside != (code == impl.OK) || !inside && (code != impl.ErrRange || len(got) != 0) {
				t.Errorf("PoseAt(%v, %d) = %v, %d", list, tick, got, code)
			}
		}
	}
	for _, list := range invalidKeys() {
		for _, tick := range append([]int64{5, 10001}, extremes...) {
			if got, code := impl.PoseAt(list, tick); len(got) != 0 || code != impl.ErrInvalid {
				t.Errorf("PoseAt(%v, %d) = %v, %d, want ErrInvalid", list, tick, got, code)
			}
		}
	}
}

func TestAllPoses(t *testing.T) {
	list := []keyPose{key(10, at(0, 0)), key(14, at(9, 4)), key(20, at(9, 4))}
	cases := map[int64][]point{
		1:  pose(at(0, 0), at(2, 1), at(5, 2), at(7, 3), at(9, 4), at(9, 4), at(9, 4), at(9, 4), at(9, 4), at(9, 4), at(9, 4)),
		2:  pose(at(0, 0), at(5, 2), at(9, 4), at(9, 4), at(9, 4), at(9, 4)),
		3:  pose(at(0, 0), at(7, 3), at(9, 4), at(9, 4)),
		4:  pose(at(0, 0), at(9, 4), at(9, 4)),
		9:  pose(at(0, 0), at(9, 4)),
		10: pose(at(0, 0), at(9, 4)),
		11: pose(at(0, 0)), 10000: pose(at(0, 0)),
	}
	for step, want := range cases {
		got, code := impl.AllPoses(list, step)
		if code != impl.OK || !slices.EqualFunc(got, want, func(joints []point, one point) bool { return slices.Equal(joints, pose(one)) }) {
			t.Errorf("AllPoses(list, %d) = %v, %d, want %v", step, got, code, want)
		}
	}
	for _, list := range sampleKeys() {
		for _, step := range []int64{1, 2, 3, 7, 10, 33, 90, 91, 99, 100, 101, 102, 9000, 9999, 10000} {
			checkAllPoses(t, list, step)
		}
	}
}

func checkAllPoses(t *testing.T, list []keyPose, step int64) {
	t.Helper()
	var want [][]point
	for tick := list[0].Tick; tick <= list[len(list)-1].Tick; tick += step {
		want = append(want, wantPoseAt(list, tick))
	}
	got, code := impl.AllPoses(list, step)
	if len(want) > 100 {
		if len(got) != 0 || code != impl.ErrFull {
			t.Errorf("AllPoses(%v, %d) has %d poses, %d, want ErrFull", list, step, len(got), code)
		}
	} else if !slices.EqualFunc(got, want, slices.Equal) || code != impl.OK {
		t.Errorf("AllPoses(%v, %d) = %v, %d, want %v", list, step, got, code, want)
	}
}

func TestAllPosesThatAreJustAllowed(t *testing.T) {
	cases := []struct {
		first, last, step int64
		many              int
		code              int64
	}{
		{0, 99, 1, 100, impl.OK},
		{0, 100, 1, 0, impl.ErrFull},
		{9901, 10000, 1, 100, impl.OK},
		{9900, 10000, 1, 0, impl.ErrFull},
		{0, 10000, 102, 99, impl.OK},
		{0, 10000, 101, 100, impl.OK},
		{0, 10000, 100, 0, impl.ErrFull},
		{0, 9999, 100, 100, impl.OK},
		{1, 10000, 100, 100, impl.OK},
		{0, 10000, 10000, 2, impl.OK},
		{0, 9999, 10000, 1, impl.OK},
		{0, 10000, 1, 0, impl.ErrFull},
		{0, 10000, 0, 0, impl.ErrRange},
		{0, 10000, -1, 0, impl.ErrRange},
		{0, 10000, 10001, 0, impl.ErrRange},
	}
	for _, c := range cases {
		got, code := impl.AllPoses([]keyPose{key(c.first, at(0, 9)), key(c.last, at(9, 0))}, c.step)
		if len(got) != c.many || code != c.code {
			t.Errorf("AllPoses from %d to %d with the step %d: %d poses, %d, want %d, %d", c.first, c.last, c.step, len(got), code, c.many, c.code)
		}
	}
}

func TestAllPosesErrors(t *testing.T) {
	for _, step := range append([]int64{10000, 10001}, extremes...) {
		got, code := impl.AllPoses([]keyPose{key(7, at(3, 4))}, step)
		inside := step >= 1 && step <= 10000
		if inside != (code == impl.OK) || inside && (len(got) != 1 || !slices.Equal(got[0], pose(at(3, 4)))) || !inside && (code != impl.ErrRange || len(got) != 0) {
			t.Errorf("AllPoses of one key pose with the step %d: %v, %d", step, got, code)
		}
		for _, list := range invalidKeys() {
			if got, code := impl.AllPoses(list, step); len(got) != 0 || code != impl.ErrInvalid {
				t.Errorf("AllPoses(%v, %d) = %v, %d, want ErrInvalid", list, step, got, code)
			}
		}
	}
}

func TestGreatestMove(t *testing.T) {
	cases := []struct {
		a, b          []point
		joint, square int64
	}{
		{pose(at(1, 1), at(5, 5)), pose(at(1, 2), at(2, 1)), 1, 25},
		{pose(at(2, 1), at(1, 2)), pose(at(5, 5), at(1, 1)), 0, 25},
		{pose(at(0, 0)), pose(at(0, 0)), 0, 0},
		{crowd(8), crowd(8), 0, 0},
		{pose(at(0, 0)), pose(at(1000, 1000)), 0, 2000000},
		{pose(at(1000, 0)), pose(at(0, 1000)), 0, 2000000},
		{pose(at(0, 0), at(0, 0), at(0, 0)), pose(at(1, 0), at(3, 4), at(5, 0)), 1, 25},
		{pose(at(0, 0), at(9, 9), at(0, 0)), pose(at(5, 0), at(6, 5), at(4, 3)), 0, 25},
		{pose(at(0, 0), at(0, 0)), pose(at(7, 0), at(5, 5)), 1, 50},
		{pose(at(0, 0), at(0, 0)), pose(at(6, 6), at(8, 2)), 0, 72},
		{pose(at(9, 9), at(9, 9), at(9, 9)), pose(at(9, 9), at(9, 9), at(9, 8)), 2, 1},
	}
	for _, c := range cases {
		if joint, square, code := impl.GreatestMove(c.a, c.b); joint != c.joint || square != c.square || code != impl.OK {
			t.Errorf("GreatestMove(%v, %v) = %d, %d, %d, want %d, %d", c.a, c.b, joint, square, code, c.joint, c.square)
		}
		if joint, square, code := impl.GreatestMove(c.b, c.a); joint != c.joint || square != c.square || code != impl.OK {
			t.Errorf("GreatestMove(%v, %v) = %d, %d, %d, want %d, %d", c.b, c.a, joint, square, code, c.joint, c.square)
		}
	}
	for place := range 8 {
		b := crowd(8)
		b[place].Y--
		if place < 7 {
			b[7].X++
		}
		if joint, square, code := impl.GreatestMove(crowd(8), b); joint != int64(place) || square != 1 || code != impl.OK {
			t.Errorf("GreatestMove(crowd, %v) = %d, %d, %d, want %d, 1", b, joint, square, code, place)
		}
	}
}

func TestGreatestMoveErrors(t *testing.T) {
	one, two := pose(at(1, 1)), pose(at(1, 1), at(2, 2))
	for _, p := range [][2][]point{{one, two}, {two, one}, {crowd(7), crowd(8)}} {
		if joint, square, code := impl.GreatestMove(p[0], p[1]); joint != 0 || square != 0 || code != impl.ErrFormat {
			t.Errorf("GreatestMove(%v, %v) = %d, %d, %d, want ErrFormat", p[0], p[1], joint, square, code)
		}
	}
	for _, bad := range invalidPoses() {
		for _, other := range append(invalidPoses(), one, two) {
			for _, p := range [][2][]point{{bad, other}, {other, bad}} {
				if joint, square, code := impl.GreatestMove(p[0], p[1]); joint != 0 || square != 0 || code != impl.ErrInvalid {
					t.Errorf("GreatestMove(%v, %v) = %d, %d, %d, want ErrInvalid", p[0], p[1], joint, square, code)
				}
			}
		}
	}
}

func TestMirrorPose(t *testing.T) {
	cases := []struct {
		joints []point
		width  int64
		want   []point
		code   int64
	}{
		{pose(at(9, 4)), 10, pose(at(1, 4)), impl.OK},
		{pose(at(9, 4)), 9, pose(at(0, 4)), impl.OK},
		{pose(at(9, 4)), 8, nil, impl.ErrState},
		{pose(at(9, 4)), 1000, pose(at(991, 4)), impl.OK},
		{pose(at(0, 1000)), 0, pose(at(0, 1000)), impl.OK},
		{pose(at(1, 0)), 0, nil, impl.ErrState},
		{pose(at(1000, 0)), 1000, pose(at(0, 0)), impl.OK},
		{pose(at(1000, 0)), 999, nil, impl.ErrState},
		{pose(at(0, 0), at(3, 9), at(5, 1)), 5, pose(at(5, 0), at(2, 9), at(0, 1)), impl.OK},
		{pose(at(0, 0), at(3, 9), at(5, 1)), 4, nil, impl.ErrState},
		{pose(at(5, 1), at(0, 0)), 4, nil, impl.ErrState},
		{pose(at(9, 4)), -1, nil, impl.ErrRange},
		{pose(at(9, 4)), 1001, nil, impl.ErrRange},
		{pose(at(9, 4)), math.MinInt64, nil, impl.ErrRange},
		{pose(at(9, 4)), math.MaxInt64, nil, impl.ErrRange},
	}
	for _, c := range cases {
		if got, code := impl.MirrorPose(c.joints, c.width); !slices.Equal(got, c.want) || code != c.code {
			t.Errorf("MirrorPose(%v, %d) = %v, %d, want %v, %d", c.joints, c.width, got, code, c.want, c.code)
		}
	}
	for width := int64(700); width <= 1000; width++ {
		mirrored, code := impl.MirrorPose(crowd(8), width)
		back, backCode := impl.MirrorPose(mirrored, width)
		if code != impl.OK || backCode != impl.OK || !slices.Equal(back, crowd(8)) {
			t.Errorf("mirrored twice with the width %d: %v, %d, %d", width, back, code, backCode)
		}
	}
	for _, bad := range invalidPoses() {
		for _, width := range []int64{-1, 0, 10, 1000, 1001} {
			if got, code := impl.MirrorPose(bad, width); len(got) != 0 || code != impl.ErrInvalid {
				t.Errorf("MirrorPose(%v, %d) = %v, %d, want ErrInvalid", bad, width, got, code)
			}
		}
	}
}

func TestNeedlessKeys(t *testing.T) {
	cases := []struct {
		list []keyPose
		want []int64
	}{
		{[]keyPose{key(0, at(0, 0)), key(2, at(5, 2)), key(4, at(9, 4))}, []int64{1}},
		{[]keyPose{key(0, at(0, 0)), key(2, at(4, 2)), key(4, at(9, 4))}, nil},
		{[]keyPose{key(0, at(9, 4)), key(2, at(5, 2)), key(4, at(0, 0))}, []int64{1}},
		{[]keyPose{key(0, at(0, 0)), key(2, at(5, 3)), key(4, at(9, 4))}, nil},
		{[]keyPose{key(10, at(0, 0)), key(14, at(9, 4)), key(20, at(9, 4))}, nil},
		{[]keyPose{key(10, at(0, 0)), key(13, at(7, 3)), key(14, at(9, 4))}, []int64{1}},
		{[]keyPose{key(0, at(3, 3))}, nil},
		{[]keyPose{key(0, at(3, 3)), key(9, at(3, 3))}, nil},
		{[]keyPose{key(0, at(3, 3)), key(1, at(3, 3)), key(9, at(3, 3)), key(10, at(3, 3))}, []int64{1, 2}},
		{[]keyPose{key(0, at(0, 0)), key(1, at(1, 1)), key(2, at(2, 2)), key(3, at(4, 4)), key(4, at(6, 6))}, []int64{1, 3}},
		{[]keyPose{key(0, at(0, 0), at(0, 0)), key(1, at(1, 1), at(1, 1)), key(2, at(2, 2), at(2, 3))}, nil},
		{[]keyPose{key(0, at(0, 0), at(0, 0)), key(1, at(1, 1), at(1, 2)), key(2, at(2, 2), at(2, 3))}, []int64{1}},
		{line(10, 0, 1), []int64{1, 2, 3, 4, 5, 6, 7, 8}},
	}
	for _, c := range cases {
		if got, code := impl.NeedlessKeys(c.list); !slices.Equal(got, c.want) || code != impl.OK {
			t.Errorf("NeedlessKeys(%v) = %v, %d, want %v", c.list, got, code, c.want)
		}
	}
}

// TestNeedlessKeysCanBeLeftOut checks that a key pose is told just if its neighbours alone show it too.
func TestNeedlessKeysCanBeLeftOut(t *testing.T) {
	for _, list := range sampleKeys() {
		var want []int64
		for i := 1; i+1 < len(list); i++ {
			pair := []keyPose{list[i-1], list[i+1]}
			if shown, code := impl.PoseAt(pair, list[i].Tick); code == impl.OK && slices.Equal(shown, list[i].Joints) {
				want = append(want, int64(i))
			}
		}
		if got, code := impl.NeedlessKeys(list); !slices.Equal(got, want) || code != impl.OK {
			t.Errorf("NeedlessKeys(%v) = %v, %d, want %v", list, got, code, want)
		}
	}
	for _, list := range invalidKeys() {
		if got, code := impl.NeedlessKeys(list); len(got) != 0 || code != impl.ErrInvalid {
			t.Errorf("NeedlessKeys(%v) = %v, %d, want ErrInvalid", list, got, code)
		}
	}
}

func TestStretchKeys(t *testing.T) {
	cases := []struct {
		list  []keyPose
		times int64
		want  []keyPose
		code  int64
	}{
		{[]keyPose{key(10, at(0, 0)), key(14, at(9, 4)), key(20, at(9, 4))}, 3, []keyPose{key(10, at(0, 0)), key(22, at(9, 4)), key(40, at(9, 4))}, impl.OK},
		{[]keyPose{key(0, at(0, 0)), key(1, at(1, 1))}, 100, []keyPose{key(0, at(0, 0)), key(100, at(1, 1))}, impl.OK},
		{[]keyPose{key(0, at(0, 0)), key(100, at(1, 1))}, 100, []keyPose{key(0, at(0, 0)), key(10000, at(1, 1))}, impl.OK},
		{[]keyPose{key(0, at(0, 0)), key(101, at(1, 1))}, 100, nil, impl.ErrFull},
		{[]keyPose{key(1, at(0, 0)), key(101, at(1, 1))}, 100, nil, impl.ErrFull},
		{[]keyPose{key(0, at(0, 0)), key(5000, at(1, 1))}, 2, []keyPose{key(0, at(0, 0)), key(10000, at(1, 1))}, impl.OK},
		{[]keyPose{key(2, at(0, 0)), key(5001, at(1, 1))}, 2, []keyPose{key(2, at(0, 0)), key(10000, at(1, 1))}, impl.OK},
		{[]keyPose{key(1, at(0, 0)), key(5001, at(1, 1))}, 2, nil, impl.ErrFull},
		{[]keyPose{key(0, at(0, 0)), key(10000, at(1, 1))}, 1, []keyPose{key(0, at(0, 0)), key(10000, at(1, 1))}, impl.OK},
		{[]keyPose{key(0, at(0, 0)), key(10000, at(1, 1))}, 100, nil, impl.ErrFull},
		{[]keyPose{key(10000, at(5, 5))}, 100, []keyPose{key(10000, at(5, 5))}, impl.OK},
		{[]keyPose{key(0, at(0, 0)), key(10000, at(1, 1))}, 0, nil, impl.ErrRange},
		{[]keyPose{key(0, at(0, 0)), key(10000, at(1, 1))}, 101, nil, impl.ErrRange},
		{[]keyPose{key(0, at(0, 0)), key(10000, at(1, 1))}, -1, nil, impl.ErrRange},
		{[]keyPose{key(0, at(0, 0)), key(10000, at(1, 1))}, math.MinInt64, nil, impl.ErrRange},
		{[]keyPose{key(0, at(0, 0)), key(10000, at(1, 1))}, math.MaxInt64, nil, impl.ErrRange},
	}
	for _, c := range cases {
		if got, code := impl.StretchKeys(c.list, c.times); !sameKeys(got, c.want) || code != c.code {
			t.Errorf("StretchKeys(%v, %d) = %v, %d, want %v, %d", c.list, c.times, got, code, c.want, c.code)
		}
	}
	for _, list := range invalidKeys() {
		for _, times := range []int64{-1, 0, 1, 3, 100, 101} {
			if got, code := impl.StretchKeys(list, times); len(got) != 0 || code != impl.ErrInvalid {
				t.Errorf("StretchKeys(%v, %d) = %v, %d, want ErrInvalid", list, times, got, code)
			}
		}
	}
}

// TestStretchedKeysShowTheSame checks that a pose comes so many times later.
func TestStretchedKeysShowTheSame(t *testing.T) {
	for _, list := range sampleKeys() {
		first, last := list[0].Tick, list[len(list)-1].Tick
		for _, times := range []int64{1, 2, 3, 10, 100} {
			stretched, code := impl.StretchKeys(list, times)
			if fits := first+(last-first)*times <= 10000; fits != (code == impl.OK) || !fits && (code != impl.ErrFull || len(stretched) != 0) {
				t.Errorf("StretchKeys(%v, %d) = %v, %d", list, times, stretched, code)
			}
			if code != impl.OK {
				continue
			}
			for tick := first; tick <= last; tick++ {
				got, code := impl.PoseAt(stretched, first+(tick-first)*times)
				if want := wantPoseAt(list, tick); !slices.Equal(got, want) || code != impl.OK {
					t.Fatalf("stretched %d times, %v shows %v, %d at the tick %d, want %v", times, list, got, code, tick, want)
				}
			}
		}
	}
}

// spare returns a copy of list that stands within a longer one, so that what lies behind it can be watched.
func spare[T any](list []T, filler T) []T {
	long := append(slices.Clone(list), filler, filler, filler)
	return long[:len(list):len(long)]
}

func spareKeys(list []keyPose) []keyPose {
	long := spare(list, key(9, at(7, 7)))
	for i := range long {
		long[i].Joints = spare(long[i].Joints, at(-7, -7))
	}
	return long
}

// whole returns all that belongs to the memory of list.
func whole[T any](list []T) []T { return list[:cap(list)] }

func copyKeys(list []keyPose) []keyPose {
	copied := slices.Clone(whole(list))
	for i := range copied {
		copied[i].Joints = slices.Clone(whole(copied[i].Joints))
	}
	return copied
}

func untouched(list, before []keyPose) bool {
	return slices.EqualFunc(whole(list), before, func(k, l keyPose) bool { return k.Tick == l.Tick && slices.Equal(whole(k.Joints), l.Joints) })
}

// spoil changes all that belongs to the memory of a result.
func spoil(joints []point) {
	for i := range whole(joints) {
		whole(joints)[i] = at(-1, -1)
	}
}

func spoilKeys(list []keyPose) {
	for i := range whole(list) {
		spoil(whole(list)[i].Joints)
		whole(list)[i] = key(-1)
	}
}

// TestPosesAreNew checks that results share memory neither with arguments nor with each other, and that arguments are left alone.
func TestPosesAreNew(t *testing.T) {
	for _, sample := range sampleKeys() {
		list := spareKeys(sample)
		before := copyKeys(list)
		a, b := list[0].Joints, list[len(list)-1].Joints
		results := []func() []point{
			func() []point { joints, _ := impl.PoseBetween(a, b, 0, 3); return joints },
			func() []point { joints, _ := impl.PoseBetween(a, b, 3, 3); return joints },
			func() []point { joints, _ := impl.PoseBetween(a, b, 1, 3); return joints },
			func() []point { joints, _ := impl.PoseAt(list, list[0].Tick); return joints },
			func() []point { joints, _ := impl.PoseAt(list, list[len(list)-1].Tick); return joints },
			func() []point { joints, _ := impl.PoseAt(list, (list[0].Tick+list[len(list)-1].Tick)/2); return joints },
			func() []point { joints, _ := impl.MirrorPose(a, 1000); return joints },
		}
		for i, result := range results {
			first, second := result(), result()
			want := slices.Clone(second)
			spoil(first)
			if len(want) == 0 || !slices.Equal(second, want) || !slices.Equal(result(), want) || !untouched(list, before) {
				t.Errorf("the function %d shares memory: %v, want %v, of %v", i, second, want, list)
			}
		}
		impl.GreatestMove(a, b)
		impl.NeedlessKeys(list)
		impl.SamePose(a, b)
		if !impl.ValidKeys(list) || !untouched(list, before) {
			t.Errorf("the key poses %v have been changed: %v", before, list)
		}
	}
}

func TestListsOfPosesAreNew(t *testing.T) {
	for _, sample := range sampleKeys() {
		list := spareKeys(sample)
		before := copyKeys(list)
		step := max(1, (list[len(list)-1].Tick-list[0].Tick)/20)
		all, _ := impl.AllPoses(list, step)
		for i := range all {
			rest := [][]point{}
			for _, joints := range all[i+1:] {
				rest = append(rest, slices.Clone(joints))
			}
			spoil(all[i])
			if !slices.EqualFunc(all[i+1:], rest, slices.Equal) || !untouched(list, before) {
				t.Fatalf("AllPoses(%v, %d): the pose %d shares memory", list, step, i)
			}
		}
		checkAllPoses(t, list, step)

		stretched, _ := impl.StretchKeys(list, 1)
		for i := range stretched {
			spoil(stretched[i].Joints)
			if !slices.EqualFunc(stretched[i+1:], list[i+1:], sameKey) || !untouched(list, before) {
				t.Fatalf("StretchKeys(%v, 1): the key pose %d shares memory", list, i)
			}
		}
		spoilKeys(stretched)
		if again, code := impl.StretchKeys(list, 1); !sameKeys(again, list) || code != impl.OK || !untouched(list, before) {
			t.Errorf("StretchKeys(%v, 1) = %v, %d", list, again, code)
		}

		needless, _ := impl.NeedlessKeys(list)
		want := slices.Clone(needless)
		for i := range whole(needless) {
			whole(needless)[i] = -1
		}
		if again, _ := impl.NeedlessKeys(list); !slices.Equal(again, want) {
			t.Errorf("NeedlessKeys(%v) = %v, want %v", list, again, want)
		}
	}
}

// TestStretchKeysOfSharedJoints checks that key poses that share their joints are stretched into ones that do not.
func TestStretchKeysOfSharedJoints(t *testing.T) {
	joints := pose(at(1, 2), at(3, 4))
	list := []keyPose{key(0, joints...), key(5, joints...), key(9, joints...)}
	stretched, code := impl.StretchKeys(list, 2)
	if code != impl.OK || len(stretched) != 3 {
		t.Fatalf("StretchKeys(%v, 2) = %v, %d", list, stretched, code)
	}
	spoil(stretched[1].Joints)
	want := pose(at(1, 2), at(3, 4))
	if !slices.Equal(joints, want) || !slices.Equal(stretched[0].Joints, want) || !slices.Equal(stretched[2].Joints, want) {
		t.Errorf("stretched key poses share their joints: %v, %v", stretched, joints)
	}
}

// TestPosesOfAllArguments checks that odd arguments are answered, twice in the same way, and with nothing beside an error.
func TestPosesOfAllArguments(t *testing.T) {
	poses := append(invalidPoses(), pose(at(0, 0)), crowd(8), pose(at(1000, 1000), at(0, 0)))
	for _, a := range poses {
		for _, b := range poses {
			joint, square, code := impl.GreatestMove(a, b)
			again, squareAgain, codeAgain := impl.GreatestMove(a, b)
			if joint != again || square != squareAgain || code != codeAgain || code != impl.OK && (joint != 0 || square != 0) {
				t.Errorf("GreatestMove(%v, %v) = %d, %d, %d", a, b, joint, square, code)
			}
			for _, n := range extremes {
				checkTwice(t, "PoseBetween", func() ([]point, int64) { return impl.PoseBetween(a, b, n, 1000) })
				checkTwice(t, "PoseBetween", func() ([]point, int64) { return impl.PoseBetween(a, b, 1, n) })
				checkTwice(t, "PoseBetween", func() ([]point, int64) { return impl.PoseBetween(a, b, n, n) })
			}
		}
		for _, n := range extremes {
			checkTwice(t, "MirrorPose", func() ([]point, int64) { return impl.MirrorPose(a, n) })
		}
	}
	for _, list := range append(invalidKeys(), sampleKeys()...) {
		checkTwice(t, "NeedlessKeys", func() ([]int64, int64) { return impl.NeedlessKeys(list) })
		for _, n := range extremes {
			checkTwice(t, "PoseAt", func() ([]point, int64) { return impl.PoseAt(list, n) })
			keys, code := impl.StretchKeys(list, n)
			again, codeAgain := impl.StretchKeys(list, n)
			if !sameKeys(keys, again) || code != codeAgain || code != impl.OK && len(keys) != 0 {
				t.Errorf("StretchKeys(%v, %d) = %v, %d, and then %v, %d", list, n, keys, code, again, codeAgain)
			}
			all, code := impl.AllPoses(list, n)
			allAgain, codeAgain := impl.AllPoses(list, n)
			if !slices.EqualFunc(all, allAgain, slices.Equal) || code != codeAgain || code != impl.OK && len(all) != 0 {
				t.Errorf("AllPoses(%v, %d) = %v, %d, and then %v, %d", list, n, all, code, allAgain, codeAgain)
			}
		}
	}
}

func checkTwice[T comparable](t *testing.T, name string, call func() ([]T, int64)) {
	t.Helper()
	first, code := call()
	second, codeAgain := call()
	if !slices.Equal(first, second) || code != codeAgain || code != impl.OK && len(first) != 0 {
		t.Errorf("%s: %v, %d, and then %v, %d", name, first, code, second, codeAgain)
	}
}

func TestExampleOfPoses(t *testing.T) {
	if got, code := impl.PoseBetween(pose(at(0, 0)), pose(at(9, 4)), 1, 2); !slices.Equal(got, pose(at(5, 2))) || code != impl.OK {
		t.Errorf("between a joint at 0, 0 and at 9, 4 lies %v, %d", got, code)
	}
}
