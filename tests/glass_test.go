package tests

import (
	"math"
	"slices"
	"testing"

	"loop.example/g03020/impl"
)

var (
	white    = impl.Colour{R: 1, G: 1, B: 1}
	amber    = impl.Colour{R: 0.9, G: 0.6, B: 0.1}
	allTurns = wantSyms(impl.MirrorStar)
)

func paneOf(a complex64, b complex64, c complex64) impl.Shard {
	return impl.Shard{A: a, B: b, C: c, Tint: amber, Clear: 0.25}
}

// gridPoints are the points with whole parts from -most to most.
func gridPoints(most int) []complex64 {
	var points []complex64
	for x := -most; x <= most; x++ {
		for y := -most; y <= most; y++ {
			points = append(points, complex(float32(x), float32(y)))
		}
	}
	return points
}

// gridShards are all shards with corners of a small grid: both ways round, and
// those without area, with two or three corners the same or all on one line.
func gridShards() []impl.Shard {
	var shards []impl.Shard
	for _, a := range gridPoints(1) {
		for _, b := range gridPoints(1) {
			for _, c := range gridPoints(1) {
				shards = append(shards, paneOf(a, b, c))
			}
		}
	}
	return shards
}

// roughPoints have parts for which sides are rounded, or are at the ends of what points may be.
func roughPoints() []complex64 {
	below := math.Nextafter32(impl.MaxReach, 0)
	return []complex64{
		complex(0.1, 0.1), complex(0.2, 0.3), complex(0.9, 1.7), complex(-0.7, 0.9), complex(1.0/3, -2.0/3),
		0, complex(minusZero(), 0), complex(0, minusZero()), complex(minusZero(), minusZero()),
		complex(tiny, -tiny), complex(-1e-38, 1e-30), complex(100.1, -33.3),
		complex(impl.MaxReach, impl.MaxReach), complex(-impl.MaxReach, below), complex(below, -impl.MaxReach),
		complex(-4095.9, 0.3), complex(-impl.MaxReach, -impl.MaxReach),
	}
}

func roughShards() []impl.Shard {
	points := roughPoints()
	var shards []impl.Shard
	for i, a := range points {
		for j, b := range points {
			shards = append(shards, paneOf(a, b, points[(i+2*j+3)%len(points)]))
		}
	}
	return shards
}

func goodShards() []impl.Shard {
	shards := append(gridShards(), roughShards()...)
	for _, tint := range goodColours() {
		shards = append(shards, impl.Shard{A: -1, B: 1, C: 2i, Tint: tint})
	}
	for _, clear := range shares() {
		shards = append(shards, impl.Shard{A: -1, B: 1, C: 2i, Clear: clear})
	}
	return shards
}

// badShards would all be valid, and have the middle in them, but for one thing.
func badShards() []impl.Shard {
	good := paneOf(complex(-3, -3), complex(3, -3), 3i)
	var shards []impl.Shard
	for _, bad := range badPoints() {
		a, b, c := good, good, good
		a.A, b.B, c.C = bad, bad, bad
		shards = append(shards, a, b, c)
	}
	for _, bad := range badColours() {
		s := good
		s.Tint = bad
		shards = append(shards, s)
	}
	for _, bad := range noShares() {
		s := good
		s.Clear = bad
		shards = append(shards, s)
	}
	return shards
}

func sameShardBits(s impl.Shard, r impl.Shard) bool {
	return sameBits(s.A, r.A) && sameBits(s.B, r.B) && sameBits(s.C, r.C) &&
		sameColourBits(s.Tint, r.Tint) && sameFloat(s.Clear, r.Clear)
}

func isPlainShard(s impl.Shard) bool {
	return sameShardBits(s, impl.Shard{})
}

func wantSide(a complex64, b complex64, p complex64) float32 {
	dx, dy := wantDifference(real(b), real(a)), wantDifference(imag(b), imag(a))
	ex, ey := wantDifference(real(p), real(a)), wantDifference(imag(p), imag(a))
	return wantDifference(wantProduct(dx, ey), wantProduct(dy, ex))
}

func wantIn(s impl.Shard, p complex64) bool {
	ab, bc, ca := wantSide(s.A, s.B, p), wantSide(s.B, s.C, p), wantSide(s.C, s.A, p)
	return ab >= 0 && bc >= 0 && ca >= 0 || ab <= 0 && bc <= 0 && ca <= 0
}

func wantArea(s impl.Shard) float32 {
	return wantProduct(0.5, float32(math.Abs(float64(wantSide(s.A, s.B, s.C)))))
}

// doubleArea is exact for points with small whole parts.
func doubleArea(a complex64, b complex64, c complex64) int {
	dx, dy := int(real(b)-real(a)), int(imag(b)-imag(a))
	ex, ey := int(real(c)-real(a)), int(imag(c)-imag(a))
	area := dx*ey - dy*ex
	return max(area, -area)
}

// isCovered tells without sides whether a point with whole parts lies in a shard:
// the three triangles that it makes with the edges have no more area than the
// shard. Of corners on one line it asks that the point be on this line.
func isCovered(s impl.Shard, p complex64) bool {
	a, b, c := doubleArea(p, s.A, s.B), doubleArea(p, s.B, s.C), doubleArea(p, s.C, s.A)
	if whole := doubleArea(s.A, s.B, s.C); whole != 0 {
		return a+b+c == whole
	}
	return a == 0 && b == 0 && c == 0
}

func TestIsShard(t *testing.T) {
	for _, s := range goodShards() {
		if !impl.IsShard(s) {
			t.Error("a shard is not taken as one:", s)
		}
	}
	for _, s := range badShards() {
		if impl.IsShard(s) {
			t.Error("taken as a shard:", s)
		}
	}
	if !impl.IsShard(impl.Shard{}) || !impl.IsShard(impl.Shard{Tint: white, Clear: 1}) {
		t.Error("the zero value, or clear white, is not taken as a shard")
	}
}

// stackOf has this many shards, in all of which the middle lies.
func stackOf(n int) []impl.Shard {
	var l []impl.Shard
	for i := range n {
		s := paneOf(complex(-4, -4), complex(float32(i+1), -1), complex(-1, float32(i+1)))
		s.Tint.G = float32(i) / 16
		s.Clear = float32(i) / 24
		l = append(l, s)
	}
	return l
}

// spoiltStacks are stacks with a shard that is not valid in each place, and one that is too long.
func spoiltStacks() [][]impl.Shard {
	bad := badShards()
	stacks := [][]impl.Shard{stackOf(impl.MaxShards + 1)}
	for n := 1; n <= impl.MaxShards; n++ {
		for place := range n {
			l := stackOf(n)
			l[place] = bad[(n*31+place*7)%len(bad)]
			stacks = append(stacks, l)
		}
	}
	for _, s := range bad {
		stacks = append(stacks, []impl.Shard{s}, []impl.Shard{{}, s}, []impl.Shard{s, {}})
	}
	return stacks
}

func TestAreShards(t *testing.T) {
	if !impl.AreShards(nil) || !impl.AreShards([]impl.Shard{}) {
		t.Error("no shards are not taken as shards")
	}
	for n := range impl.MaxShards + 1 {
		if !impl.AreShards(stackOf(n)) {
			t.Error("not taken as shards:", n)
		}
	}
	for _, l := range spoiltStacks() {
		if impl.AreShards(l) {
			t.Error("taken as shards:", l)
		}
	}
}

func TestSideOfIsExact(t *testing.T) {
	points := append(roughPoints(), gridPoints(1)...)
	for _, a := range points {
		for _, b := range points {
			for _, p := range points {
				if got, want := impl.SideOf(a, b, p), wantSide(a, b, p); !sameFloat(got, want) {
					t.Errorf("SideOf(%v, %v, %v) = %v, want %v", a, b, p, got, want)
				}
			}
		}
	}
}

// In each of these, rounding less often than after each step gives something else.
func TestSideOfRoundsEachStep(t *testing.T) {
	cases := []struct {
		a, b, p complex64
		want    float32
	}{
		{complex(0.1, 0.1), complex(0.2, 0.2), complex(0.2, 0.4), 0.02},
		{complex(0.1, 0.1), complex(0.2, 0.2), complex(1.3, 1.7), 0.040000014},
		{complex(0.1, 0.1), complex(0.2, 0.3), complex(0.9, 1.7), 0},
		{complex(0.1, 0.1), complex(0.9, 1.7), complex(0.2, 0.3), 0},
		{complex(0.1, 0.2), complex(0.2, 0.9), complex(0.4, 2.3), -1.4901161e-08},
		{complex(0.1, 0.2), complex(0.4, 2.3), complex(0.2, 0.9), 1.4901161e-08},
	}
	for _, c := range cases {
		if got := impl.SideOf(c.a, c.b, c.p); !sameFloat(got, c.want) {
			t.Errorf("SideOf(%v, %v, %v) = %v, want %v", c.a, c.b, c.p, got, c.want)
		}
	}
}

func TestSideOfAtTheEnds(t *testing.T) {
	far := complex64(complex(impl.MaxReach, impl.MaxReach))
	cases := []struct {
		a, b, p complex64
		want    float32
	}{
		{0, 4, 1 + 1i, 4},
		{4, 0, 1 + 1i, -4},
		{0, 4, 7, 0},
		{0, 2i, 1, -2},
		{1 + 1i, 1 + 1i, 3 - 2i, 0},
		{3 - 2i, 1 + 1i, 3 - 2i, 0},
		{complex(minusZero(), minusZero()), 0, complex(0, minusZero()), 0},
		{0, complex(0, tiny), complex(tiny, 0), 0},
		{-far, complex(impl.MaxReach, -impl.MaxReach), far, 8192 * 8192},
		{-far, far, complex(impl.MaxReach, -impl.MaxReach), -8192 * 8192},
	}
	for _, c := range cases {
		if got := impl.SideOf(c.a, c.b, c.p); !sameFloat(got, c.want) {
			t.Errorf("SideOf(%v, %v, %v) = %v, want %v", c.a, c.b, c.p, got, c.want)
		}
	}
}

func TestSideOfInvalid(t *testing.T) {
	for _, bad := range badPoints() {
		sides := []float32{
			impl.SideOf(bad, 4, 1+1i), impl.SideOf(0, bad, 1+1i), impl.SideOf(0, 4, bad), impl.SideOf(bad, bad, bad),
			impl.SideOf(bad, 1i, 3), impl.SideOf(2-1i, bad, 3), impl.SideOf(2-1i, 1i, bad),
		}
		for _, side := range sides {
			if !sameFloat(side, 0) {
				t.Errorf("SideOf with %v: %v", bad, sides)
			}
		}
	}
}

func TestInShardOnAGrid(t *testing.T) {
	for _, s := range gridShards() {
		for _, p := range gridPoints(2) {
			if got := impl.InShard(s, p); got != isCovered(s, p) {
				t.Errorf("InShard(%v, %v) = %v", s, p, got)
			}
		}
	}
	big := paneOf(complex(-3, -2), complex(4, -1), complex(1, 5))
	for _, p := range gridPoints(6) {
		if got := impl.InShard(big, p); got != isCovered(big, p) {
			t.Errorf("InShard(%v, %v) = %v", big, p, got)
		}
	}
}

func TestInShardOfRoundedSides(t *testing.T) {
	for _, s := range roughShards() {
		for _, p := range roughPoints() {
			if got, want := impl.InShard(s, p), wantIn(s, p); got != want {
				t.Errorf("InShard(%v, %v) = %v", s, p, got)
			}
		}
	}
}

func TestInShardOnEdgesAndCorners(t *testing.T) {
	near := paneOf(0, 4, 4i)
	far := paneOf(
		complex(-impl.MaxReach, -impl.MaxReach), complex(impl.MaxReach, -impl.MaxReach), complex(0, impl.MaxReach))
	rough := paneOf(complex(0.1, 0.1), complex(0.9, 1.7), complex(-0.7, 0.9))
	below := math.Nextafter32(impl.MaxReach, 0)
	cases := []struct {
		s    impl.Shard
		p    complex64
		want bool
	}{
		{near, 0, true},
		{near, complex(minusZero(), minusZero()), true},
		{near, 4, true},
		{near, 4i, true},
		{near, 2, true},
		{near, complex(2, 2), true},
		{near, complex(2, math.Nextafter32(2, 3)), false},
		{near, complex(2, math.Nextafter32(2, 1)), true},
		{near, complex(2, -1e-30), false},
		{near, complex(-1e-30, 2), false},
		{near, complex(math.Nextafter32(4, 5), 0), false},
		{near, complex(3, 3), false},
		{near, -4, false},
		{near, 8, false},
		{far, complex(impl.MaxReach, -impl.MaxReach), true},
		{far, complex(0, impl.MaxReach), true},
		{far, complex(0, -impl.MaxReach), true},
		{far, complex(0, -below), true},
		{far, complex(impl.MaxReach, below), false},
		{rough, complex(0.2, 0.3), true}, // with exact sides it would be outside
		{rough, complex(0.2, 0.29), false},
	}
	for _, c := range cases {
		turned := paneOf(c.s.A, c.s.C, c.s.B)
		begun := paneOf(c.s.B, c.s.C, c.s.A)
		for _, s := range []impl.Shard{c.s, turned, begun} {
			if got := impl.InShard(s, c.p); got != c.want {
				t.Errorf("InShard(%v, %v) = %v", s, c.p, got)
			}
		}
	}
}

func TestInShardWithoutArea(t *testing.T) {
	point := paneOf(1+1i, 1+1i, 1+1i)
	line := paneOf(complex(-1, -1), 0, complex(2, 2))
	twice := paneOf(2, 2, complex(-2, minusZero()))
	cases := []struct {
		s    impl.Shard
		p    complex64
		want bool
	}{
		{point, 1 + 1i, true},
		{point, complex(-impl.MaxReach, 7), true}, // all its sides are 0
		{line, complex(1, 1), true},
		{line, complex(2, 2), true},
		{line, complex(-impl.MaxReach, -impl.MaxReach), true}, // on the line, though beyond the corners
		{line, complex(1, 1.5), false},
		{line, complex(1.5, 1), false},
		{twice, 0, true},
		{twice, 77, true},
		{twice, tiny * 1i, false},
		{twice, -1i, false},
		{impl.Shard{}, 0, true},
		{impl.Shard{}, complex(3, -5), true},
	}
	for _, c := range cases {
		if got := impl.InShard(c.s, c.p); got != c.want {
			t.Errorf("InShard(%v, %v) = %v", c.s, c.p, got)
		}
	}
}

func TestInShardOfInvalid(t *testing.T) {
	for _, s := range badShards() {
		if impl.InShard(s, 0) || impl.InShard(s, s.A) {
			t.Error("in a shard that is not valid:", s)
		}
	}
	for _, p := range badPoints() {
		for _, s := range []impl.Shard{{}, paneOf(-4096-4096i, 4096-4096i, 4096i), paneOf(1, 1, 1)} {
			if impl.InShard(s, p) {
				t.Errorf("InShard(%v, %v)", s, p)
			}
		}
	}
}

// checkTurned checks that what lies in a shard lies in it when both are turned or mirrored, and nothing else does.
func checkTurned(t *testing.T, s impl.Shard, points []complex64) {
	t.Helper()
	for _, g := range allTurns {
		turned := impl.ActShard(g, s)
		for _, p := range points {
			image := impl.ActSym(g, p)
			in := impl.InShard(s, p)
			if got := impl.InShard(turned, image); got != in {
				t.Errorf("%v lies in %v: %v, but %v in what %v makes of it: %v", p, s, in, image, g, got)
			}
		}
	}
}

func TestShardsAreTurnedWithTheirPoints(t *testing.T) {
	for _, s := range gridShards() {
		checkTurned(t, s, gridPoints(2))
	}
	for _, s := range roughShards() {
		checkTurned(t, s, roughPoints())
	}
	near := paneOf(0, 4, 4i)
	checkTurned(t, near, []complex64{
		1 + 1i, 0, 4, 4i, 2, 2i, 2 + 2i, complex(2, 2.25), complex(2, math.Nextafter32(2, 3)), -1e-30, -1i, 5,
	})
}

func TestStacksAreTurnedWithTheirPoints(t *testing.T) {
	rough := roughShards()
	for i := 0; i+impl.MaxShards <= len(rough); i += 5 {
		l := rough[i : i+impl.MaxShards]
		for _, g := range allTurns {
			var turned []impl.Shard
			for _, s := range l {
				turned = append(turned, impl.ActShard(g, s))
			}
			for _, p := range roughPoints() {
				image := impl.ActSym(g, p)
				seen, again := impl.SeenThrough(l, p, white), impl.SeenThrough(turned, image, white)
				if !sameColourBits(seen, again) {
					t.Errorf("seen at %v: %v, and at its image by %v: %v", p, seen, g, again)
				}
				layers, others := impl.LayersAt(l, p), impl.LayersAt(turned, image)
				if !slices.Equal(layers, others) {
					t.Errorf("layers at %v: %v, and at its image by %v: %v", p, layers, g, others)
				}
			}
		}
	}
}

func TestActShardActsOnTheCorners(t *testing.T) {
	for _, s := range goodShards() {
		for _, g := range allTurns {
			want := s
			want.A, want.B, want.C = wantImage(g, s.A), wantImage(g, s.B), wantImage(g, s.C)
			got := impl.ActShard(g, s)
			if !sameShardBits(got, want) {
				t.Errorf("ActShard(%v, %v) = %v, want %v", g, s, got, want)
			}
			back := impl.ActShard(impl.BackSym(g), got)
			if back != s {
				t.Errorf("ActShard by %v and back makes %v of %v", g, back, s)
			}
		}
	}
}

func TestActShardOfInvalid(t *testing.T) {
	for _, g := range noSyms {
		if got := impl.ActShard(g, paneOf(0, 4, 4i)); !isPlainShard(got) {
			t.Errorf("ActShard(%v) = %v", g, got)
		}
	}
	for _, s := range badShards() {
		for _, g := range append(allTurns, noSyms...) {
			if got := impl.ActShard(g, s); !isPlainShard(got) {
				t.Errorf("ActShard(%v, %v) = %v", g, s, got)
			}
		}
	}
}

func wantMovedCorner(corner complex64, z complex64) complex64 {
	return complex(wantSum(real(corner), real(z)), wantSum(imag(corner), imag(z)))
}

func TestMoveShardIsExact(t *testing.T) {
	for _, s := range append(goodShards(), paneOf(0.1, 0.2i, 0.7), paneOf(4095, -4095i, 1)) {
		for _, z := range append(roughPoints(), 1-1i, complex(0.1, 0.7), complex(-1, 1)) {
			want := s
			want.A, want.B, want.C = wantMovedCorner(s.A, z), wantMovedCorner(s.B, z), wantMovedCorner(s.C, z)
			valid := impl.IsPoint(want.A) && impl.IsPoint(want.B) && impl.IsPoint(want.C)
			if !valid {
				want = s
			}
			if got, ok := impl.MoveShard(s, z); ok != valid || !sameShardBits(got, want) {
				t.Errorf("MoveShard(%v, %v) = %v, %v, want %v, %v", s, z, got, ok, want, valid)
			}
		}
	}
}

func TestMoveShardByNothing(t *testing.T) {
	zero := minusZero()
	s := impl.Shard{
		A: complex(zero, 1), B: complex(4096, zero), C: complex(zero, zero),
		Tint: impl.Colour{R: zero, G: 1}, Clear: zero,
	}
	want := s
	want.A, want.B, want.C = 1i, 4096, 0
	for _, z := range []complex64{0, complex(zero, 0), complex(zero, zero)} {
		if got, ok := impl.MoveShard(s, z); !ok || !sameShardBits(got, want) {
			t.Errorf("MoveShard(%v, %v) = %v, %v", s, z, got, ok)
		}
	}
}

// A sum that is beyond the reach by half a step of float32 is rounded to the reach, and so is accepted.
func TestMoveShardToTheReach(t *testing.T) {
	const just = 1.0 / 4096
	s := paneOf(complex(-6, 1), complex(6, 2), complex(3, -8))
	cases := []struct {
		z  complex64
		ok bool
	}{
		{4090, true}, {just + 4090, true}, {2*just + 4090, false}, {4091, false}, {4096, false},
		{-4090, true}, {-just - 4090, true}, {-2*just - 4090, false}, {-4091, false},
		{4094i, true}, {(just + 4094) * 1i, true}, {(2*just + 4094) * 1i, false}, {4095i, false},
		{-4088i, true}, {(-just - 4088) * 1i, true}, {(-2*just - 4088) * 1i, false}, {-4089i, false},
		{complex(4090, 4094), true}, {complex(4090, 4095), false}, {complex(-4091, -4088), false},
	}
	for _, c := range cases {
		got, ok := impl.MoveShard(s, c.z)
		want := s
		if c.ok {
			want.A, want.B, want.C = s.A+c.z, s.B+c.z, s.C+c.z
		}
		if ok != c.ok || !sameShardBits(got, want) {
			t.Errorf("MoveShard(%v, %v) = %v, %v", s, c.z, got, ok)
		}
	}
}

func TestMoveShardOutOfTheReachByOneCorner(t *testing.T) {
	for place := range 3 {
		corners := [3]complex64{1, 2i, -3}
		corners[place] = complex(4095, 0)
		s := paneOf(corners[0], corners[1], corners[2])
		if got, ok := impl.MoveShard(s, 2); ok || !sameShardBits(got, s) {
			t.Errorf("MoveShard(%v, 2) = %v, %v", s, got, ok)
		}
		if _, ok := impl.MoveShard(s, 1); !ok {
			t.Errorf("MoveShard(%v, 1) is not done", s)
		}
	}
}

func TestMoveShardOfInvalid(t *testing.T) {
	for _, s := range badShards() {
		for _, z := range []complex64{0, 1 + 1i, complex(-1, 0), badPoints()[0]} {
			if got, ok := impl.MoveShard(s, z); ok || !sameShardBits(got, s) {
				t.Errorf("MoveShard(%v, %v) = %v, %v", s, z, got, ok)
			}
		}
	}
	// From the other end of the plane, a move that is no point could lead to points.
	far := paneOf(-4096, -4096, -4096)
	for _, z := range append(badPoints(), 8192, complex(beyondReach(), 0)) {
		for _, s := range []impl.Shard{{}, far, {A: complex(minusZero(), 0)}} {
			if got, ok := impl.MoveShard(s, z); ok || !sameShardBits(got, s) {
				t.Errorf("MoveShard(%v, %v) = %v, %v", s, z, got, ok)
			}
		}
	}
}

func TestMovedShardsKeepTheirPoints(t *testing.T) {
	for _, s := range gridShards() {
		for _, z := range []complex64{0, 3 - 2i, -17 + 5i} {
			moved, ok := impl.MoveShard(s, z)
			for _, p := range gridPoints(2) {
				if !ok || impl.InShard(moved, p+z) != isCovered(s, p) {
					t.Errorf("%v, moved by %v, and %v", s, z, p)
				}
			}
		}
	}
}

func TestAreaOf(t *testing.T) {
	for _, s := range goodShards() {
		want := wantArea(s)
		if got := impl.AreaOf(s); !sameFloat(got, want) {
			t.Errorf("AreaOf(%v) = %v, want %v", s, got, want)
		}
		for _, g := range allTurns {
			if got := impl.AreaOf(impl.ActShard(g, s)); !sameFloat(got, want) {
				t.Errorf("AreaOf of what %v makes of %v: %v, want %v", g, s, got, want)
			}
		}
	}
	far := complex64(complex(impl.MaxReach, impl.MaxReach))
	cases := []struct {
		s    impl.Shard
		want float32
	}{
		{paneOf(0, 4, 4i), 8},
		{paneOf(0, 4i, 4), 8},
		{paneOf(1, 2, 3i), 1.5},
		{paneOf(-far, complex(impl.MaxReach, -impl.MaxReach), far), 4096 * 8192},
		{paneOf(complex(-1, -1), 0, complex(2, 2)), 0},
		{paneOf(5i, 5i, 5i), 0},
		{paneOf(0, complex(tiny, 0), 1i), 0}, // half of the smallest single
		{paneOf(0, complex(tiny, 0), 2i), tiny},
		{paneOf(0, 2i, complex(tiny, 0)), tiny},
	}
	for _, c := range cases {
		if got := impl.AreaOf(c.s); !sameFloat(got, c.want) {
			t.Errorf("AreaOf(%v) = %v, want %v", c.s, got, c.want)
		}
	}
	for _, s := range badShards() {
		if got := impl.AreaOf(s); !sameFloat(got, 0) {
			t.Errorf("AreaOf(%v) = %v", s, got)
		}
	}
}

func TestBoxOf(t *testing.T) {
	for _, s := range goodShards() {
		xs := []float32{plain(real(s.A)), plain(real(s.B)), plain(real(s.C))}
		ys := []float32{plain(imag(s.A)), plain(imag(s.B)), plain(imag(s.C))}
		wantLow, wantHigh := complex(slices.Min(xs), slices.Min(ys)), complex(slices.Max(xs), slices.Max(ys))
		low, high, ok := impl.BoxOf(s)
		if !ok || !sameBits(low, wantLow) || !sameBits(high, wantHigh) {
			t.Errorf("BoxOf(%v) = %v, %v, %v", s, low, high, ok)
		}
	}
	zero := minusZero()
	cases := []struct {
		s         impl.Shard
		low, high complex64
	}{
		{paneOf(complex(-3, -2), complex(4, -1), complex(1, 5)), complex(-3, -2), complex(4, 5)},
		{paneOf(complex(1, 5), complex(-3, 7), complex(0, 6)), complex(-3, 5), complex(1, 7)},
		{paneOf(complex(zero, zero), complex(zero, zero), complex(zero, zero)), 0, 0},
		{paneOf(complex(zero, 1), complex(0, zero), complex(2, 0)), 0, complex(2, 1)},
		{paneOf(complex(-2, zero), complex(zero, -1), complex(-1, -1)), complex(-2, -1), 0},
		{paneOf(4096, -4096i, complex(-4096, 4096)), complex(-4096, -4096), complex(4096, 4096)},
	}
	for _, c := range cases {
		if low, high, ok := impl.BoxOf(c.s); !ok || !sameBits(low, c.low) || !sameBits(high, c.high) {
			t.Errorf("BoxOf(%v) = %v, %v, %v", c.s, low, high, ok)
		}
	}
	for _, s := range badShards() {
		if low, high, ok := impl.BoxOf(s); ok || !isPlainZero(low) || !isPlainZero(high) {
			t.Errorf("BoxOf(%v) = %v, %v, %v", s, low, high, ok)
		}
	}
}

// wantSeen reckons with each part by itself, with the shards that the caller says the point lies in.
func wantSeen(l []impl.Shard, layers []int, light impl.Colour) impl.Colour {
	for _, i := range layers {
		tint, clear := l[i].Tint, l[i].Clear
		light = impl.Colour{
			R: wantMixed(wantProduct(light.R, tint.R), light.R, clear),
			G: wantMixed(wantProduct(light.G, tint.G), light.G, clear),
			B: wantMixed(wantProduct(light.B, tint.B), light.B, clear),
		}
	}
	return light
}

func wantLayers(l []impl.Shard, p complex64) []int {
	layers := []int{}
	for i, s := range l {
		if wantIn(s, p) {
			layers = append(layers, i)
		}
	}
	return layers
}

func TestSeenThroughStacksOfEachSize(t *testing.T) {
	for n := range impl.MaxShards + 1 {
		l := stackOf(n)
		for _, p := range append(gridPoints(4), roughPoints()...) {
			layers := wantLayers(l, p)
			for _, light := range []impl.Colour{white, amber, {}, {R: 0.7, G: tiny, B: belowOne}} {
				want := wantSeen(l, layers, light)
				if got := impl.SeenThrough(l, p, light); !sameColourBits(got, want) {
					t.Errorf("SeenThrough(%v, %v, %v) = %v, want %v", l, p, light, got, want)
				}
			}
			if got := impl.LayersAt(l, p); !slices.Equal(got, layers) {
				t.Errorf("LayersAt(%v, %v) = %v, want %v", l, p, got, layers)
			}
		}
	}
}

func TestSeenThroughTintsAndClearness(t *testing.T) {
	for i, tint := range goodColours() {
		for j, clear := range shares() {
			s := impl.Shard{A: -1, B: 1, C: 2i, Tint: tint, Clear: clear}
			for _, light := range []impl.Colour{goodColours()[(3*i+j)%len(goodColours())], white} {
				want := wantSeen([]impl.Shard{s}, []int{0}, light)
				if got := impl.SeenThrough([]impl.Shard{s}, 1i, light); !sameColourBits(got, want) {
					t.Errorf("%v through %v: %v, want %v", light, s, got, want)
				}
			}
		}
	}
}

func TestSeenThroughShardsAtTheEnds(t *testing.T) {
	zero := minusZero()
	light := impl.Colour{R: 0.5, G: 0.25, B: zero}
	cases := []struct {
		tint  impl.Colour
		clear float32
		want  impl.Colour
	}{
		{impl.Colour{}, 0, impl.Colour{}},
		{impl.Colour{}, 1, impl.Colour{R: 0.5, G: 0.25}},
		{impl.Colour{}, 0.5, impl.Colour{R: 0.25, G: 0.125}},
		{white, 0, impl.Colour{R: 0.5, G: 0.25}},
		{white, zero, impl.Colour{R: 0.5, G: 0.25}},
		{white, 1, impl.Colour{R: 0.5, G: 0.25}},
		{impl.Colour{R: 0.5, G: 1, B: 1}, 0, impl.Colour{R: 0.25, G: 0.25}},
		{impl.Colour{R: 0.5, G: 0, B: 1}, 0.75, impl.Colour{R: 0.4375, G: 0.1875}},
	}
	for _, c := range cases {
		l := []impl.Shard{{A: -1, B: 1, C: 2i, Tint: c.tint, Clear: c.clear}}
		if got := impl.SeenThrough(l, 1i, light); !sameColourBits(got, c.want) {
			t.Errorf("%v through %v: %v, want %v", light, l, got, c.want)
		}
		if got := impl.SeenThrough(l, 3i, light); !sameColourBits(got, light) {
			t.Errorf("%v beside %v: %v", light, l, got)
		}
	}
}

func TestSeenThroughNoShardsIsTheLight(t *testing.T) {
	for _, light := range goodColours() {
		for _, l := range [][]impl.Shard{nil, {}, {paneOf(5, 6, 6i)}} {
			if got := impl.SeenThrough(l, complex(-1, -1), light); !sameColourBits(got, light) {
				t.Errorf("%v through %v: %v", light, l, got)
			}
		}
	}
}

// With rounding, what is seen through two shards depends on which comes first.
func TestSeenThroughTheFirstShardFirst(t *testing.T) {
	first, second := paneOf(-4, 4, 4i), paneOf(-4, 4, 4i)
	first.Tint, first.Clear = impl.Colour{R: 0.1, G: 0.3, B: 0.7}, 0.1
	second.Tint, second.Clear = impl.Colour{R: 0.9, G: 0.6, B: 0.3}, 0.7
	light := impl.Colour{R: 0.3, G: 0.7, B: 0.9}
	there := impl.SeenThrough([]impl.Shard{first, second}, 1i, light)
	back := impl.SeenThrough([]impl.Shard{second, first}, 1i, light)
	if there == back {
		t.Error("the shards tell nothing of their order:", there)
	}
	if want := wantSeen([]impl.Shard{first, second}, []int{0, 1}, light); !sameColourBits(there, want) {
		t.Errorf("seen through both: %v, want %v", there, want)
	}
	if want := wantSeen([]impl.Shard{first, second}, []int{1, 0}, light); !sameColourBits(back, want) {
		t.Errorf("seen through both, the other way round: %v, want %v", back, want)
	}
}

func TestSeenThroughAndLayersAtOfInvalid(t *testing.T) {
	for _, l := range spoiltStacks() {
		if got := impl.SeenThrough(l, 0, white); !isPlainBlack(got) {
			t.Errorf("SeenThrough(%v) = %v", l, got)
		}
		if got := impl.LayersAt(l, 0); len(got) != 0 {
			t.Errorf("LayersAt(%v) = %v", l, got)
		}
	}
	for n := range impl.MaxShards + 1 {
		for _, p := range badPoints() {
			if got := impl.SeenThrough(stackOf(n), p, white); !isPlainBlack(got) {
				t.Errorf("SeenThrough of %d shards at %v: %v", n, p, got)
			}
			if got := impl.LayersAt(stackOf(n), p); len(got) != 0 {
				t.Errorf("LayersAt of %d shards at %v: %v", n, p, got)
			}
		}
		for _, light := range badColours() {
			for _, p := range []complex64{0, complex(9, 9)} {
				if got := impl.SeenThrough(stackOf(n), p, light); !isPlainBlack(got) {
					t.Errorf("%v seen through %d shards at %v: %v", light, n, p, got)
				}
			}
		}
	}
}

func TestLayersAtLists(t *testing.T) {
	near, away, line := paneOf(0, 4, 4i), paneOf(-5, -9, -5i), paneOf(-1, 0, 9)
	cases := []struct {
		l    []impl.Shard
		p    complex64
		want []int
	}{
		{nil, 0, nil},
		{[]impl.Shard{near, away}, 7i, nil},
		{[]impl.Shard{near, away, line, near}, 1 + 1i, []int{0, 3}},
		{[]impl.Shard{near, away, line, near}, 2, []int{0, 2, 3}},
		{[]impl.Shard{near, away, line, near}, -5, []int{1, 2}},
		{[]impl.Shard{away, {}, away, near}, 4i, []int{1, 3}},
	}
	for _, c := range cases {
		if got := impl.LayersAt(c.l, c.p); !slices.Equal(got, c.want) {
			t.Errorf("LayersAt(%v, %v) = %v", c.l, c.p, got)
		}
	}
}

func TestStacksAreLeftAsTheyAre(t *testing.T) {
	l := append(make([]impl.Shard, 0, 2*impl.MaxShards), stackOf(impl.MaxShards)...)
	impl.AreShards(l)
	impl.SeenThrough(l, 0, amber)
	layers := impl.LayersAt(l, 0)
	layers[0] = 7
	for i, s := range stackOf(impl.MaxShards) {
		if !sameShardBits(l[i], s) {
			t.Errorf("shard %d is changed to %v", i, l[i])
		}
	}
	for _, s := range l[len(l):cap(l)] {
		if !isPlainShard(s) {
			t.Error("the spare capacity is written to:", s)
		}
	}
	if got := impl.LayersAt(l, 0); len(got) != impl.MaxShards || got[0] != 0 {
		t.Error("LayersAt keeps what a caller wrote:", got)
	}
}
