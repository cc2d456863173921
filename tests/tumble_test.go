package tests

import (
	"math"
	"slices"
	"testing"

	"loop.example/g03020/impl"
)

const (
	// Sums are rounded: the greatest single that leaves MaxReach as it is, and the least one that does not.
	swallowed = 1.0 / (1 << 12)
	noticed   = swallowed + 1.0/(1<<35)
)

var noRuns = []int{-1, -2, -impl.MaxRun, impl.MaxRun + 1, impl.MaxRun + 2, 1 << 32, math.MaxInt, math.MinInt}

// standsInWedge goes by the parts of a point.
func standsInWedge(kind int, z complex64) bool {
	x, y := real(z), imag(z)
	return kind == impl.MirrorNone || y >= 0 && (kind == impl.MirrorLine || x >= 0 && (kind == impl.MirrorBoth || y <= x))
}

func wedgePoints(kind int) []complex64 {
	points := slices.Concat(goodPoints(), gridPoints(3), roughPoints())
	return slices.DeleteFunc(points, func(z complex64) bool { return !standsInWedge(kind, z) })
}

// outsidePoints are points beside the wedge, far from it and just beyond its mirrors.
func outsidePoints(kind int) []complex64 {
	return slices.DeleteFunc(goodPoints(), func(z complex64) bool { return standsInWedge(kind, z) })
}

// calmBeads are beads between mirrors, on them and in their corner, that stay in reach for MaxRun ticks.
func calmBeads(kind int) []impl.Bead {
	places := slices.Concat(gridPoints(3), []complex64{
		complex(0.1, 0.1), complex(0.7, 0.3), complex(1.0/3, 0.2), complex(minusZero(), minusZero()), complex(9.7, tiny), complex(-5.3, 0.1),
	})
	speeds := slices.Concat(gridPoints(2), []complex64{
		complex(0.1, -0.7), complex(-0.3, -0.3), complex(-1.0/3, 2.0/3), complex(minusZero(), -1.1), complex(-11.3, 7.9), complex(tiny, -tiny),
	})
	var beads []impl.Bead
	for i, at := range places {
		for j := range 4 {
			if standsInWedge(kind, at) {
				beads = append(beads, impl.Bead{At: at, Speed: speeds[(i*5+j*9)%len(speeds)]})
			}
		}
	}
	return beads
}

func gentleGravities() []complex64 {
	return []complex64{0, complex(minusZero(), minusZero()), -0.25i, complex(0.1, -0.3), complex(-0.5, 0.5), complex(tiny, 0)}
}

// calmTumbles have from no bead to MaxBeads beads, and every loss.
func calmTumbles(kind int) []impl.Tumble {
	beads, losses, gravities := calmBeads(kind), shares(), gentleGravities()
	tumbles := []impl.Tumble{{Mirrors: kind}, {Mirrors: kind, Gravity: 4096, Loss: 1}}
	for i := 0; i+impl.MaxBeads <= len(beads); i += 3 {
		count := 1 + i%impl.MaxBeads
		tumbles = append(tumbles, impl.Tumble{
			Mirrors: kind, Gravity: gravities[i%len(gravities)], Loss: losses[i%len(losses)], Beads: beads[i : i+count],
		})
	}
	return tumbles
}

// loneTumbles have one bead each, at places and with speeds up to the end of reach.
func loneTumbles(kind int) []impl.Tumble {
	speeds, gravities := goodPoints(), slices.Concat(gentleGravities(), roughPoints())
	losses := shares()
	var tumbles []impl.Tumble
	for i, at := range wedgePoints(kind) {
		for j := range 12 {
			tumbles = append(tumbles, impl.Tumble{
				Mirrors: kind, Gravity: gravities[(i+j*j)%len(gravities)], Loss: losses[(i*3+j)%len(losses)],
				Beads: []impl.Bead{{At: at, Speed: speeds[(i*11+j*23)%len(speeds)]}},
			})
		}
	}
	return tumbles
}

func goodTumbles() []impl.Tumble {
	tumbles := []impl.Tumble{{}}
	for _, kind := range allKinds {
		tumbles = slices.Concat(tumbles, calmTumbles(kind), loneTumbles(kind))
	}
	return tumbles
}

// fullTumble has as many beads as there may be, all at 2+1i, which is in every wedge.
func fullTumble(kind int) impl.Tumble {
	m := impl.Tumble{Mirrors: kind, Gravity: complex(0.25, -0.5), Loss: 0.25}
	for i := range impl.MaxBeads {
		m.Beads = append(m.Beads, impl.Bead{At: 2 + 1i, Speed: complex(float32(i-4), float32(3-i))})
	}
	return m
}

func withBead(m impl.Tumble, place int, b impl.Bead) impl.Tumble {
	m.Beads = slices.Clone(m.Beads)
	m.Beads[place] = b
	return m
}

// badTumbles would all be valid, and their ticks possible, but for one thing.
func badTumbles() []impl.Tumble {
	var tumbles []impl.Tumble
	for _, kind := range noKinds {
		tumbles = append(tumbles, impl.Tumble{Mirrors: kind}, fullTumble(kind))
	}
	for _, kind := range allKinds {
		full := fullTumble(kind)
		tumbles = append(tumbles, impl.Tumble{Mirrors: kind, Beads: append(slices.Clone(full.Beads), full.Beads[0])})
		for _, loss := range noShares() {
			lossy := full
			lossy.Loss = loss
			tumbles = append(tumbles, impl.Tumble{Mirrors: kind, Loss: loss}, lossy)
		}
		for i, bad := range badPoints() {
			heavy := full
			heavy.Gravity = bad
			tumbles = append(tumbles, impl.Tumble{Mirrors: kind, Gravity: bad}, heavy,
				withBead(full, i%impl.MaxBeads, impl.Bead{At: bad}),
				withBead(full, i%impl.MaxBeads, impl.Bead{At: 2 + 1i, Speed: bad}))
		}
		for i, at := range outsidePoints(kind) {
			b := impl.Bead{At: at}
			tumbles = append(tumbles, impl.Tumble{Mirrors: kind, Beads: []impl.Bead{b}},
				withBead(full, 0, b), withBead(full, i%impl.MaxBeads, b), withBead(full, impl.MaxBeads-1, b))
		}
	}
	return tumbles
}

func sameBeadBits(b impl.Bead, c impl.Bead) bool {
	return sameBits(b.At, c.At) && sameBits(b.Speed, c.Speed)
}

func sameTumbleBits(m impl.Tumble, n impl.Tumble) bool {
	return m.Mirrors == n.Mirrors && sameBits(m.Gravity, n.Gravity) && sameFloat(m.Loss, n.Loss) &&
		slices.EqualFunc(m.Beads, n.Beads, sameBeadBits)
}

func wantFoldSym(kind int, z complex64) impl.Sym {
	syms := wantSyms(kind)
	return syms[slices.IndexFunc(syms, func(g impl.Sym) bool { return wantImage(g, z) == wantFold(kind, z) })]
}

// wantMove reckons the tick of one bead, whether it bounces, and whether the tick is possible.
func wantMove(m impl.Tumble, b impl.Bead) (impl.Bead, bool, bool) {
	speed := wantMovedCorner(b.Speed, m.Gravity)
	place := wantMovedCorner(b.At, speed)
	if !impl.IsPoint(speed) || !impl.IsPoint(place) {
		return impl.Bead{}, false, false
	}
	g := wantFoldSym(m.Mirrors, place)
	speed = wantImage(g, speed)
	if g.Flip || g.Turns != 0 {
		kept := wantDifference(1, m.Loss)
		speed = complex(wantProduct(real(speed), kept), wantProduct(imag(speed), kept))
	}
	return impl.Bead{At: wantFold(m.Mirrors, place), Speed: speed}, g.Flip || g.Turns != 0, true
}

// wantRun has each bead done with all its ticks before the next one starts.
func wantRun(m impl.Tumble, n int) (impl.Tumble, []int, bool) {
	run, bounces := m, make([]int, len(m.Beads))
	run.Beads = nil
	for i, b := range m.Beads {
		for range n {
			next, bounced, ok := wantMove(m, b)
			if !ok {
				return m, nil, false
			}
			b = next
			if bounced {
				bounces[i]++
			}
		}
		run.Beads = append(run.Beads, b)
	}
	return run, bounces, true
}

// checkRun checks what RunTumble, BouncesOf and, for one tick, StepTumble make of n ticks.
func checkRun(t *testing.T, m impl.Tumble, n int, want impl.Tumble, bounces []int, possible bool) {
	t.Helper()
	if got, ok := impl.RunTumble(m, n); ok != possible || !sameTumbleBits(got, want) {
		t.Errorf("RunTumble(%v, %d) = %v, %v, want %v, %v", m, n, got, ok, want, possible)
	}
	if got, ok := impl.BouncesOf(m, n); ok != possible || !slices.Equal(got, bounces) {
		t.Errorf("BouncesOf(%v, %d) = %v, %v, want %v", m, n, got, ok, bounces)
	}
	if n != 1 {
		return
	}
	if got, ok := impl.StepTumble(m); ok != possible || !sameTumbleBits(got, want) {
		t.Errorf("StepTumble(%v) = %v, %v, want %v, %v", m, got, ok, want, possible)
	}
}

func checkReckoned(t *testing.T, m impl.Tumble, n int) {
	t.Helper()
	want, bounces, possible := wantRun(m, n)
	checkRun(t, m, n, want, bounces, possible)
}

func checkNoRun(t *testing.T, m impl.Tumble, n int) {
	t.Helper()
	checkRun(t, m, n, m, nil, false)
}

func TestIsTumble(t *testing.T) {
	for _, m := range goodTumbles() {
		if !impl.IsTumble(m) {
			t.Error("a tumble is not taken as one:", m)
		}
	}
	for _, m := range badTumbles() {
		if impl.IsTumble(m) {
			t.Error("taken as a tumble:", m)
		}
	}
	for _, kind := range allKinds {
		for count := range impl.MaxBeads + 1 {
			m := fullTumble(kind)
			m.Beads = m.Beads[:count]
			if !impl.IsTumble(m) {
				t.Error("a tumble is not taken as one:", m)
			}
		}
	}
}

func TestIsTumbleAtTheEndsOfReach(t *testing.T) {
	end, beyond := float32(impl.MaxReach), beyondReach()
	cases := []struct {
		gravity, at, speed complex64
		want               bool
	}{
		{0, 0, 0, true},
		{complex(end, -end), complex(end, end), complex(-end, end), true},
		{complex(beyond, 0), 1, 0, false},
		{complex(0, -beyond), 1, 0, false},
		{0, complex(beyond, 0), 0, false},
		{0, complex(end, beyond), 0, false},
		{0, 1, complex(-beyond, 0), false},
		{0, 1, complex(0, beyond), false},
	}
	for _, kind := range allKinds {
		for _, c := range cases {
			m := impl.Tumble{Mirrors: kind, Gravity: c.gravity, Beads: []impl.Bead{{At: c.at, Speed: c.speed}}}
			if got := impl.IsTumble(m); got != c.want {
				t.Errorf("IsTumble(%v) = %v", m, got)
			}
		}
	}
}

func TestStepTumbleLists(t *testing.T) {
	zero := minusZero()
	cases := []struct {
		kind    int
		gravity complex64
		loss    float32
		bead    impl.Bead
		want    impl.Bead
		bounces int
	}{
		// Gravity changes the speed first, and the place by it.
		{impl.MirrorNone, complex(1, -2), 1, impl.Bead{At: 3 + 4i, Speed: 5 + 6i}, impl.Bead{At: 9 + 8i, Speed: 6 + 4i}, 0},
		{impl.MirrorLine, -3i, 0.5, impl.Bead{At: 1 + 1i, Speed: 1 + 1i}, impl.Bead{At: 2 + 1i, Speed: 0.5 + 1i}, 1},
		// On a mirror, along it, off it and onto it; only a place beyond it is folded.
		{impl.MirrorLine, 0, 1, impl.Bead{At: 1, Speed: 2}, impl.Bead{At: 3, Speed: 2}, 0},
		{impl.MirrorLine, 0, 1, impl.Bead{At: 1, Speed: 2i}, impl.Bead{At: 1 + 2i, Speed: 2i}, 0},
		{impl.MirrorLine, 0, 1, impl.Bead{At: 1 + 2i, Speed: -2i}, impl.Bead{At: 1, Speed: -2i}, 0},
		{impl.MirrorLine, 0, 0, impl.Bead{At: 1, Speed: -2i}, impl.Bead{At: 1 + 2i, Speed: 2i}, 1},
		{impl.MirrorLine, 0, 0, impl.Bead{At: 1, Speed: complex(0, -tiny)}, impl.Bead{At: complex(1, tiny), Speed: complex(0, tiny)}, 1},
		{impl.MirrorStar, 0, 1, impl.Bead{At: 2 + 2i, Speed: 1 + 1i}, impl.Bead{At: 3 + 3i, Speed: 1 + 1i}, 0},
		{impl.MirrorStar, 0, 0, impl.Bead{At: 2 + 2i, Speed: -1}, impl.Bead{At: 2 + 1i, Speed: -1i}, 1},
		// In the corner, out of it and into it.
		{impl.MirrorBoth, 0, 0.5, impl.Bead{At: 0, Speed: -2 - 4i}, impl.Bead{At: 2 + 4i, Speed: 1 + 2i}, 1},
		{impl.MirrorBoth, 0, 0.5, impl.Bead{At: 2 + 4i, Speed: -2 - 4i}, impl.Bead{At: 0, Speed: -2 - 4i}, 0},
		{impl.MirrorStar, 0, 0, impl.Bead{At: 0, Speed: 4i}, impl.Bead{At: 4, Speed: 4}, 1},
		{impl.MirrorStar, 0, 0.25, impl.Bead{At: 0, Speed: -4 + 8i}, impl.Bead{At: 8 + 4i, Speed: 6 + 3i}, 1},
		{impl.MirrorStar, 0, 1, impl.Bead{At: 0, Speed: 0}, impl.Bead{At: 0, Speed: 0}, 0},
		// The bead stays where it is, but its speed is turned.
		{impl.MirrorLine, 0, 0, impl.Bead{At: 1 + 1i, Speed: -2i}, impl.Bead{At: 1 + 1i, Speed: 2i}, 1},
		{impl.MirrorBoth, 0, 0.5, impl.Bead{At: 1 + 3i, Speed: -2 - 6i}, impl.Bead{At: 1 + 3i, Speed: 1 + 3i}, 1},
		{impl.MirrorStar, 0, 0, impl.Bead{At: 3 + 1i, Speed: -2 + 2i}, impl.Bead{At: 3 + 1i, Speed: 2 - 2i}, 1},
		{impl.MirrorStar, 0, 0, impl.Bead{At: 2 + 2i, Speed: -4i}, impl.Bead{At: 2 + 2i, Speed: 4}, 1},
		// The first symmetry that folds is half a turn, not the mirror that the bead went through.
		{impl.MirrorBoth, 0, 0, impl.Bead{At: 1 + 2i, Speed: -4 - 2i}, impl.Bead{At: 3, Speed: 4 + 2i}, 1},
		{impl.MirrorBoth, 0, 0, impl.Bead{At: 1 + 2i, Speed: -1 - 5i}, impl.Bead{At: 3i, Speed: 1 + 5i}, 1},
		// Without a fold there is no loss, and with one it takes from both parts.
		{impl.MirrorBoth, 0, 1, impl.Bead{At: 1 + 1i, Speed: 7 + 7i}, impl.Bead{At: 8 + 8i, Speed: 7 + 7i}, 0},
		{impl.MirrorBoth, 0, 1, impl.Bead{At: 1 + 1i, Speed: 7 - 7i}, impl.Bead{At: 8 + 6i, Speed: 0}, 1},
		{impl.MirrorBoth, 0, 0.75, impl.Bead{At: 1 + 1i, Speed: 8 - 4i}, impl.Bead{At: 9 + 3i, Speed: 2 + 1i}, 1},
		{impl.MirrorBoth, 0, zero, impl.Bead{At: 1 + 1i, Speed: 8 - 4i}, impl.Bead{At: 9 + 3i, Speed: 8 + 4i}, 1},
		// The bead stays, for nothing moves it, but -0 becomes +0.
		{impl.MirrorStar, complex(zero, zero), zero, impl.Bead{At: complex(zero, zero), Speed: complex(zero, zero)}, impl.Bead{}, 0},
		{impl.MirrorNone, 0, 0, impl.Bead{At: complex(-1, zero), Speed: complex(zero, -1)}, impl.Bead{At: -1 - 1i, Speed: -1i}, 0},
		{impl.MirrorLine, 0, 0, impl.Bead{At: 2i, Speed: complex(zero, -3)}, impl.Bead{At: 1i, Speed: 3i}, 1},
		{impl.MirrorLine, 0, 0.5, impl.Bead{At: 0, Speed: complex(-tiny, -4)}, impl.Bead{At: complex(-tiny, 4), Speed: 2i}, 1},
	}
	for _, c := range cases {
		m := impl.Tumble{Mirrors: c.kind, Gravity: c.gravity, Loss: c.loss, Beads: []impl.Bead{c.bead}}
		checkRun(t, m, 1, withBead(m, 0, c.want), []int{c.bounces}, true)
	}
}

func TestStepTumbleIsExact(t *testing.T) {
	for _, m := range goodTumbles() {
		checkReckoned(t, m, 1)
	}
	for _, kind := range allKinds {
		for _, gravity := range roughPoints() {
			m := fullTumble(kind)
			m.Gravity = gravity
			checkReckoned(t, m, 1)
		}
	}
}

func TestStepTumbleWithEachLoss(t *testing.T) {
	for _, kind := range allKinds {
		for _, loss := range shares() {
			for _, speed := range []complex64{-5 - 3i, complex(-0.1, 7), complex(3.3, -1.0/3), complex(-tiny, -9), complex(1, 1)} {
				checkReckoned(t, impl.Tumble{Mirrors: kind, Loss: loss, Beads: []impl.Bead{{At: 2 + 1i, Speed: speed}}}, 1)
			}
		}
	}
}

func TestRunTumbleIsExact(t *testing.T) {
	for _, kind := range allKinds {
		for _, m := range calmTumbles(kind) {
			for _, n := range []int{0, 1, 2, 3, 17, impl.MaxRun - 1, impl.MaxRun} {
				checkReckoned(t, m, n)
			}
			if _, ok := impl.RunTumble(m, impl.MaxRun); !ok {
				t.Errorf("RunTumble(%v) gets out of reach", m)
			}
		}
		for i, m := range loneTumbles(kind) {
			checkReckoned(t, m, i%(impl.MaxRun+1))
		}
	}
}

func TestRunTumbleStepByStep(t *testing.T) {
	for _, kind := range allKinds {
		start := fullTumble(kind)
		step := start
		for n := range impl.MaxRun + 1 {
			if got, ok := impl.RunTumble(start, n); !ok || !sameTumbleBits(got, step) {
				t.Errorf("RunTumble(%v, %d) = %v, %v, want %v", start, n, got, ok, step)
			}
			next, ok := impl.StepTumble(step)
			if !ok || !impl.IsTumble(next) {
				t.Fatalf("StepTumble(%v) = %v, %v", step, next, ok)
			}
			step = next
		}
	}
}

func TestRunsAndBouncesCutAnywhere(t *testing.T) {
	for _, kind := range allKinds {
		for i, m := range append(calmTumbles(kind), fullTumble(kind)) {
			n := impl.MaxRun - i%7
			whole, _ := impl.RunTumble(m, n)
			all, _ := impl.BouncesOf(m, n)
			for cut := i % 3; cut <= n; cut += 3 {
				first, ok := impl.RunTumble(m, cut)
				second, is := impl.RunTumble(first, n-cut)
				if !ok || !is || !sameTumbleBits(second, whole) {
					t.Errorf("RunTumble(%v, %d), cut at %d: %v, want %v", m, n, cut, second, whole)
				}
				early, ok := impl.BouncesOf(m, cut)
				late, is := impl.BouncesOf(first, n-cut)
				if !ok || !is || len(early) != len(all) || len(late) != len(all) {
					t.Fatalf("BouncesOf(%v, %d), cut at %d: %v, %v", m, n, cut, early, late)
				}
				for bead := range all {
					if early[bead]+late[bead] != all[bead] {
						t.Errorf("BouncesOf(%v, %d), cut at %d: %v, %v, want %v", m, n, cut, early, late, all)
					}
				}
			}
		}
	}
}

func TestRunTumbleOfNoTicks(t *testing.T) {
	for _, m := range goodTumbles() {
		checkRun(t, m, 0, m, make([]int, len(m.Beads)), true)
	}
	zero := minusZero()
	minus := impl.Tumble{
		Mirrors: impl.MirrorStar, Gravity: complex(zero, zero), Loss: zero,
		Beads: []impl.Bead{{At: complex(zero, zero), Speed: complex(zero, zero)}},
	}
	checkRun(t, minus, 0, minus, []int{0}, true)
}

func TestRunTumbleOfTooManyTicks(t *testing.T) {
	for _, kind := range allKinds {
		tumbles := []impl.Tumble{
			{Mirrors: kind}, fullTumble(kind),
			{Mirrors: kind, Gravity: complex(minusZero(), 0), Loss: minusZero(), Beads: []impl.Bead{{At: complex(minusZero(), 0)}}},
		}
		for _, m := range tumbles {
			for _, n := range noRuns {
				checkNoRun(t, m, n)
			}
			if _, ok := impl.RunTumble(m, impl.MaxRun); !ok {
				t.Errorf("RunTumble(%v, MaxRun) is not done", m)
			}
		}
	}
}

func TestRunTumbleOfInvalid(t *testing.T) {
	for _, m := range badTumbles() {
		for _, n := range []int{0, 1, 5, impl.MaxRun, impl.MaxRun + 1, -1} {
			checkNoRun(t, m, n)
		}
	}
}

// The beads that are not at the given place stay in reach.
func TestTicksThatOneBeadMakesImpossible(t *testing.T) {
	cases := []struct {
		at, speed complex64
		first     int // the first tick that is not possible
	}{
		{4096, 1, 1}, {4096 + 4096i, 1i, 1}, {1, 4096, 1}, {2 + 1i, complex(0, 4095.5), 1},
		{0, 2048.5, 2}, {0, complex(0, 1366), 3}, {96 + 96i, 125 + 125i, 33},
		{0, complex(64.5, 0.25), 64}, {0, 65, 64}, {0, 64, 65}, {0, complex(0, 64), 65},
	}
	for _, kind := range allKinds {
		for _, c := range cases {
			for place := range impl.MaxBeads {
				m := fullTumble(kind)
				m.Gravity, m.Loss = 0, 0
				m = withBead(m, place, impl.Bead{At: c.at, Speed: c.speed})
				for _, n := range []int{c.first - 1, c.first, c.first + 1, impl.MaxRun} {
					if n >= c.first {
						checkNoRun(t, m, n)
					} else {
						checkReckoned(t, m, n)
					}
					if _, ok := impl.RunTumble(m, n); ok != (n < c.first && n <= impl.MaxRun) {
						t.Errorf("RunTumble(%v, %d) is done: %v", m, n, ok)
					}
				}
			}
		}
	}
}

func TestTicksAtTheEndsOfReach(t *testing.T) {
	cases := []struct {
		kind       int
		gravity    complex64
		at, speed  complex64
		isPossible bool
	}{
		{impl.MirrorNone, 0, 4095, 1, true},
		{impl.MirrorNone, 0, 4096, complex(swallowed, 0), true},
		{impl.MirrorNone, 0, 4096, complex(noticed, 0), false},
		{impl.MirrorNone, 0, -4096, complex(-swallowed, 0), true},
		{impl.MirrorNone, 0, -4096, complex(-noticed, 0), false},
		{impl.MirrorNone, 0, complex(0, -4096), complex(0, -noticed), false},
		{impl.MirrorNone, complex(swallowed, 0), -4096, 4096, true},
		{impl.MirrorNone, complex(0, swallowed), complex(0, -4096), complex(0, 4096), true},
		// The speed is out of reach, though the place is not.
		{impl.MirrorNone, complex(noticed, 0), -4096, 4096, false},
		{impl.MirrorNone, complex(0, -noticed), 4096i, -4096i, false},
		{impl.MirrorNone, 200, -4096, 4000, false},
		{impl.MirrorLine, -4096i, 4096i, -4096i, false},
		{impl.MirrorBoth, -4096 - 4096i, 4096 + 4096i, -1, false},
		{impl.MirrorStar, -1, 4096, -4096, false},
		// The speed is in reach by gravity.
		{impl.MirrorNone, -4096, 4096, 4096, true},
		{impl.MirrorStar, -1i, 4096 + 4096i, -4095i, true},
		// The place is out of reach before its fold, on any side of the wedge.
		{impl.MirrorLine, 0, 4096 + 4096i, 1i, false},
		{impl.MirrorLine, 0, -4096, -1, false},
		{impl.MirrorBoth, 0, 4096, 1 - 1i, false},
		{impl.MirrorStar, 0, 4096 + 4096i, 1i, false},
		{impl.MirrorStar, 0, 4096 + 4096i, complex(0, noticed), false},
		{impl.MirrorStar, 0, 4096 + 4096i, complex(0, swallowed), true},
		{impl.MirrorStar, 0, 4096, -1 + 4096i, true},
		{impl.MirrorStar, 0, 4096, 1 + 4096i, false},
		{impl.MirrorLine, 0, 4096, -4096i, true},
		{impl.MirrorBoth, 0, 0, -4096 - 4096i, true},
		{impl.MirrorStar, 0, 0, -4096 + 4096i, true},
	}
	for _, c := range cases {
		m := impl.Tumble{Mirrors: c.kind, Gravity: c.gravity, Beads: []impl.Bead{{At: c.at, Speed: c.speed}}}
		if !impl.IsTumble(m) {
			t.Error("not a tumble:", m)
		}
		if !c.isPossible {
			checkNoRun(t, m, 1)
			continue
		}
		checkReckoned(t, m, 1)
		if _, ok := impl.StepTumble(m); !ok {
			t.Errorf("StepTumble(%v) is not done", m)
		}
	}
}

// At the tick that is not possible, the speed is just out of reach, but the place is not.
func TestSpeedsOutOfReachOnTheWay(t *testing.T) {
	cases := []struct {
		at, speed, gravity complex64
		first              int
	}{
		{-4096, 4096, 1, 1}, {-4096, -103, 2100, 2}, {-4096, -103, 1400, 3}, {-4090, -1371, 1367, 4},
	}
	for _, c := range cases {
		turnedBy := func(g impl.Sym) impl.Tumble {
			b := impl.Bead{At: wantImage(g, c.at), Speed: wantImage(g, c.speed)}
			return impl.Tumble{Gravity: wantImage(g, c.gravity), Beads: []impl.Bead{b}}
		}
		tumbles := []impl.Tumble{turnedBy(impl.Sym{})}
		tumbles[0].Mirrors = impl.MirrorLine
		for _, g := range allTurns {
			tumbles = append(tumbles, turnedBy(g))
		}
		for _, m := range tumbles {
			run, ok := impl.RunTumble(m, c.first-1)
			if !ok {
				t.Errorf("RunTumble(%v, %d) is not done", m, c.first-1)
				continue
			}
			last := run.Beads[0]
			speed := wantMovedCorner(last.Speed, m.Gravity)
			if impl.IsPoint(speed) || !impl.IsPoint(wantMovedCorner(last.At, speed)) {
				t.Errorf("the speed %v of %v is not alone out of reach", speed, last)
			}
			for n := c.first; n <= c.first+2; n++ {
				checkNoRun(t, m, n)
			}
		}
	}
}

// Gravity brings speeds and places out of reach at some tick, and at every later one.
func TestRunsUnderGravityEndOutOfReach(t *testing.T) {
	for _, kind := range allKinds {
		for _, gravity := range []complex64{3.5, complex(40.1, 2), complex(700, -1), complex(0, 5), complex(-31, -17), -2000i, 4096} {
			m := impl.Tumble{Mirrors: kind, Gravity: gravity, Loss: 0.1, Beads: []impl.Bead{{At: 1, Speed: 1}, {At: 3 + 2i, Speed: -2 - 1i}}}
			ended := false
			for n := range impl.MaxRun + 1 {
				checkReckoned(t, m, n)
				_, ok := impl.RunTumble(m, n)
				if ended && ok {
					t.Errorf("RunTumble(%v, %d) is done, though fewer ticks are not possible", m, n)
				}
				ended = ended || !ok
			}
			if kind == impl.MirrorNone && !ended {
				t.Errorf("RunTumble(%v) never ends", m)
			}
		}
	}
}

// checkFoldedWay checks a bead of a tumble without gravity and loss, for each number of ticks, against its straight way.
func checkFoldedWay(t *testing.T, m impl.Tumble, place int) {
	t.Helper()
	b := m.Beads[place]
	for n := range impl.MaxRun + 1 {
		way, is := impl.StraightWay(b.At, b.Speed, n)
		run, ok := impl.RunTumble(m, n)
		if !ok || !is {
			t.Fatalf("RunTumble(%v, %d) or the straight way of bead %d is not done: %v, %v", m, n, place, ok, is)
		}
		got := run.Beads[place]
		fold, g, _ := impl.FoldPoint(m.Mirrors, way[n])
		if got.At != fold || n > 0 && !sameBits(got.At, fold) || !sameBits(fold, wantFold(m.Mirrors, way[n])) {
			t.Errorf("RunTumble(%v, %d) has bead %d at %v, want %v", m, n, place, got.At, fold)
		}
		if n == 0 {
			continue
		}
		isTurned := func(h impl.Sym) bool {
			return sameBits(got.At, wantImage(h, way[n])) && sameBits(got.Speed, wantImage(h, b.Speed))
		}
		if !slices.ContainsFunc(wantSyms(m.Mirrors), isTurned) {
			t.Errorf("RunTumble(%v, %d) has bead %d with speed %v, on a way folded by %v", m, n, place, got.Speed, g)
		}
	}
}

func TestBeadsStandWhereTheStraightWayFoldedStands(t *testing.T) {
	zero := minusZero()
	for _, kind := range allKinds {
		for i, b := range calmBeads(kind) {
			m := impl.Tumble{Mirrors: kind, Beads: []impl.Bead{b}}
			if i%2 == 1 {
				m.Gravity, m.Loss = complex(zero, zero), zero
			}
			checkFoldedWay(t, m, 0)
		}
		for beads := range slices.Chunk(calmBeads(kind), impl.MaxBeads) {
			checkFoldedWay(t, impl.Tumble{Mirrors: kind, Beads: beads}, 0)
			checkFoldedWay(t, impl.Tumble{Mirrors: kind, Beads: beads}, len(beads)-1)
		}
	}
}

func TestBeadsRunAsFarAsTheStraightWayGoes(t *testing.T) {
	for _, kind := range allKinds {
		speeds := slices.Concat(goodPoints(), roughPoints())
		for i, at := range wedgePoints(kind) {
			for j := range 6 {
				b := impl.Bead{At: at, Speed: speeds[(i*13+j*31)%len(speeds)]}
				m := impl.Tumble{Mirrors: kind, Beads: []impl.Bead{b}}
				for _, n := range []int{1, 2, 5, 1 + i%impl.MaxRun, impl.MaxRun} {
					way, is := impl.StraightWay(b.At, b.Speed, n)
					run, ok := impl.RunTumble(m, n)
					if ok != is || !ok && !sameTumbleBits(run, m) {
						t.Fatalf("RunTumble(%v, %d) = %v, %v, the straight way: %v, %v", m, n, run, ok, way, is)
					}
					if ok && !sameBits(run.Beads[0].At, wantFold(kind, way[n])) {
						t.Errorf("RunTumble(%v, %d) = %v, the straight way: %v", m, n, run, way)
					}
				}
			}
		}
	}
}

func TestBeadsOnMirrorsAndInTheCorner(t *testing.T) {
	ends := []complex64{0, 2, 2i, 3 + 3i, complex(0.7, 0.7), complex(0, 0.1), complex(minusZero(), minusZero()), complex(tiny, tiny)}
	for _, kind := range allKinds {
		for _, at := range ends {
			for _, speed := range slices.Concat(gridPoints(2), []complex64{complex(-0.7, -0.7), complex(0.3, -0.1), complex(tiny, -tiny)}) {
				if standsInWedge(kind, at) {
					checkFoldedWay(t, impl.Tumble{Mirrors: kind, Beads: []impl.Bead{{At: at, Speed: speed}}}, 0)
				}
			}
		}
	}
}

func wantEnergy(m impl.Tumble) float32 {
	energy := float32(0)
	for _, b := range m.Beads {
		for _, part := range []float32{real(b.Speed), imag(b.Speed)} {
			energy = wantSum(energy, wantProduct(part, part))
		}
	}
	return energy
}

func TestEnergyOfIsExact(t *testing.T) {
	for _, m := range goodTumbles() {
		if got := impl.EnergyOf(m); !sameFloat(got, wantEnergy(m)) {
			t.Errorf("EnergyOf(%v) = %v, want %v", m, got, wantEnergy(m))
		}
	}
	for _, m := range badTumbles() {
		if got := impl.EnergyOf(m); !sameFloat(got, 0) {
			t.Errorf("EnergyOf(%v) = %v", m, got)
		}
	}
}

// The products and sums of these speeds are rounded, each by itself.
func TestEnergyOfRoughSpeeds(t *testing.T) {
	for i := range 500 {
		m := fullTumble(i % 4)
		for place := range m.Beads {
			k := float32(i*impl.MaxBeads + place + 1)
			m.Beads[place].Speed = complex(k/7, 100/k)
		}
		if got := impl.EnergyOf(m); !sameFloat(got, wantEnergy(m)) {
			t.Errorf("EnergyOf(%v) = %v, want %v", m, got, wantEnergy(m))
		}
	}
}

func TestEnergyOfLists(t *testing.T) {
	const square = impl.MaxReach * impl.MaxReach
	zero := minusZero()
	full := make([]complex64, impl.MaxBeads)
	for i := range full {
		full[i] = -impl.MaxReach + impl.MaxReach*1i
	}
	cases := []struct {
		speeds []complex64
		want   float32
	}{
		{nil, 0},
		{[]complex64{0, complex(zero, zero)}, 0},
		{[]complex64{3 + 4i}, 25},
		{[]complex64{-3 - 4i, 0, 0.5i}, 25.25},
		{[]complex64{complex(tiny, -tiny)}, 0},
		// Energies so great that 1 more is rounded off or up: each product is added by itself, in order.
		{[]complex64{impl.MaxReach, 1, 1}, square},
		{[]complex64{1, 1, impl.MaxReach}, square + 2},
		{[]complex64{impl.MaxReach, 1 + 1i}, square},
		{[]complex64{impl.MaxReach * 1i, 1, 1}, square},
		{[]complex64{1 + 1i, impl.MaxReach, 1}, square + 4},
		{[]complex64{impl.MaxReach, 1 + 1.25i}, square + 2},
		{[]complex64{impl.MaxReach, 1.25 + 1i}, square + 4},
		{full, 2 * impl.MaxBeads * square},
		// Beyond MaxReach a speed is none, and the tumble not valid.
		{[]complex64{1, complex(beyondReach(), 0)}, 0},
		{[]complex64{1, complex(0, -beyondReach())}, 0},
		{[]complex64{math.MaxFloat32}, 0},
	}
	for _, kind := range allKinds {
		for _, c := range cases {
			m := impl.Tumble{Mirrors: kind, Gravity: 7i, Loss: 0.5}
			for _, speed := range c.speeds {
				m.Beads = append(m.Beads, impl.Bead{At: 2 + 1i, Speed: speed})
			}
			if got := impl.EnergyOf(m); !sameFloat(got, c.want) {
				t.Errorf("EnergyOf(%v) = %v, want %v", m, got, c.want)
			}
		}
	}
}

func TestBouncesOfLists(t *testing.T) {
	still := impl.Bead{At: 2 + 1i}
	cases := []struct {
		kind    int
		gravity complex64
		loss    float32
		beads   []impl.Bead
		n       int
		want    []int
	}{
		{impl.MirrorStar, 0, 0, nil, 0, []int{}},
		{impl.MirrorStar, 1, 0, nil, impl.MaxRun, []int{}},
		{impl.MirrorNone, 0, 0, []impl.Bead{{Speed: -1 - 1i}, still}, impl.MaxRun, []int{0, 0}},
		{impl.MirrorStar, 0, 1, []impl.Bead{still, still}, impl.MaxRun, []int{0, 0}},
		// Each tick puts this bead back where it is, and turns its speed.
		{impl.MirrorLine, -4i, 0, []impl.Bead{{At: 1i, Speed: 2i}}, 1, []int{1}},
		{impl.MirrorLine, -4i, 0, []impl.Bead{{At: 1i, Speed: 2i}}, impl.MaxRun, []int{impl.MaxRun}},
		// From one mirror to the other one, and away.
		{impl.MirrorBoth, 0, 0, []impl.Bead{{At: 1 + 3i, Speed: -2 - 2i}}, 1, []int{1}},
		{impl.MirrorBoth, 0, 0, []impl.Bead{{At: 1 + 3i, Speed: -2 - 2i}}, 2, []int{2}},
		{impl.MirrorBoth, 0, 0, []impl.Bead{{At: 1 + 3i, Speed: -2 - 2i}}, impl.MaxRun, []int{2}},
		// At once through both.
		{impl.MirrorBoth, 0, 0, []impl.Bead{{At: 1 + 1i, Speed: -2 - 2i}}, impl.MaxRun, []int{1}},
		// Onto a mirror is no bounce, through it is one.
		{impl.MirrorLine, 0, 0, []impl.Bead{{At: 2i, Speed: -2i}, {At: 1i, Speed: -2i}, still}, 1, []int{0, 1, 0}},
		{impl.MirrorLine, 0, 0, []impl.Bead{{At: 2i, Speed: -2i}, {At: 1i, Speed: -2i}, still}, 2, []int{1, 1, 0}},
		// All its speed is lost at each bounce, at every second tick.
		{impl.MirrorLine, -1i, 1, []impl.Bead{{At: 0}}, 5, []int{3}},
		{impl.MirrorStar, 0, 0, []impl.Bead{{At: 3 + 1i, Speed: -1}, {At: 4 + 2i, Speed: -3 - 3i}}, 3, []int{1, 2}},
	}
	for _, c := range cases {
		m := impl.Tumble{Mirrors: c.kind, Gravity: c.gravity, Loss: c.loss, Beads: c.beads}
		if got, ok := impl.BouncesOf(m, c.n); !ok || !slices.Equal(got, c.want) {
			t.Errorf("BouncesOf(%v, %d) = %v, %v, want %v", m, c.n, got, ok, c.want)
		}
	}
}

func wantTurned(m impl.Tumble, g impl.Sym) (impl.Tumble, bool) {
	turned := m
	turned.Gravity, turned.Beads = wantImage(g, m.Gravity), nil
	for _, b := range m.Beads {
		at := wantImage(g, b.At)
		if !standsInWedge(m.Mirrors, at) {
			return m, false
		}
		turned.Beads = append(turned.Beads, impl.Bead{At: at, Speed: wantImage(g, b.Speed)})
	}
	return turned, true
}

func checkTurn(t *testing.T, m impl.Tumble, g impl.Sym, want impl.Tumble, valid bool) {
	t.Helper()
	if got, ok := impl.TurnTumble(m, g); ok != valid || !sameTumbleBits(got, want) {
		t.Errorf("TurnTumble(%v, %v) = %v, %v, want %v, %v", m, g, got, ok, want, valid)
	}
}

func TestTurnTumble(t *testing.T) {
	for _, m := range goodTumbles() {
		for _, g := range allTurns {
			want, valid := wantTurned(m, g)
			checkTurn(t, m, g, want, valid)
		}
	}
}

func TestTurnTumbleLists(t *testing.T) {
	zero := minusZero()
	m := impl.Tumble{Mirrors: impl.MirrorNone, Gravity: 1 - 2i, Loss: 0.5, Beads: []impl.Bead{{At: 3 + 4i, Speed: 5 - 6i}, {At: complex(zero, 7)}}}
	checkTurn(t, m, impl.Sym{Turns: 1}, impl.Tumble{
		Gravity: 2 + 1i, Loss: 0.5, Beads: []impl.Bead{{At: -4 + 3i, Speed: 6 + 5i}, {At: -7}},
	}, true)
	checkTurn(t, m, impl.Sym{Turns: 1, Flip: true}, impl.Tumble{
		Gravity: -2 + 1i, Loss: 0.5, Beads: []impl.Bead{{At: 4 + 3i, Speed: -6 + 5i}, {At: 7}},
	}, true)
	// A turn by nothing still makes +0 of the parts that are -0; Loss is no part of a point.
	m = impl.Tumble{Mirrors: impl.MirrorStar, Gravity: complex(zero, zero), Loss: zero, Beads: []impl.Bead{{At: complex(zero, zero), Speed: complex(1, zero)}}}
	checkTurn(t, m, impl.Sym{}, impl.Tumble{Mirrors: impl.MirrorStar, Loss: zero, Beads: []impl.Bead{{Speed: 1}}}, true)
}

// One bead that would stand outside the wedge is enough, wherever it is in the list; the others would stand in the corner.
func TestTurnTumbleOutOfTheWedge(t *testing.T) {
	for _, kind := range []int{impl.MirrorLine, impl.MirrorBoth, impl.MirrorStar} {
		for place := range impl.MaxBeads {
			m := impl.Tumble{Mirrors: kind, Gravity: complex(minusZero(), 1), Beads: make([]impl.Bead, impl.MaxBeads)}
			half := impl.Sym{Turns: 2}
			checkTurn(t, withBead(m, place, impl.Bead{At: 3 + 2i, Speed: 1}), half, withBead(m, place, impl.Bead{At: 3 + 2i, Speed: 1}), false)
			want := impl.Tumble{Mirrors: kind, Gravity: -1i, Beads: m.Beads}
			checkTurn(t, m, half, want, true)
		}
		for _, g := range allTurns {
			empty := impl.Tumble{Mirrors: kind, Gravity: 3 + 2i}
			checkTurn(t, empty, g, impl.Tumble{Mirrors: kind, Gravity: wantImage(g, 3+2i)}, true)
		}
	}
	onAxis := impl.Tumble{Mirrors: impl.MirrorBoth, Beads: []impl.Bead{{At: 2i, Speed: 1}}}
	checkTurn(t, onAxis, impl.Sym{Turns: 3}, impl.Tumble{Mirrors: impl.MirrorBoth, Beads: []impl.Bead{{At: 2, Speed: -1i}}}, true)
	checkTurn(t, onAxis, impl.Sym{Turns: 1}, onAxis, false)
}

func TestTurnTumbleOfInvalid(t *testing.T) {
	for _, m := range badTumbles() {
		for _, g := range append(wantSyms(impl.MirrorStar), noSyms...) {
			checkTurn(t, m, g, m, false)
		}
	}
	zero := minusZero()
	for _, kind := range allKinds {
		minus := impl.Tumble{Mirrors: kind, Gravity: complex(zero, 1), Beads: []impl.Bead{{At: complex(zero, zero), Speed: complex(1, zero)}}}
		for _, g := range noSyms {
			checkTurn(t, impl.Tumble{Mirrors: kind}, g, impl.Tumble{Mirrors: kind}, false)
			checkTurn(t, fullTumble(kind), g, fullTumble(kind), false)
			checkTurn(t, minus, g, minus, false)
		}
	}
}

// Symmetries that take a wedge onto itself turn a run as they turn its start.
func TestTurnedTumblesRunAsTheyWouldUnturned(t *testing.T) {
	turns := map[int][]impl.Sym{
		impl.MirrorNone: wantSyms(impl.MirrorStar),
		impl.MirrorLine: {{Turns: 2, Flip: true}},
		impl.MirrorBoth: {{Turns: 1, Flip: true}},
	}
	for kind, syms := range turns {
		for _, m := range calmTumbles(kind) {
			for _, g := range syms {
				turned, ok := impl.TurnTumble(m, g)
				first, is := impl.RunTumble(turned, 20)
				run, _ := impl.RunTumble(m, 20)
				last, was := impl.TurnTumble(run, g)
				if !ok || !is || !was || !sameTumbleBits(first, last) {
					t.Errorf("%v, turned by %v, runs to %v, want %v", m, g, first, last)
				}
			}
		}
	}
}

func wantWay(z complex64, speed complex64, n int) ([]complex64, bool) {
	way := []complex64{z}
	for range n {
		z = wantMovedCorner(z, speed)
		if !impl.IsPoint(z) {
			return nil, false
		}
		way = append(way, z)
	}
	return way, true
}

func checkWay(t *testing.T, z complex64, speed complex64, n int, want []complex64, valid bool) {
	t.Helper()
	if got, ok := impl.StraightWay(z, speed, n); ok != valid || !slices.EqualFunc(got, want, sameBits) {
		t.Errorf("StraightWay(%v, %v, %d) = %v, %v, want %v, %v", z, speed, n, got, ok, want, valid)
	}
}

func TestStraightWayIsExact(t *testing.T) {
	points := slices.Concat(goodPoints(), roughPoints())
	for i, z := range points {
		for j := range 16 {
			speed := points[(i*7+j*17)%len(points)]
			for _, n := range []int{0, 1, 2, 9, (i + 5*j) % (impl.MaxRun + 1), impl.MaxRun} {
				want, valid := wantWay(z, speed, n)
				checkWay(t, z, speed, n, want, valid)
			}
		}
	}
}

func TestStraightWayLists(t *testing.T) {
	zero := minusZero()
	none := []complex64{}
	checkWay(t, complex(zero, zero), 1, 0, []complex64{complex(zero, zero)}, true)
	checkWay(t, complex(zero, zero), complex(zero, zero), 2, []complex64{complex(zero, zero), 0, 0}, true)
	checkWay(t, 1-2i, complex(-0.5, 1), 3, []complex64{1 - 2i, 0.5 - 1i, 0, -0.5 + 1i}, true)
	checkWay(t, 4094-4094i, 1-1i, 2, []complex64{4094 - 4094i, 4095 - 4095i, 4096 - 4096i}, true)
	// Each sum is rounded by itself.
	checkWay(t, 4096, complex(swallowed, 0), 2, []complex64{4096, 4096, 4096}, true)
	checkWay(t, 4096, complex(noticed, 0), 1, none, false)
	// Out of reach at the first, a middle and the last sum, by each part and to each side.
	for _, side := range []complex64{1, -1, 1i, -1i} {
		for _, n := range []int{1, 2, 31, impl.MaxRun} {
			checkWay(t, 4096*side, side, n, none, false)
			for before := range n {
				checkWay(t, (4096-complex(float32(before), 0))*side, side, n, none, false)
			}
			if got, ok := impl.StraightWay((4096-complex(float32(n), 0))*side, side, n); !ok || len(got) != n+1 || got[n] != 4096*side {
				t.Errorf("StraightWay of %d times %v = %v, %v", n, side, got, ok)
			}
		}
	}
}

func TestStraightWayOfInvalid(t *testing.T) {
	for _, bad := range badPoints() {
		for _, n := range []int{0, 1, impl.MaxRun} {
			checkWay(t, bad, 0, n, nil, false)
			checkWay(t, 0, bad, n, nil, false)
			checkWay(t, bad, bad, n, nil, false)
			checkWay(t, bad, -bad, n, nil, false)
		}
	}
	for _, n := range noRuns {
		checkWay(t, 0, 0, n, nil, false)
		checkWay(t, 1+2i, 0.5i, n, nil, false)
	}
}

func TestSameTumble(t *testing.T) {
	zero := minusZero()
	for _, m := range goodTumbles() {
		other := impl.Tumble{Mirrors: m.Mirrors, Gravity: m.Gravity, Loss: m.Loss, Beads: append([]impl.Bead{}, m.Beads...)}
		if !impl.SameTumble(m, other) || !impl.SameTumble(other, m) {
			t.Error("not the same as a copy of it:", m)
		}
	}
	plus := impl.Tumble{Beads: []impl.Bead{{}, {}}}
	minus := impl.Tumble{Gravity: complex(zero, zero), Loss: zero, Beads: []impl.Bead{{At: complex(zero, zero)}, {Speed: complex(zero, zero)}}}
	if !impl.SameTumble(plus, minus) || !impl.SameTumble(minus, plus) {
		t.Error("-0 is not taken as the same as 0")
	}
	if !impl.SameTumble(impl.Tumble{}, impl.Tumble{Beads: []impl.Bead{}}) || !impl.SameTumble(impl.Tumble{Beads: []impl.Bead{}}, impl.Tumble{}) {
		t.Error("no beads and an empty list of them are not taken as the same")
	}
}

func TestSameTumbleTellsEachFieldApart(t *testing.T) {
	m := fullTumble(impl.MirrorLine)
	var others []impl.Tumble
	add := func(change func(n *impl.Tumble)) {
		n := fullTumble(impl.MirrorLine)
		change(&n)
		others = append(others, n)
	}
	add(func(n *impl.Tumble) { n.Mirrors = impl.MirrorBoth })
	add(func(n *impl.Tumble) { n.Gravity += 1 })
	add(func(n *impl.Tumble) { n.Gravity += 1i })
	add(func(n *impl.Tumble) { n.Loss = 0.5 })
	add(func(n *impl.Tumble) { n.Beads = n.Beads[:impl.MaxBeads-1] })
	add(func(n *impl.Tumble) { n.Beads = n.Beads[1:] })
	add(func(n *impl.Tumble) { n.Beads = append(n.Beads, n.Beads[0]) })
	add(func(n *impl.Tumble) { n.Beads = nil })
	add(func(n *impl.Tumble) { n.Beads[0], n.Beads[1] = n.Beads[1], n.Beads[0] })
	for place := range impl.MaxBeads {
		add(func(n *impl.Tumble) { n.Beads[place].At += 0.5 })
		add(func(n *impl.Tumble) { n.Beads[place].At += 0.5i })
		add(func(n *impl.Tumble) { n.Beads[place].Speed += 0.5 })
		add(func(n *impl.Tumble) { n.Beads[place].Speed += 0.5i })
	}
	for _, n := range others {
		if impl.SameTumble(m, n) || impl.SameTumble(n, m) {
			t.Errorf("taken as the same: %v, %v", m, n)
		}
	}
}

// It accepts tumbles that are not valid, too, but NaN equals nothing.
func TestSameTumbleOfInvalid(t *testing.T) {
	for _, m := range badTumbles() {
		isSelf := func(z complex64) bool { return z == z }
		want := isSelf(m.Gravity) && m.Loss == m.Loss &&
			!slices.ContainsFunc(m.Beads, func(b impl.Bead) bool { return !isSelf(b.At) || !isSelf(b.Speed) })
		if got := impl.SameTumble(m, m); got != want {
			t.Errorf("SameTumble of %v with itself: %v", m, got)
		}
	}
	nan := float32(math.NaN())
	if impl.SameTumble(impl.Tumble{Loss: nan}, impl.Tumble{Loss: nan}) {
		t.Error("NaN is taken as the same as NaN")
	}
}

// roomyTumble has the beads of a tumble, and beads behind them that nobody may change.
func roomyTumble(m impl.Tumble) impl.Tumble {
	count := len(m.Beads)
	m.Beads = append(slices.Clone(m.Beads), slices.Repeat([]impl.Bead{{At: 77, Speed: -77}}, count+4)...)[:count]
	return m
}

func TestTumblesAreLeftAsTheyAre(t *testing.T) {
	tumbles := slices.Concat(goodTumbles()[:200], badTumbles()[:200])
	for _, kind := range allKinds {
		tumbles = append(tumbles, fullTumble(kind), withBead(fullTumble(kind), 7, impl.Bead{At: 4096, Speed: 9}))
	}
	for _, m := range tumbles {
		given := roomyTumble(m)
		impl.IsTumble(given)
		impl.StepTumble(given)
		impl.EnergyOf(given)
		impl.SameTumble(given, given)
		for _, n := range []int{0, 1, 7, impl.MaxRun, impl.MaxRun + 1} {
			impl.RunTumble(given, n)
			impl.BouncesOf(given, n)
		}
		for _, g := range append(wantSyms(impl.MirrorStar), noSyms...) {
			impl.TurnTumble(given, g)
		}
		if !sameTumbleBits(given, m) {
			t.Error("a tumble is changed:", given, m)
		}
		for _, b := range given.Beads[len(given.Beads) : 2*len(given.Beads)+4] {
			if b != (impl.Bead{At: 77, Speed: -77}) {
				t.Error("the spare capacity is written to:", b)
			}
		}
	}
}

func TestTumbleResultsAreFresh(t *testing.T) {
	tumbles := append(badTumbles()[:100], withBead(fullTumble(impl.MirrorLine), 7, impl.Bead{At: 4096, Speed: 9}))
	for _, kind := range allKinds {
		tumbles = append(tumbles, fullTumble(kind))
	}
	for _, m := range tumbles {
		given := roomyTumble(m)
		step, _ := impl.StepTumble(given)
		results := []impl.Tumble{step}
		for _, n := range []int{0, 1, 5, impl.MaxRun, impl.MaxRun + 1, -1} {
			run, _ := impl.RunTumble(given, n)
			results = append(results, run)
		}
		for _, g := range append(wantSyms(impl.MirrorStar), noSyms...) {
			turned, _ := impl.TurnTumble(given, g)
			results = append(results, turned)
		}
		for _, result := range results {
			beads := result.Beads[:cap(result.Beads)]
			for i := range beads {
				beads[i] = impl.Bead{At: 0.123}
			}
		}
		if !sameTumbleBits(given, m) || slices.Contains(given.Beads[:cap(given.Beads)], impl.Bead{At: 0.123}) {
			t.Error("a result shares memory with the tumble it is made of:", given)
		}
	}
}

func TestWaysAndBouncesAreFresh(t *testing.T) {
	m := fullTumble(impl.MirrorStar)
	want, _ := impl.BouncesOf(m, 9)
	want = slices.Clone(want)
	first, _ := impl.BouncesOf(m, 9)
	first[0] = 99
	if got, _ := impl.BouncesOf(m, 9); !slices.Equal(got, want) {
		t.Error("BouncesOf keeps what a caller wrote:", got)
	}
	way, _ := impl.StraightWay(0, 1, 2)
	way[1] = 99
	if got, _ := impl.StraightWay(0, 1, 2); got[1] != 1 {
		t.Error("StraightWay keeps what a caller wrote:", got)
	}
}
