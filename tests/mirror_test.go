package tests

import (
	"math"
	"slices"
	"strconv"
	"testing"

	"loop.example/g03020/impl"
)

const tiny = math.SmallestNonzeroFloat32

var (
	allKinds = []int{impl.MirrorNone, impl.MirrorLine, impl.MirrorBoth, impl.MirrorStar}
	noKinds  = []int{-1, 4, math.MaxInt, math.MinInt}
	noSyms   = []impl.Sym{
		{Turns: -1}, {Turns: 4}, {Turns: -1, Flip: true}, {Turns: 4, Flip: true},
		{Turns: math.MaxInt, Flip: true}, {Turns: math.MinInt},
	}
)

func minusZero() float32 {
	return float32(math.Copysign(0, -1))
}

func beyondReach() float32 {
	return math.Nextafter32(impl.MaxReach, math.MaxFloat32)
}

// goodParts are parts of points: those in the middle, both zeros, the smallest and the greatest ones.
func goodParts() []float32 {
	below := math.Nextafter32(impl.MaxReach, 0)
	return []float32{
		0, minusZero(), tiny, -tiny, 0.1, -0.1, 1, -1, 1.5, -3, 2, 0.3333333,
		below, -below, impl.MaxReach, -impl.MaxReach,
	}
}

func goodPoints() []complex64 {
	var points []complex64
	for _, x := range goodParts() {
		for _, y := range goodParts() {
			points = append(points, complex(x, y))
		}
	}
	return points
}

func badPoints() []complex64 {
	nan, inf := float32(math.NaN()), float32(math.Inf(1))
	var points []complex64
	for _, bad := range []float32{beyondReach(), -beyondReach(), math.MaxFloat32, nan, inf, -inf} {
		points = append(points, complex(bad, 0), complex(0, bad), complex(bad, bad), complex(bad, 1), complex(-2, bad))
	}
	return points
}

func wantSyms(kind int) []impl.Sym {
	switch kind {
	case impl.MirrorNone:
		return []impl.Sym{{Turns: 0}}
	case impl.MirrorLine:
		return []impl.Sym{{Turns: 0}, {Turns: 0, Flip: true}}
	case impl.MirrorBoth:
		return []impl.Sym{{Turns: 0}, {Turns: 2}, {Turns: 0, Flip: true}, {Turns: 2, Flip: true}}
	}
	return []impl.Sym{
		{Turns: 0}, {Turns: 1}, {Turns: 2}, {Turns: 3},
		{Turns: 0, Flip: true}, {Turns: 1, Flip: true}, {Turns: 2, Flip: true}, {Turns: 3, Flip: true},
	}
}

func wantMirrors(kind int) []impl.Sym {
	switch kind {
	case impl.MirrorLine:
		return []impl.Sym{{Turns: 0, Flip: true}}
	case impl.MirrorBoth:
		return []impl.Sym{{Turns: 0, Flip: true}, {Turns: 2, Flip: true}}
	case impl.MirrorStar:
		return []impl.Sym{{Turns: 0, Flip: true}, {Turns: 1, Flip: true}}
	}
	return nil
}

// wantImage writes out by hand what the eight symmetries do to x + yi.
func wantImage(g impl.Sym, z complex64) complex64 {
	x, y := real(z), imag(z)
	images := map[impl.Sym][2]float32{
		{Turns: 0}: {x, y}, {Turns: 1}: {-y, x}, {Turns: 2}: {-x, -y}, {Turns: 3}: {y, -x},
		{Turns: 0, Flip: true}: {x, -y}, {Turns: 1, Flip: true}: {y, x},
		{Turns: 2, Flip: true}: {-x, y}, {Turns: 3, Flip: true}: {-y, -x},
	}
	image := images[g]
	return complex(image[0]+0, image[1]+0) // adding 0 makes +0 of -0
}

// sameBits tells +0 and -0 apart, which == does not.
func sameBits(a complex64, b complex64) bool {
	return math.Float32bits(real(a)) == math.Float32bits(real(b)) &&
		math.Float32bits(imag(a)) == math.Float32bits(imag(b))
}

func isPlainZero(z complex64) bool {
	return sameBits(z, 0)
}

func TestIsPoint(t *testing.T) {
	for _, z := range goodPoints() {
		if !impl.IsPoint(z) {
			t.Error("a point is not taken as one:", z)
		}
	}
	for _, z := range badPoints() {
		if impl.IsPoint(z) {
			t.Error("taken as a point:", z)
		}
	}
}

func TestIsSym(t *testing.T) {
	for _, g := range wantSyms(impl.MirrorStar) {
		if !impl.IsSym(g) {
			t.Error("a symmetry is not taken as one:", g)
		}
	}
	for _, g := range noSyms {
		if impl.IsSym(g) {
			t.Error("taken as a symmetry:", g)
		}
	}
}

func TestActSymIsExact(t *testing.T) {
	for _, g := range wantSyms(impl.MirrorStar) {
		for _, z := range goodPoints() {
			if got, want := impl.ActSym(g, z), wantImage(g, z); !sameBits(got, want) {
				t.Errorf("ActSym(%v, %v) = %v, want %v", g, z, got, want)
			}
		}
	}
}

func TestActSymOfInvalid(t *testing.T) {
	for _, g := range noSyms {
		if got := impl.ActSym(g, 1+2i); !isPlainZero(got) {
			t.Errorf("ActSym(%v) = %v", g, got)
		}
	}
	for _, z := range badPoints() {
		for _, g := range wantSyms(impl.MirrorStar) {
			if got := impl.ActSym(g, z); !isPlainZero(got) {
				t.Errorf("ActSym(%v, %v) = %v", g, z, got)
			}
		}
	}
}

func TestThenSymActsAsBothInTurn(t *testing.T) {
	z := complex64(2 + 5i)
	for _, g := range wantSyms(impl.MirrorStar) {
		for _, h := range wantSyms(impl.MirrorStar) {
			got := impl.ThenSym(g, h)
			if want := wantImage(h, wantImage(g, z)); !impl.IsSym(got) || wantImage(got, z) != want {
				t.Errorf("ThenSym(%v, %v) = %v", g, h, got)
			}
		}
	}
	turn, flip := impl.Sym{Turns: 1}, impl.Sym{Flip: true}
	if impl.ThenSym(turn, flip) == impl.ThenSym(flip, turn) {
		t.Error("ThenSym takes no heed of the order")
	}
}

func TestThenSymOfInvalid(t *testing.T) {
	for _, g := range noSyms {
		for _, h := range append(wantSyms(impl.MirrorStar), noSyms...) {
			if got := impl.ThenSym(g, h); got != (impl.Sym{}) {
				t.Errorf("ThenSym(%v, %v) = %v", g, h, got)
			}
			if got := impl.ThenSym(h, g); got != (impl.Sym{}) {
				t.Errorf("ThenSym(%v, %v) = %v", h, g, got)
			}
		}
	}
}

func TestBackSym(t *testing.T) {
	for _, g := range wantSyms(impl.MirrorStar) {
		back := impl.BackSym(g)
		for _, z := range goodPoints() {
			if got := wantImage(back, wantImage(g, z)); !impl.IsSym(back) || got != z {
				t.Errorf("BackSym(%v) = %v, which takes %v to %v", g, back, z, got)
			}
		}
	}
	for _, g := range noSyms {
		if got := impl.BackSym(g); got != (impl.Sym{}) {
			t.Errorf("BackSym(%v) = %v", g, got)
		}
	}
}

func TestSymsOf(t *testing.T) {
	for _, kind := range allKinds {
		if got := impl.SymsOf(kind); !slices.Equal(got, wantSyms(kind)) {
			t.Errorf("SymsOf(%d) = %v", kind, got)
		}
	}
	for _, kind := range noKinds {
		if got := impl.SymsOf(kind); len(got) != 0 {
			t.Errorf("SymsOf(%d) = %v", kind, got)
		}
	}
}

func TestInWedge(t *testing.T) {
	for _, z := range goodPoints() {
		x, y := real(z), imag(z)
		want := []bool{true, y >= 0, x >= 0 && y >= 0, y >= 0 && x >= y}
		for _, kind := range allKinds {
			if got := impl.InWedge(kind, z); got != want[kind] {
				t.Errorf("InWedge(%d, %v) = %v", kind, z, got)
			}
		}
	}
	for _, z := range badPoints() {
		for _, kind := range allKinds {
			if impl.InWedge(kind, z) {
				t.Errorf("InWedge(%d, %v)", kind, z)
			}
		}
	}
	for _, kind := range noKinds {
		if impl.InWedge(kind, 2+1i) {
			t.Errorf("InWedge(%d)", kind)
		}
	}
}

func TestInWedgeOnTheMirrors(t *testing.T) {
	zero := minusZero()
	cases := []struct {
		kind int
		z    complex64
		want bool
	}{
		{impl.MirrorLine, complex(-3, zero), true},
		{impl.MirrorLine, complex(-3, -tiny), false},
		{impl.MirrorBoth, complex(zero, zero), true},
		{impl.MirrorBoth, complex(zero, 5), true},
		{impl.MirrorBoth, complex(-tiny, 5), false},
		{impl.MirrorStar, complex(zero, 0), true},
		{impl.MirrorStar, complex(2, 2), true},
		{impl.MirrorStar, complex(2, math.Nextafter32(2, 3)), false},
		{impl.MirrorStar, complex(impl.MaxReach, impl.MaxReach), true},
		{impl.MirrorStar, complex(3, -tiny), false},
	}
	for _, c := range cases {
		if got := impl.InWedge(c.kind, c.z); got != c.want {
			t.Errorf("InWedge(%d, %v) = %v", c.kind, c.z, got)
		}
	}
}

// wantFold finds the fold without symmetries, from the absolute values of the parts.
func wantFold(kind int, z complex64) complex64 {
	x, y := real(z)+0, imag(z)+0
	if kind >= impl.MirrorLine {
		y = max(y, 0-y)
	}
	if kind >= impl.MirrorBoth {
		x = max(x, 0-x)
	}
	if kind == impl.MirrorStar {
		x, y = max(x, y), min(x, y)
	}
	return complex(x, y)
}

func TestFoldPointIsExact(t *testing.T) {
	for _, kind := range allKinds {
		for _, z := range goodPoints() {
			got, g, ok := impl.FoldPoint(kind, z)
			if !ok || !sameBits(got, wantFold(kind, z)) || !sameBits(got, wantImage(g, z)) {
				t.Errorf("FoldPoint(%d, %v) = %v, %v, %v", kind, z, got, g, ok)
			}
		}
	}
}

func TestFoldPointTakesTheFirstSymmetry(t *testing.T) {
	for _, kind := range allKinds {
		for _, z := range goodPoints() {
			first := slices.IndexFunc(wantSyms(kind), func(g impl.Sym) bool {
				return wantImage(g, z) == wantFold(kind, z)
			})
			if _, g, _ := impl.FoldPoint(kind, z); g != wantSyms(kind)[first] {
				t.Errorf("FoldPoint(%d, %v) folds by %v", kind, z, g)
			}
		}
	}
}

func TestFoldPointIsTheSameForAllImages(t *testing.T) {
	for _, kind := range allKinds {
		for _, z := range goodPoints() {
			want, _, _ := impl.FoldPoint(kind, z)
			for _, g := range wantSyms(kind) {
				if got, _, ok := impl.FoldPoint(kind, impl.ActSym(g, z)); !ok || !sameBits(got, want) {
					t.Errorf("FoldPoint(%d) of what %v makes of %v: %v, want %v", kind, g, z, got, want)
				}
			}
			if again, g, ok := impl.FoldPoint(kind, want); !ok || !sameBits(again, want) || g != (impl.Sym{}) {
				t.Errorf("FoldPoint(%d, %v) = %v, %v", kind, want, again, g)
			}
		}
	}
}

func TestFoldPointOnTheMirrors(t *testing.T) {
	zero := minusZero()
	cases := []struct {
		kind int
		z    complex64
		want complex64
		g    impl.Sym
	}{
		{impl.MirrorNone, complex(zero, zero), 0, impl.Sym{}},
		{impl.MirrorNone, complex(-3, -4), complex(-3, -4), impl.Sym{}},
		{impl.MirrorLine, complex(-3, zero), complex(-3, 0), impl.Sym{}},
		{impl.MirrorLine, complex(-3, -tiny), complex(-3, tiny), impl.Sym{Flip: true}},
		{impl.MirrorBoth, complex(-3, zero), complex(3, 0), impl.Sym{Turns: 2}},
		{impl.MirrorBoth, complex(zero, -3), complex(0, 3), impl.Sym{Turns: 2}},
		{impl.MirrorBoth, complex(-3, 4), complex(3, 4), impl.Sym{Turns: 2, Flip: true}},
		{impl.MirrorStar, complex(zero, zero), 0, impl.Sym{}},
		{impl.MirrorStar, complex(zero, 4), complex(4, 0), impl.Sym{Turns: 3}},
		{impl.MirrorStar, complex(-2, 2), complex(2, 2), impl.Sym{Turns: 3}},
		{impl.MirrorStar, complex(-2, -2), complex(2, 2), impl.Sym{Turns: 2}},
		{impl.MirrorStar, complex(2, -2), complex(2, 2), impl.Sym{Turns: 1}},
		{impl.MirrorStar, complex(1, -4096), complex(4096, 1), impl.Sym{Turns: 1}},
		{impl.MirrorStar, complex(1, 4096), complex(4096, 1), impl.Sym{Turns: 1, Flip: true}},
		{impl.MirrorStar, complex(-1, -4096), complex(4096, 1), impl.Sym{Turns: 3, Flip: true}},
	}
	for _, c := range cases {
		if got, g, ok := impl.FoldPoint(c.kind, c.z); !ok || !sameBits(got, c.want) || g != c.g {
			t.Errorf("FoldPoint(%d, %v) = %v, %v, %v", c.kind, c.z, got, g, ok)
		}
	}
}

// checkNothing checks what FoldPoint, OrbitOf and KeepersOf return for a kind or a point that is none.
func checkNothing(t *testing.T, kind int, z complex64) {
	t.Helper()
	if got, g, ok := impl.FoldPoint(kind, z); ok || g != (impl.Sym{}) || !isPlainZero(got) {
		t.Errorf("FoldPoint(%d, %v) = %v, %v, %v", kind, z, got, g, ok)
	}
	if got := impl.OrbitOf(kind, z); len(got) != 0 {
		t.Errorf("OrbitOf(%d, %v) = %v", kind, z, got)
	}
	if got := impl.KeepersOf(kind, z); len(got) != 0 {
		t.Errorf("KeepersOf(%d, %v) = %v", kind, z, got)
	}
}

func TestFoldOrbitAndKeepersOfInvalid(t *testing.T) {
	for _, kind := range append(noKinds, allKinds...) {
		for _, z := range badPoints() {
			checkNothing(t, kind, z)
		}
	}
	for _, kind := range noKinds {
		checkNothing(t, kind, 0)
		checkNothing(t, kind, 2+1i)
	}
}

func TestOrbitOfLists(t *testing.T) {
	zero := minusZero()
	cases := []struct {
		kind int
		z    complex64
		want []complex64
	}{
		{impl.MirrorNone, complex(zero, -2), []complex64{-2i}},
		{impl.MirrorLine, complex(3, zero), []complex64{3}},
		{impl.MirrorLine, complex(zero, 3), []complex64{-3i, 3i}},
		{impl.MirrorBoth, complex(1, -2), []complex64{-1 - 2i, -1 + 2i, 1 - 2i, 1 + 2i}},
		{impl.MirrorBoth, complex(-5, zero), []complex64{-5, 5}},
		{impl.MirrorStar, complex(zero, zero), []complex64{0}},
		{impl.MirrorStar, complex(zero, 4096), []complex64{-4096, -4096i, 4096i, 4096}},
		{impl.MirrorStar, complex(2, -2), []complex64{-2 - 2i, -2 + 2i, 2 - 2i, 2 + 2i}},
		{impl.MirrorStar, complex(1, 2), []complex64{
			-2 - 1i, -2 + 1i, -1 - 2i, -1 + 2i, 1 - 2i, 1 + 2i, 2 - 1i, 2 + 1i,
		}},
	}
	for _, c := range cases {
		if got := impl.OrbitOf(c.kind, c.z); !slices.EqualFunc(got, c.want, sameBits) {
			t.Errorf("OrbitOf(%d, %v) = %v", c.kind, c.z, got)
		}
	}
}

func TestOrbitOfHasAllImagesInOrder(t *testing.T) {
	for _, kind := range allKinds {
		for _, z := range goodPoints() {
			orbit := impl.OrbitOf(kind, z)
			for i := 1; i < len(orbit); i++ {
				a, b := orbit[i-1], orbit[i]
				if real(a) > real(b) || real(a) == real(b) && imag(a) >= imag(b) {
					t.Errorf("OrbitOf(%d, %v) is not ascending: %v", kind, z, orbit)
				}
			}
			images := map[complex64]bool{}
			for _, g := range wantSyms(kind) {
				image := wantImage(g, z)
				images[image] = true
				if !slices.ContainsFunc(orbit, func(w complex64) bool { return sameBits(w, image) }) {
					t.Errorf("OrbitOf(%d, %v) lacks %v", kind, z, image)
				}
				if other := impl.OrbitOf(kind, image); !slices.EqualFunc(other, orbit, sameBits) {
					t.Errorf("OrbitOf(%d) of %v and of its image %v are not the same", kind, z, image)
				}
			}
			if len(orbit) != len(images) {
				t.Errorf("OrbitOf(%d, %v) = %v", kind, z, orbit)
			}
		}
	}
}

func TestKeepersOf(t *testing.T) {
	for _, kind := range allKinds {
		for _, z := range goodPoints() {
			want := slices.DeleteFunc(wantSyms(kind), func(g impl.Sym) bool { return wantImage(g, z) != z })
			if got := impl.KeepersOf(kind, z); !slices.Equal(got, want) {
				t.Errorf("KeepersOf(%d, %v) = %v, want %v", kind, z, got, want)
			}
		}
	}
	if got := impl.KeepersOf(impl.MirrorStar, complex(minusZero(), 0)); !slices.Equal(got, wantSyms(impl.MirrorStar)) {
		t.Error("KeepersOf of the middle:", got)
	}
	onAxis := []impl.Sym{{Turns: 0}, {Turns: 2, Flip: true}}
	if got := impl.KeepersOf(impl.MirrorBoth, complex(minusZero(), 7)); !slices.Equal(got, onAxis) {
		t.Error("KeepersOf on the imaginary axis:", got)
	}
}

// wordsUpTo lists the words of a kind with at most this many letters, in the order in which WordOfSym prefers them.
func wordsUpTo(kind int, most int) [][]int {
	words := [][]int{{}}
	last := words
	for range most {
		var next [][]int
		for _, word := range last {
			for letter := range wantMirrors(kind) {
				next = append(next, append(slices.Clone(word), letter))
			}
		}
		words = append(words, next...)
		last = next
	}
	return words
}

func wantWordImage(kind int, word []int, z complex64) complex64 {
	for _, letter := range word {
		z = wantImage(wantMirrors(kind)[letter], z)
	}
	return z
}

func TestSymOfWordActsAsItsLetters(t *testing.T) {
	z := complex64(2 + 5i)
	for _, kind := range allKinds {
		for _, word := range wordsUpTo(kind, 6) {
			given := slices.Clone(word)
			g, ok := impl.SymOfWord(kind, given)
			if !ok || !impl.IsSym(g) || wantImage(g, z) != wantWordImage(kind, word, z) {
				t.Errorf("SymOfWord(%d, %v) = %v, %v", kind, word, g, ok)
			}
			if !slices.Equal(given, word) {
				t.Errorf("SymOfWord(%d, %v) changes the word to %v", kind, word, given)
			}
		}
		if g, ok := impl.SymOfWord(kind, nil); !ok || g != (impl.Sym{}) {
			t.Errorf("SymOfWord(%d, nil) = %v, %v", kind, g, ok)
		}
	}
}

func TestSymOfWordOfMaxWordLetters(t *testing.T) {
	word := make([]int, impl.MaxWord+1)
	word[impl.MaxWord-1] = 1
	want := impl.ThenSym(impl.Sym{Flip: true}, impl.Sym{Turns: 1, Flip: true})
	if g, ok := impl.SymOfWord(impl.MirrorStar, word[:impl.MaxWord]); !ok || g != want {
		t.Errorf("a word of MaxWord letters: %v, %v", g, ok)
	}
	for _, kind := range []int{impl.MirrorLine, impl.MirrorBoth, impl.MirrorStar} {
		if g, ok := impl.SymOfWord(kind, make([]int, impl.MaxWord)); !ok || g != (impl.Sym{}) {
			t.Errorf("MaxWord letters 0 of kind %d: %v, %v", kind, g, ok)
		}
		if g, ok := impl.SymOfWord(kind, make([]int, impl.MaxWord+1)); ok || g != (impl.Sym{}) {
			t.Errorf("one letter more of kind %d: %v, %v", kind, g, ok)
		}
	}
	if g, ok := impl.SymOfWord(impl.MirrorStar, word); ok || g != (impl.Sym{}) {
		t.Errorf("a word of more than MaxWord letters: %v, %v", g, ok)
	}
}

func TestSymOfWordOfInvalid(t *testing.T) {
	cases := []struct {
		kind int
		word []int
	}{
		{impl.MirrorNone, []int{0}},
		{impl.MirrorLine, []int{1}},
		{impl.MirrorLine, []int{0, 0, 1}},
		{impl.MirrorBoth, []int{2}},
		{impl.MirrorBoth, []int{0, 1, -1}},
		{impl.MirrorStar, []int{2}},
		{impl.MirrorStar, []int{1, 0, 3}},
		{impl.MirrorStar, []int{math.MinInt}},
		{impl.MirrorStar, []int{math.MaxInt, 0}},
	}
	for _, kind := range noKinds {
		cases = append(cases, struct {
			kind int
			word []int
		}{kind, nil})
	}
	for _, c := range cases {
		if g, ok := impl.SymOfWord(c.kind, c.word); ok || g != (impl.Sym{}) {
			t.Errorf("SymOfWord(%d, %v) = %v, %v", c.kind, c.word, g, ok)
		}
	}
}

func TestWordOfSymIsTheShortestAndFirst(t *testing.T) {
	z := complex64(2 + 5i)
	for _, kind := range allKinds {
		words := wordsUpTo(kind, 5)
		for _, g := range wantSyms(kind) {
			first := slices.IndexFunc(words, func(word []int) bool {
				return wantWordImage(kind, word, z) == wantImage(g, z)
			})
			if got, ok := impl.WordOfSym(kind, g); !ok || !slices.Equal(got, words[first]) {
				t.Errorf("WordOfSym(%d, %v) = %v, %v", kind, g, got, ok)
			}
		}
	}
	if word, ok := impl.WordOfSym(impl.MirrorBoth, impl.Sym{Turns: 2}); !ok || !slices.Equal(word, []int{0, 1}) {
		t.Error("half a turn of two mirrors:", word)
	}
}

func TestWordOfSymOfInvalid(t *testing.T) {
	for _, kind := range append(noKinds, allKinds...) {
		for _, g := range append(wantSyms(impl.MirrorStar), noSyms...) {
			if slices.Contains(allKinds, kind) && slices.Contains(wantSyms(kind), g) {
				continue
			}
			if word, ok := impl.WordOfSym(kind, g); ok || len(word) != 0 {
				t.Errorf("WordOfSym(%d, %v) = %v, %v", kind, g, word, ok)
			}
		}
	}
}

func TestFormatAndParseSym(t *testing.T) {
	want := []string{"0", "1", "2", "3", "0f", "1f", "2f", "3f"}
	for i, g := range wantSyms(impl.MirrorStar) {
		if got := impl.FormatSym(g); got != want[i] {
			t.Errorf("FormatSym(%v) = %q", g, got)
		}
		if got, ok := impl.ParseSym(want[i]); !ok || got != g {
			t.Errorf("ParseSym(%q) = %v, %v", want[i], got, ok)
		}
	}
	for _, g := range noSyms {
		if got := impl.FormatSym(g); got != "" {
			t.Errorf("FormatSym(%v) = %q", g, got)
		}
	}
}

func TestParseSymOfInvalid(t *testing.T) {
	texts := []string{
		"", "f", "F", "4", "4f", "-1", "-0", "+1", "00", "03", "03f", "1F", "1ff", "f1", "1f1", "11",
		" 1", "1 ", "1 f", "1f ", "1\n", "1f\x00", "1.0", "0x1", "\u0661", "\uff11", "1\xff", "true", "{0 false}",
	}
	for _, n := range []int{-1, 4, 10, 256, math.MaxInt} {
		texts = append(texts, strconv.Itoa(n), strconv.Itoa(n)+"f")
	}
	for _, s := range texts {
		if got, ok := impl.ParseSym(s); ok || got != (impl.Sym{}) {
			t.Errorf("ParseSym(%q) = %v, %v", s, got, ok)
		}
	}
}

func TestMirrorResultsAreFresh(t *testing.T) {
	z := complex64(2 + 1i)
	impl.SymsOf(impl.MirrorStar)[0].Turns = 3
	impl.OrbitOf(impl.MirrorStar, z)[0] = 99
	impl.KeepersOf(impl.MirrorStar, z)[0].Turns = 3
	half := impl.Sym{Turns: 2}
	word, _ := impl.WordOfSym(impl.MirrorStar, half)
	word[0] = 7
	if got := impl.SymsOf(impl.MirrorStar); !slices.Equal(got, wantSyms(impl.MirrorStar)) {
		t.Error("SymsOf keeps what a caller wrote:", got)
	}
	if got := impl.OrbitOf(impl.MirrorStar, z); got[0] != -2-1i {
		t.Error("OrbitOf keeps what a caller wrote:", got)
	}
	if got := impl.KeepersOf(impl.MirrorStar, z); got[0] != (impl.Sym{}) {
		t.Error("KeepersOf keeps what a caller wrote:", got)
	}
	if got, _ := impl.WordOfSym(impl.MirrorStar, half); !slices.Equal(got, []int{0, 1, 0, 1}) {
		t.Error("WordOfSym keeps what a caller wrote:", got)
	}
}
