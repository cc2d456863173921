package tests

import (
	"math"
	"slices"
	"strings"
	"testing"

	"loop.example/g03020/impl"
)

var (
	// The squares of 1<<32, of math.MinInt and of math.MaxInt wrap around to 0, 0 and 1.
	noSizes = []int{0, -1, -2, -impl.MaxSize, impl.MaxSize + 1, 1 << 32, math.MaxInt, math.MinInt}

	// symGroups are all the groups of symmetries that there are, with the mirrors in each.
	symGroups = []struct {
		syms    []impl.Sym
		mirrors int
	}{
		{[]impl.Sym{{Turns: 0}}, impl.MirrorNone},
		{[]impl.Sym{{Turns: 0}, {Turns: 2}}, impl.MirrorNone},
		{[]impl.Sym{{Turns: 0}, {Turns: 1}, {Turns: 2}, {Turns: 3}}, impl.MirrorNone},
		{[]impl.Sym{{Turns: 0}, {Turns: 0, Flip: true}}, impl.MirrorLine},
		{[]impl.Sym{{Turns: 0}, {Turns: 1, Flip: true}}, impl.MirrorNone},
		{[]impl.Sym{{Turns: 0}, {Turns: 2, Flip: true}}, impl.MirrorNone},
		{[]impl.Sym{{Turns: 0}, {Turns: 3, Flip: true}}, impl.MirrorNone},
		{[]impl.Sym{{Turns: 0}, {Turns: 2}, {Turns: 0, Flip: true}, {Turns: 2, Flip: true}}, impl.MirrorBoth},
		{[]impl.Sym{{Turns: 0}, {Turns: 2}, {Turns: 1, Flip: true}, {Turns: 3, Flip: true}}, impl.MirrorNone},
		{wantSyms(impl.MirrorStar), impl.MirrorStar},
	}
)

func allSizes() []int {
	var sizes []int
	for size := 1; size <= impl.MaxSize; size++ {
		sizes = append(sizes, size)
	}
	return sizes
}

// wantTo goes by rows and columns, without places: a turn makes the last column the upper row.
func wantTo(size int, cell int, g impl.Sym) int {
	row, column := cell/size, cell%size
	if g.Flip {
		row = size - 1 - row
	}
	for range g.Turns {
		row, column = size-1-column, row
	}
	return row*size + column
}

func wantLeast(size int, cell int, syms []impl.Sym) int {
	least := cell
	for _, g := range syms {
		least = min(least, wantTo(size, cell, g))
	}
	return least
}

// cellColour is another colour for each cell of a picture.
func cellColour(cell int) impl.Colour {
	return impl.Colour{R: float32(cell) / 64, G: 1 - float32(cell)/100, B: float32(cell*cell%64) / 70}
}

// groupPicture has no more colours than a picture needs that these symmetries keep.
func groupPicture(size int, syms []impl.Sym) impl.Picture {
	p := impl.Picture{Size: size}
	for cell := range size * size {
		p.Cells = append(p.Cells, cellColour(wantLeast(size, cell, syms)))
	}
	return p
}

// motley has another colour in each cell.
func motley(size int) impl.Picture {
	return groupPicture(size, []impl.Sym{{}})
}

func evenly(size int, a impl.Colour) impl.Picture {
	return impl.Picture{Size: size, Cells: slices.Repeat([]impl.Colour{a}, size*size)}
}

func withCell(p impl.Picture, cell int, a impl.Colour) impl.Picture {
	p.Cells = slices.Clone(p.Cells)
	p.Cells[cell] = a
	return p
}

// zeroPicture has parts that are 0 in all cells: here and there -0.
func zeroPicture(size int) impl.Picture {
	p := evenly(size, impl.Colour{})
	for cell := range p.Cells {
		for i, part := range []*float32{&p.Cells[cell].R, &p.Cells[cell].G, &p.Cells[cell].B} {
			if (cell*3+i)%4 == 1 {
				*part = minusZero()
			}
		}
	}
	return p
}

func goodPictures() []impl.Picture {
	var pictures []impl.Picture
	for _, size := range allSizes() {
		pictures = append(pictures, evenly(size, amber), evenly(size, white), zeroPicture(size))
		for _, group := range symGroups {
			pictures = append(pictures, groupPicture(size, group.syms))
		}
		for cell := range size * size {
			pictures = append(pictures, withCell(evenly(size, white), cell, amber))
		}
	}
	for i, a := range goodColours() {
		size := 1 + i%impl.MaxSize
		pictures = append(pictures, evenly(size, a), withCell(motley(size), i%(size*size), a))
	}
	return pictures
}

func badPictures() []impl.Picture {
	pictures := []impl.Picture{{Cells: []impl.Colour{white}}}
	for _, size := range noSizes {
		pictures = append(pictures, impl.Picture{Size: size})
		for _, count := range []int{1, 4, 64, 81} {
			pictures = append(pictures, impl.Picture{Size: size, Cells: evenly(9, white).Cells[:count]})
		}
	}
	for _, size := range allSizes() {
		cells := motley(size).Cells
		pictures = append(pictures,
			impl.Picture{Size: size},
			impl.Picture{Size: size, Cells: cells[1:]},
			impl.Picture{Size: size, Cells: append(slices.Clone(cells), white)},
			impl.Picture{Size: size, Cells: evenly(size+1, white).Cells})
		for i, bad := range badColours() {
			last := size*size - 1
			pictures = append(pictures,
				withCell(motley(size), 0, bad), withCell(motley(size), i%(last+1), bad), withCell(motley(size), last, bad))
		}
	}
	return append(pictures, evenly(3, badColours()[0]))
}

func samePictureBits(p impl.Picture, q impl.Picture) bool {
	return p.Size == q.Size && slices.EqualFunc(p.Cells, q.Cells, sameColourBits)
}

func isPlainPicture(p impl.Picture) bool {
	return p.Size == 0 && len(p.Cells) == 0
}

// isKept tells by ==, cell by cell, whether acting with a symmetry changes no cell.
func isKept(p impl.Picture, g impl.Sym) bool {
	for cell, a := range p.Cells {
		if p.Cells[wantTo(p.Size, cell, g)] != a {
			return false
		}
	}
	return true
}

func wantKeeping(p impl.Picture) []impl.Sym {
	return slices.DeleteFunc(wantSyms(impl.MirrorStar), func(g impl.Sym) bool { return !isKept(p, g) })
}

func TestIsPicture(t *testing.T) {
	for _, p := range goodPictures() {
		if !impl.IsPicture(p) {
			t.Error("a picture is not taken as one:", p)
		}
	}
	for _, p := range badPictures() {
		if impl.IsPicture(p) {
			t.Error("taken as a picture:", p)
		}
	}
	if impl.IsPicture(impl.Picture{}) {
		t.Error("the zero value is taken as a picture")
	}
}

func TestPlaceOfGoesRowByRow(t *testing.T) {
	for _, size := range allSizes() {
		cell := 0
		for y := size - 1; y >= 1-size; y -= 2 {
			for x := 1 - size; x <= size-1; x += 2 {
				want := complex64(complex(float64(x), float64(y)))
				if got, ok := impl.PlaceOf(size, cell); !ok || !sameBits(got, want) {
					t.Errorf("PlaceOf(%d, %d) = %v, %v, want %v", size, cell, got, ok, want)
				}
				cell++
			}
		}
	}
	cases := []struct {
		size, cell int
		want       complex64
	}{
		{1, 0, 0}, {2, 0, -1 + 1i}, {2, 1, 1 + 1i}, {2, 2, -1 - 1i}, {2, 3, 1 - 1i},
		{3, 1, 2i}, {3, 3, -2}, {3, 4, 0}, {8, 0, -7 + 7i}, {8, 15, 7 + 5i}, {8, 63, 7 - 7i},
	}
	for _, c := range cases {
		if got, ok := impl.PlaceOf(c.size, c.cell); !ok || !sameBits(got, c.want) {
			t.Errorf("PlaceOf(%d, %d) = %v, %v", c.size, c.cell, got, ok)
		}
	}
}

// noCells are sizes and indices of cells of which one is out of range.
func noCells() [][2]int {
	var pairs [][2]int
	for _, size := range noSizes {
		for _, cell := range []int{0, 1, -1, 4, 63, 80} {
			pairs = append(pairs, [2]int{size, cell})
		}
	}
	for _, size := range allSizes() {
		for _, cell := range []int{-1, -size, size * size, size*size + 1, math.MaxInt, math.MinInt} {
			pairs = append(pairs, [2]int{size, cell})
		}
	}
	return pairs
}

func TestPlaceOfAndCellToOutOfRange(t *testing.T) {
	for _, pair := range noCells() {
		size, cell := pair[0], pair[1]
		if got, ok := impl.PlaceOf(size, cell); ok || !isPlainZero(got) {
			t.Errorf("PlaceOf(%d, %d) = %v, %v", size, cell, got, ok)
		}
		for _, g := range append(wantSyms(impl.MirrorStar), noSyms...) {
			if got := impl.CellTo(size, cell, g); got != -1 {
				t.Errorf("CellTo(%d, %d, %v) = %d", size, cell, g, got)
			}
		}
	}
	for _, size := range allSizes() {
		for _, g := range noSyms {
			for cell := range size * size {
				if got := impl.CellTo(size, cell, g); got != -1 {
					t.Errorf("CellTo(%d, %d, %v) = %d", size, cell, g, got)
				}
			}
		}
	}
}

func TestCellToGoesWithThePlaces(t *testing.T) {
	for _, size := range allSizes() {
		for cell := range size * size {
			for _, g := range allTurns {
				got := impl.CellTo(size, cell, g)
				if got != wantTo(size, cell, g) {
					t.Errorf("CellTo(%d, %d, %v) = %d, want %d", size, cell, g, got, wantTo(size, cell, g))
				}
				from, _ := impl.PlaceOf(size, cell)
				to, ok := impl.PlaceOf(size, got)
				if !ok || !sameBits(to, wantImage(g, from)) {
					t.Errorf("CellTo(%d, %d, %v) = %d, which is at %v", size, cell, g, got, to)
				}
			}
		}
	}
}

func TestActPictureMovesEachCell(t *testing.T) {
	for _, p := range goodPictures() {
		for _, g := range allTurns {
			got := impl.ActPicture(g, p)
			if got.Size != p.Size || len(got.Cells) != len(p.Cells) {
				t.Fatalf("ActPicture(%v, %v) = %v", g, p, got)
			}
			for cell, a := range p.Cells {
				if b := got.Cells[wantTo(p.Size, cell, g)]; !sameColourBits(a, b) {
					t.Errorf("ActPicture(%v, %v) makes %v of cell %d", g, p, b, cell)
				}
			}
		}
	}
}

func TestActPictureLooksAsTurned(t *testing.T) {
	p := impl.Picture{Size: 3}
	for _, digit := range "123456789" {
		a, _ := impl.ParseColour("00" + string(digit))
		p.Cells = append(p.Cells, a)
	}
	cases := []struct {
		g    impl.Sym
		want string
	}{
		{impl.Sym{Turns: 0}, "123 456 789"},
		{impl.Sym{Turns: 1}, "369 258 147"},
		{impl.Sym{Turns: 2}, "987 654 321"},
		{impl.Sym{Turns: 3}, "741 852 963"},
		{impl.Sym{Turns: 0, Flip: true}, "789 456 123"},
		{impl.Sym{Turns: 1, Flip: true}, "963 852 741"},
		{impl.Sym{Turns: 2, Flip: true}, "321 654 987"},
		{impl.Sym{Turns: 3, Flip: true}, "147 258 369"},
	}
	for _, c := range cases {
		got := strings.Join(impl.FormatPicture(impl.ActPicture(c.g, p)), ";")
		got = strings.ReplaceAll(strings.ReplaceAll(strings.ReplaceAll(got, "00", ""), " ", ""), ";", " ")
		if got != c.want {
			t.Errorf("%v makes it look as %q, want %q", c.g, got, c.want)
		}
	}
}

func TestActPictureByOneAndThenAnother(t *testing.T) {
	for _, size := range allSizes() {
		for _, p := range []impl.Picture{motley(size), zeroPicture(size), withCell(evenly(size, white), 0, amber)} {
			for _, g := range allTurns {
				once := impl.ActPicture(g, p)
				if back := impl.ActPicture(impl.BackSym(g), once); !samePictureBits(back, p) {
					t.Errorf("by %v and back: %v, from %v", g, back, p)
				}
				for _, h := range allTurns {
					twice := impl.ActPicture(h, once)
					if want := impl.ActPicture(impl.ThenSym(g, h), p); !samePictureBits(twice, want) {
						t.Errorf("by %v and then by %v: %v, want %v", g, h, twice, want)
					}
				}
			}
		}
	}
}

func TestActPictureOfInvalid(t *testing.T) {
	for _, g := range noSyms {
		for _, p := range []impl.Picture{motley(1), motley(3), evenly(8, white)} {
			if got := impl.ActPicture(g, p); !isPlainPicture(got) {
				t.Errorf("ActPicture(%v, %v) = %v", g, p, got)
			}
		}
	}
	for _, p := range badPictures() {
		for _, g := range append(wantSyms(impl.MirrorStar), noSyms...) {
			if got := impl.ActPicture(g, p); !isPlainPicture(got) {
				t.Errorf("ActPicture(%v, %v) = %v", g, p, got)
			}
		}
	}
}

func TestSamePicture(t *testing.T) {
	for _, size := range allSizes() {
		p := motley(size)
		if !impl.SamePicture(p, motley(size)) || !impl.SamePicture(zeroPicture(size), evenly(size, impl.Colour{})) {
			t.Error("a picture is not the same as itself, or -0 not the same as 0, size", size)
		}
		if impl.SamePicture(p, motley(size+1)) || impl.SamePicture(motley(size+1), p) {
			t.Error("the same as a greater one, size", size)
		}
		for cell, a := range p.Cells {
			others := []impl.Colour{
				{R: a.R + tiny + 0.001, G: a.G, B: a.B}, {R: a.R, G: a.G / 2, B: a.B}, {R: a.R, G: a.G, B: a.B + 0.001},
			}
			for _, b := range others {
				if q := withCell(p, cell, b); impl.SamePicture(p, q) || impl.SamePicture(q, p) {
					t.Errorf("the same though cell %d differs: %v, %v", cell, p, q)
				}
			}
		}
	}
}

func TestSamePictureOfAnyValues(t *testing.T) {
	nan, inf := float32(math.NaN()), float32(math.Inf(1))
	odd := []impl.Colour{{R: -7, G: inf}, white}
	cases := []struct {
		p, q impl.Picture
		want bool
	}{
		{impl.Picture{}, impl.Picture{}, true},
		{impl.Picture{}, impl.Picture{Cells: []impl.Colour{}}, true},
		{impl.Picture{Size: -3}, impl.Picture{Size: -3}, true},
		{impl.Picture{Size: -3}, impl.Picture{Size: 3}, false},
		{impl.Picture{Size: 99, Cells: odd}, impl.Picture{Size: 99, Cells: slices.Clone(odd)}, true},
		{impl.Picture{Size: 98, Cells: odd}, impl.Picture{Size: 99, Cells: odd}, false},
		{impl.Picture{Size: 2, Cells: odd}, impl.Picture{Size: 2, Cells: odd[:1]}, false},
		{impl.Picture{Size: 2, Cells: odd[:1]}, impl.Picture{Size: 2, Cells: odd}, false},
		{impl.Picture{Size: 1}, impl.Picture{Size: 1, Cells: odd[1:]}, false},
		{impl.Picture{Size: 2, Cells: odd[:1]}, impl.Picture{Size: 2, Cells: odd[1:]}, false},
		{impl.Picture{Size: 1, Cells: []impl.Colour{{}}}, impl.Picture{Size: 1, Cells: []impl.Colour{{R: -7}}}, false},
		{impl.Picture{Size: 4}, impl.Picture{Size: 4, Cells: []impl.Colour{{}}}, false},
		{impl.Picture{Size: 1, Cells: []impl.Colour{{B: nan}}}, impl.Picture{Size: 1, Cells: []impl.Colour{{B: nan}}}, false},
		{impl.Picture{Size: 1, Cells: []impl.Colour{{G: inf}}}, impl.Picture{Size: 1, Cells: []impl.Colour{{G: -inf}}}, false},
	}
	for _, c := range cases {
		if got := impl.SamePicture(c.p, c.q); got != c.want {
			t.Errorf("SamePicture(%v, %v) = %v", c.p, c.q, got)
		}
	}
}

func TestSymsAndMirrorsOfPictures(t *testing.T) {
	for _, p := range goodPictures() {
		want := wantKeeping(p)
		if got := impl.SymsOfPicture(p); !slices.Equal(got, want) {
			t.Errorf("SymsOfPicture(%v) = %v, want %v", p, got, want)
		}
		mirrors := impl.MirrorNone
		for _, kind := range allKinds {
			lacking := func(g impl.Sym) bool { return !isKept(p, g) }
			if !slices.ContainsFunc(wantSyms(kind), lacking) {
				mirrors = kind
			}
		}
		if got := impl.MirrorsOfPicture(p); got != mirrors {
			t.Errorf("MirrorsOfPicture(%v) = %d, want %d", p, got, mirrors)
		}
	}
}

// From size 4 on, there are pictures that no more symmetries keep than those of any group.
func TestSymsAndMirrorsOfEachGroup(t *testing.T) {
	for size := 4; size <= impl.MaxSize; size++ {
		for _, group := range symGroups {
			p := groupPicture(size, group.syms)
			if got := impl.SymsOfPicture(p); !slices.Equal(got, group.syms) {
				t.Errorf("SymsOfPicture(%v) = %v, want %v", p, got, group.syms)
			}
			if got := impl.MirrorsOfPicture(p); got != group.mirrors {
				t.Errorf("MirrorsOfPicture(%v) = %d, want %d", p, got, group.mirrors)
			}
		}
	}
}

func checkKeptByAll(t *testing.T, p impl.Picture) {
	t.Helper()
	if got := impl.SymsOfPicture(p); !slices.Equal(got, wantSyms(impl.MirrorStar)) {
		t.Errorf("SymsOfPicture(%v) = %v", p, got)
	}
	if got := impl.MirrorsOfPicture(p); got != impl.MirrorStar {
		t.Errorf("MirrorsOfPicture(%v) = %d", p, got)
	}
	for _, g := range allTurns {
		if !impl.SamePicture(impl.ActPicture(g, p), p) {
			t.Errorf("%v changes %v", g, p)
		}
	}
}

func TestPicturesThatAllSymmetriesKeep(t *testing.T) {
	for _, a := range goodColours() {
		checkKeptByAll(t, evenly(1, a))
	}
	for _, size := range allSizes() {
		checkKeptByAll(t, evenly(size, amber))
		checkKeptByAll(t, zeroPicture(size))
		checkKeptByAll(t, groupPicture(size, allTurns))
	}
	checkKeptByAll(t, withCell(evenly(3, white), 4, amber))
}

func TestPicturesThatNoSymmetryKeeps(t *testing.T) {
	for size := 2; size <= impl.MaxSize; size++ {
		p := motley(size)
		if got := impl.SymsOfPicture(p); !slices.Equal(got, []impl.Sym{{}}) {
			t.Errorf("SymsOfPicture(%v) = %v", p, got)
		}
		if got := impl.MirrorsOfPicture(p); got != impl.MirrorNone {
			t.Errorf("MirrorsOfPicture(%v) = %d", p, got)
		}
	}
}

func TestSymsAndMirrorsOfInvalid(t *testing.T) {
	for _, p := range append(badPictures(), impl.Picture{}) {
		if got := impl.SymsOfPicture(p); len(got) != 0 {
			t.Errorf("SymsOfPicture(%v) = %v", p, got)
		}
		if got := impl.MirrorsOfPicture(p); got != -1 {
			t.Errorf("MirrorsOfPicture(%v) = %d", p, got)
		}
	}
}

func goodSteps() []float32 {
	return []float32{1, 0.5, 1.0 / 3, 0.1, 2.5, 100.3, math.Nextafter32(256, 0), 256, tiny, 1e-38}
}

func noSteps() []float32 {
	nan, inf := float32(math.NaN()), float32(math.Inf(1))
	return []float32{
		0, minusZero(), -tiny, -1, -256, math.Nextafter32(256, 257), 257, math.MaxFloat32, -math.MaxFloat32, nan, inf, -inf,
	}
}

// lookedAt is the point at which a cell is seen.
func lookedAt(kind int, size int, step float32, cell int) complex64 {
	x, y := 2*(cell%size)+1-size, size-1-2*(cell/size)
	return wantFold(kind, complex(wantProduct(float32(x), step), wantProduct(float32(y), step)))
}

// placeShards have corners on places and on mirrors, and edges that lie on both, with what is folded and what is not.
func placeShards(size int, step float32) []impl.Shard {
	at := func(x int, y int) complex64 {
		return complex(wantProduct(float32(x), step), wantProduct(float32(y), step))
	}
	far := size - 1
	l := []impl.Shard{
		paneOf(at(0, 0), at(far, 0), at(far, far)),
		paneOf(at(1, 1), at(far, far), at(far, 1)),
		paneOf(at(-far, far), at(far, far), at(0, -1)),
		paneOf(at(0, 0), at(far, far), at(0, far)),
		paneOf(at(2, 0), at(far, -far), at(1-far, 2)),
		paneOf(at(1, far), at(far, far), at(-far, far)), // without area, on the upper row
		paneOf(at(3, -1), at(3, 1), at(far, 2)),
		paneOf(at(-1, -1), at(-3, 1), at(-far, -far)),
	}
	for i := range l {
		l[i].Tint.R = float32(i) / 9
		l[i].Clear = float32(i) / 11
	}
	return l
}

// checkTaken checks a picture against what is seen at the fold of each place, and that it has the symmetries of the mirrors.
func checkTaken(t *testing.T, kind int, l []impl.Shard, size int, step float32, light impl.Colour) {
	t.Helper()
	p, ok := impl.TakePicture(kind, l, size, step, light)
	if !ok || !impl.IsPicture(p) || p.Size != size {
		t.Fatalf("TakePicture(%d, %v, %d, %v, %v) = %v, %v", kind, l, size, step, light, p, ok)
	}
	for cell, got := range p.Cells {
		at := lookedAt(kind, size, step, cell)
		if want := wantSeen(l, wantLayers(l, at), light); !sameColourBits(got, want) {
			t.Errorf("cell %d with mirrors %d, size %d, step %v: %v, want %v", cell, kind, size, step, got, want)
		}
	}
	syms := impl.SymsOfPicture(p)
	for _, g := range wantSyms(kind) {
		if !slices.Contains(syms, g) || !samePictureBits(impl.ActPicture(g, p), p) {
			t.Errorf("taken with mirrors %d, size %d, step %v, it lacks %v: %v", kind, size, step, g, p)
		}
	}
	if got := impl.MirrorsOfPicture(p); got < kind {
		t.Errorf("taken with mirrors %d, size %d, step %v, it has %d: %v", kind, size, step, got, p)
	}
	if spread, is := impl.SpreadPicture(kind, p); !is || !samePictureBits(spread, p) {
		t.Errorf("taken with mirrors %d, size %d, step %v, it is changed by spreading: %v", kind, size, step, spread)
	}
}

func TestPicturesTakenBetweenMirrorsHaveTheirSymmetries(t *testing.T) {
	for _, kind := range allKinds {
		for _, size := range allSizes() {
			for i, step := range goodSteps() {
				l := placeShards(size, step)
				checkTaken(t, kind, l, size, step, white)
				checkTaken(t, kind, l[i%len(l):], size, step, impl.Colour{R: 0.7, G: 1, B: minusZero()})
				checkTaken(t, kind, roughShards()[i:i+impl.MaxShards], size, step, amber)
			}
			checkTaken(t, kind, stackOf(impl.MaxShards), size, 0.75, white)
		}
	}
}

func TestPicturesTakenWithoutShardsAreTheLight(t *testing.T) {
	for _, kind := range allKinds {
		for _, size := range allSizes() {
			for i, light := range goodColours() {
				step := goodSteps()[i%len(goodSteps())]
				for _, l := range [][]impl.Shard{nil, {}} {
					got, ok := impl.TakePicture(kind, l, size, step, light)
					if !ok || !samePictureBits(got, evenly(size, light)) {
						t.Errorf("TakePicture(%d, %v, %d, %v, %v) = %v, %v", kind, l, size, step, light, got, ok)
					}
				}
			}
		}
	}
}

// A shard that lies askew shows that mirrors make the symmetries, and no more of them than they have.
func TestPicturesTakenOfOneShard(t *testing.T) {
	red := paneOf(complex(1, 1), complex(3, 1), complex(3, -3))
	red.Tint, red.Clear = impl.Colour{R: 1}, 0
	edge := paneOf(complex(-3, 3), complex(3, 3), complex(3, 3))
	edge.Tint, edge.Clear = impl.Colour{G: 1}, 0
	cases := []struct {
		kind int
		s    impl.Shard
		step float32
		want string
	}{
		{impl.MirrorNone, red, 1, "fff fff fff fff|fff fff f00 f00|fff fff fff f00|fff fff fff f00"},
		{impl.MirrorLine, red, 1, "fff fff fff fff|fff fff f00 f00|fff fff f00 f00|fff fff fff fff"},
		{impl.MirrorBoth, red, 1, "fff fff fff fff|f00 f00 f00 f00|f00 f00 f00 f00|fff fff fff fff"},
		{impl.MirrorStar, red, 1, "fff f00 f00 fff|f00 f00 f00 f00|f00 f00 f00 f00|fff f00 f00 fff"},
		{impl.MirrorNone, red, 0.75, "fff fff fff fff|fff fff fff f00|fff fff fff f00|fff fff fff fff"},
		{impl.MirrorNone, edge, 1, "0f0 0f0 0f0 0f0|fff fff fff fff|fff fff fff fff|fff fff fff fff"},
		{impl.MirrorLine, edge, 1, "0f0 0f0 0f0 0f0|fff fff fff fff|fff fff fff fff|0f0 0f0 0f0 0f0"},
		{impl.MirrorBoth, edge, 1, "0f0 0f0 0f0 0f0|fff fff fff fff|fff fff fff fff|0f0 0f0 0f0 0f0"},
		{impl.MirrorStar, edge, 1, "0f0 fff fff 0f0|fff fff fff fff|fff fff fff fff|0f0 fff fff 0f0"},
		{impl.MirrorStar, edge, 3, "fff 0f0 0f0 fff|0f0 0f0 0f0 0f0|0f0 0f0 0f0 0f0|fff 0f0 0f0 fff"},
	}
	for _, c := range cases {
		p, ok := impl.TakePicture(c.kind, []impl.Shard{c.s}, 4, c.step, white)
		if got := strings.Join(impl.FormatPicture(p), "|"); !ok || got != c.want {
			t.Errorf("taken with mirrors %d, step %v: %q, want %q", c.kind, c.step, got, c.want)
		}
	}
	for _, kind := range allKinds {
		slant := paneOf(complex(0.5, 0.5), complex(2, 0.25), complex(4, 2))
		p, _ := impl.TakePicture(kind, []impl.Shard{slant}, 8, 0.5, white)
		if got := impl.MirrorsOfPicture(p); got != kind || impl.SamePicture(p, evenly(8, white)) {
			t.Errorf("taken with mirrors %d, it has %d: %v", kind, got, impl.FormatPicture(p))
		}
	}
}

func checkNotTaken(t *testing.T, kind int, l []impl.Shard, size int, step float32, light impl.Colour) {
	t.Helper()
	if got, ok := impl.TakePicture(kind, l, size, step, light); ok || !isPlainPicture(got) {
		t.Errorf("TakePicture(%d, %v, %d, %v, %v) = %v, %v", kind, l, size, step, light, got, ok)
	}
}

func TestTakePictureOfInvalid(t *testing.T) {
	for _, l := range [][]impl.Shard{nil, stackOf(2)} {
		for _, kind := range noKinds {
			checkNotTaken(t, kind, l, 3, 1, white)
		}
		for _, kind := range allKinds {
			for _, size := range noSizes {
				checkNotTaken(t, kind, l, size, 1, white)
			}
			for _, step := range noSteps() {
				checkNotTaken(t, kind, l, 1, step, white)
				checkNotTaken(t, kind, l, 4, step, white)
			}
			for _, light := range badColours() {
				checkNotTaken(t, kind, l, 2, 1, light)
			}
		}
	}
	for i, l := range spoiltStacks() {
		checkNotTaken(t, allKinds[i%len(allKinds)], l, 1+i%impl.MaxSize, 1, white)
	}
}

func TestFirstCellsLists(t *testing.T) {
	cases := []struct {
		kind, size int
		want       []int
	}{
		{impl.MirrorNone, 1, []int{0}},
		{impl.MirrorLine, 1, []int{0}},
		{impl.MirrorBoth, 1, []int{0}},
		{impl.MirrorStar, 1, []int{0}},
		{impl.MirrorNone, 2, []int{0, 1, 2, 3}},
		{impl.MirrorLine, 2, []int{0, 1}},
		{impl.MirrorBoth, 2, []int{0}},
		{impl.MirrorStar, 2, []int{0}},
		{impl.MirrorLine, 3, []int{0, 1, 2, 3, 4, 5}},
		{impl.MirrorBoth, 3, []int{0, 1, 3, 4}},
		{impl.MirrorStar, 3, []int{0, 1, 4}},
		{impl.MirrorBoth, 5, []int{0, 1, 2, 5, 6, 7, 10, 11, 12}},
		{impl.MirrorStar, 5, []int{0, 1, 2, 6, 7, 12}},
		{impl.MirrorBoth, 8, []int{0, 1, 2, 3, 8, 9, 10, 11, 16, 17, 18, 19, 24, 25, 26, 27}},
		{impl.MirrorStar, 8, []int{0, 1, 2, 3, 9, 10, 11, 18, 19, 27}},
	}
	for _, c := range cases {
		if got := impl.FirstCells(c.kind, c.size); !slices.Equal(got, c.want) {
			t.Errorf("FirstCells(%d, %d) = %v", c.kind, c.size, got)
		}
	}
}

func TestFirstCellsOfEachKindAndSize(t *testing.T) {
	for _, kind := range allKinds {
		for _, size := range allSizes() {
			var want []int
			for cell := range size * size {
				if wantLeast(size, cell, wantSyms(kind)) == cell {
					want = append(want, cell)
				}
			}
			if got := impl.FirstCells(kind, size); !slices.Equal(got, want) {
				t.Errorf("FirstCells(%d, %d) = %v, want %v", kind, size, got, want)
			}
			half := (size + 1) / 2
			count := []int{size * size, size * half, half * half, half * (half + 1) / 2}[kind]
			if got := impl.FirstCells(kind, size); len(got) != count {
				t.Errorf("FirstCells(%d, %d) has %d cells, want %d", kind, size, len(got), count)
			}
		}
	}
}

func TestFirstCellsOutOfRange(t *testing.T) {
	for _, kind := range noKinds {
		for _, size := range append(allSizes(), noSizes...) {
			if got := impl.FirstCells(kind, size); len(got) != 0 {
				t.Errorf("FirstCells(%d, %d) = %v", kind, size, got)
			}
		}
	}
	for _, kind := range allKinds {
		for _, size := range noSizes {
			if got := impl.FirstCells(kind, size); len(got) != 0 {
				t.Errorf("FirstCells(%d, %d) = %v", kind, size, got)
			}
		}
	}
}

func TestSpreadPictureOnceAndAgain(t *testing.T) {
	for _, kind := range allKinds {
		for _, p := range goodPictures() {
			spread, ok := impl.SpreadPicture(kind, p)
			if !ok || spread.Size != p.Size || len(spread.Cells) != len(p.Cells) {
				t.Fatalf("SpreadPicture(%d, %v) = %v, %v", kind, p, spread, ok)
			}
			for cell, got := range spread.Cells {
				if want := p.Cells[wantLeast(p.Size, cell, wantSyms(kind))]; !sameColourBits(got, want) {
					t.Errorf("SpreadPicture(%d, %v) has %v in cell %d, want %v", kind, p, got, cell, want)
				}
			}
			if again, is := impl.SpreadPicture(kind, spread); !is || !samePictureBits(again, spread) {
				t.Errorf("SpreadPicture(%d) again makes %v of %v", kind, again, spread)
			}
			if got := impl.MirrorsOfPicture(spread); got < kind {
				t.Errorf("SpreadPicture(%d, %v) has the mirrors %d", kind, p, got)
			}
		}
	}
}

func TestSpreadPictureLooksAsSpread(t *testing.T) {
	p := impl.Picture{Size: 3}
	for _, digits := range strings.Fields("111 222 333 444 555 666 777 888 999") {
		a, _ := impl.ParseColour(digits)
		p.Cells = append(p.Cells, a)
	}
	wants := []string{
		"111 222 333|444 555 666|777 888 999",
		"111 222 333|444 555 666|111 222 333",
		"111 222 111|444 555 444|111 222 111",
		"111 222 111|222 555 222|111 222 111",
	}
	for _, kind := range allKinds {
		spread, ok := impl.SpreadPicture(kind, p)
		if got := strings.Join(impl.FormatPicture(spread), "|"); !ok || got != wants[kind] {
			t.Errorf("spread by mirrors %d: %q, want %q", kind, got, wants[kind])
		}
	}
}

func TestSpreadPictureOfInvalid(t *testing.T) {
	for _, kind := range noKinds {
		for _, p := range []impl.Picture{motley(1), motley(4), {}} {
			if got, ok := impl.SpreadPicture(kind, p); ok || !isPlainPicture(got) {
				t.Errorf("SpreadPicture(%d, %v) = %v, %v", kind, p, got, ok)
			}
		}
	}
	for _, kind := range append(noKinds, allKinds...) {
		for _, p := range badPictures() {
			if got, ok := impl.SpreadPicture(kind, p); ok || !isPlainPicture(got) {
				t.Errorf("SpreadPicture(%d, %v) = %v, %v", kind, p, got, ok)
			}
		}
	}
}

// checkDiffer checks DifferOf both ways round.
func checkDiffer(t *testing.T, p impl.Picture, q impl.Picture, count int, far float32) {
	t.Helper()
	for _, pair := range [][2]impl.Picture{{p, q}, {q, p}} {
		if n, got := impl.DifferOf(pair[0], pair[1]); n != count || !sameFloat(got, far) {
			t.Errorf("DifferOf(%v, %v) = %d, %v, want %d, %v", pair[0], pair[1], n, got, count, far)
		}
	}
}

func TestDifferOfCountsCells(t *testing.T) {
	for _, size := range allSizes() {
		for _, p := range []impl.Picture{motley(size), evenly(size, amber), zeroPicture(size)} {
			checkDiffer(t, p, p, 0, 0)
		}
		checkDiffer(t, zeroPicture(size), evenly(size, impl.Colour{}), 0, 0)
		plain := evenly(size, impl.Colour{R: 0.5, G: 0.25, B: 0.75})
		for cell := range size * size {
			checkDiffer(t, plain, withCell(plain, cell, impl.Colour{R: 0.5, G: 0.25, B: 0.5}), 1, 0.25)
			checkDiffer(t, plain, withCell(plain, cell, impl.Colour{R: 0.375, G: 1, B: 0.5}), 1, 0.75)
		}
		checkDiffer(t, plain, evenly(size, impl.Colour{R: 0.375, G: 0.25, B: 0.75}), size*size, 0.125)
		checkDiffer(t, evenly(size, white), evenly(size, impl.Colour{}), size*size, 1)
		checkDiffer(t, evenly(size, impl.Colour{}), evenly(size, impl.Colour{B: tiny}), size*size, tiny)
	}
}

func TestDifferOfTakesTheGreatestDifference(t *testing.T) {
	p := evenly(3, impl.Colour{})
	q := withCell(withCell(withCell(p, 1, impl.Colour{R: 0.25}), 4, impl.Colour{G: 0.875}), 8, impl.Colour{B: 0.5})
	checkDiffer(t, p, q, 3, 0.875)
	checkDiffer(t, p, withCell(q, 0, white), 4, 1)
	checkDiffer(t, p, withCell(q, 4, impl.Colour{R: minusZero()}), 2, 0.5)
	for _, size := range allSizes() {
		a, b := motley(size), impl.ActPicture(impl.Sym{Turns: 1}, motley(size))
		count, far := 0, float32(0)
		for cell := range a.Cells {
			if a.Cells[cell] != b.Cells[cell] {
				count++
				far = max(far, impl.FarColours(a.Cells[cell], b.Cells[cell]))
			}
		}
		checkDiffer(t, a, b, count, far)
	}
}

func TestDifferOfInvalid(t *testing.T) {
	for _, p := range badPictures() {
		checkDiffer(t, p, p, -1, 0)
		checkDiffer(t, p, motley(2), -1, 0)
		if p.Size >= 1 && p.Size <= impl.MaxSize {
			checkDiffer(t, p, motley(p.Size), -1, 0)
		}
	}
	for _, size := range allSizes() {
		for _, other := range allSizes() {
			if other != size {
				checkDiffer(t, evenly(size, white), evenly(other, white), -1, 0)
			}
		}
	}
	checkDiffer(t, impl.Picture{}, impl.Picture{}, -1, 0)
}

func TestFormatPicture(t *testing.T) {
	for _, p := range goodPictures() {
		lines := impl.FormatPicture(p)
		if len(lines) != p.Size {
			t.Fatalf("FormatPicture(%v) has %d rows", p, len(lines))
		}
		for row, line := range lines {
			if len(line) != 4*p.Size-1 {
				t.Fatalf("FormatPicture(%v) has the row %q", p, line)
			}
			for column := range p.Size {
				want := impl.FormatColour(p.Cells[row*p.Size+column])
				if got := line[4*column : 4*column+3]; got != want {
					t.Errorf("FormatPicture(%v) has %q in row %d, column %d", p, got, row, column)
				}
				if column > 0 && line[4*column-1] != 32 {
					t.Errorf("FormatPicture(%v) has no blanks between: %q", p, line)
				}
			}
		}
	}
	for _, p := range append(badPictures(), impl.Picture{}) {
		if got := impl.FormatPicture(p); len(got) != 0 {
			t.Errorf("FormatPicture(%v) = %q", p, got)
		}
	}
}

func TestFormatPictureLists(t *testing.T) {
	cases := []struct {
		p    impl.Picture
		want []string
	}{
		{evenly(1, white), []string{"fff"}},
		{evenly(1, impl.Colour{R: minusZero()}), []string{"000"}},
		{impl.Picture{Size: 2, Cells: []impl.Colour{{R: 1}, {G: 1}, {B: 1}, {R: 0.5, B: 0.25}}}, []string{"f00 0f0", "00f 804"}},
	}
	for _, c := range cases {
		if got := impl.FormatPicture(c.p); !slices.Equal(got, c.want) {
			t.Errorf("FormatPicture(%v) = %q", c.p, got)
		}
	}
}

// roomy has the cells of a picture, and colours behind them that nobody may change.
func roomy(p impl.Picture) impl.Picture {
	count := len(p.Cells)
	cells := append(append([]impl.Colour{}, p.Cells...), slices.Repeat([]impl.Colour{amber}, 2*count+8)...)
	return impl.Picture{Size: p.Size, Cells: cells[:count]}
}

func TestPicturesAreLeftAsTheyAre(t *testing.T) {
	for _, size := range allSizes() {
		p, q := roomy(motley(size)), roomy(zeroPicture(size))
		impl.IsPicture(p)
		impl.SamePicture(p, q)
		impl.SymsOfPicture(p)
		impl.MirrorsOfPicture(p)
		impl.DifferOf(p, q)
		impl.FormatPicture(p)
		for _, g := range allTurns {
			impl.ActPicture(g, p)
		}
		for _, kind := range allKinds {
			impl.SpreadPicture(kind, p)
		}
		if !samePictureBits(p, motley(size)) || !samePictureBits(q, zeroPicture(size)) {
			t.Error("a picture is changed:", p, q)
		}
		for _, cells := range [][]impl.Colour{p.Cells, q.Cells} {
			for _, a := range cells[len(cells):cap(cells)] {
				if a != (impl.Colour{}) && a != amber {
					t.Error("the spare capacity is written to:", a)
				}
			}
		}
	}
	l := append(make([]impl.Shard, 0, 2*impl.MaxShards), stackOf(impl.MaxShards)...)
	impl.TakePicture(impl.MirrorStar, l, impl.MaxSize, 1, white)
	if !slices.Equal(l, stackOf(impl.MaxShards)) || slices.ContainsFunc(l[len(l):cap(l)], func(s impl.Shard) bool { return !isPlainShard(s) }) {
		t.Error("the shards are changed:", l[:cap(l)])
	}
}

func TestPictureResultsAreFresh(t *testing.T) {
	p := motley(3)
	results := []impl.Picture{}
	for _, g := range allTurns {
		results = append(results, impl.ActPicture(g, p))
	}
	for _, kind := range allKinds {
		spread, _ := impl.SpreadPicture(kind, p)
		taken, _ := impl.TakePicture(kind, nil, 3, 1, white)
		results = append(results, spread, taken)
		impl.FirstCells(kind, 3)[0] = 99
		if got := impl.FirstCells(kind, 3); got[0] != 0 {
			t.Error("FirstCells keeps what a caller wrote:", got)
		}
	}
	for _, result := range results {
		for cell := range result.Cells {
			result.Cells[cell] = impl.Colour{R: 0.123}
		}
	}
	if !samePictureBits(p, motley(3)) {
		t.Error("a result shares memory with the picture it is made of:", p)
	}
	impl.SymsOfPicture(p)[0].Turns = 3
	impl.FormatPicture(p)[0] = "?"
	if impl.SymsOfPicture(p)[0] != (impl.Sym{}) || impl.FormatPicture(p)[0] == "?" {
		t.Error("a result keeps what a caller wrote")
	}
}
