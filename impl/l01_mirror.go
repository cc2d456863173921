package impl

import (
	"cmp"
	"math"
	"slices"
	"strconv"
)

const (
	MaxReach   = 4096
	MaxWord    = 24
	MirrorNone = 0
	MirrorLine = 1
	MirrorBoth = 2
	MirrorStar = 3
)

const (
	turnCount = 4
	symCount  = 2 * turnCount
)

type Sym struct {
	Turns int
	Flip  bool
}

// unitPair is what a symmetry makes of 1 and of i: the rest of what it does
// follows from these two.
type unitPair struct {
	ofOne complex64
	ofI   complex64
}

func isSingle(x float32) bool {
	return x >= -math.MaxFloat32 && x <= math.MaxFloat32
}

func settle(x float32) float32 {
	if x != 0 && isSingle(x) {
		return x
	}
	return 0
}

// The conversions in sumOf, differenceOf and productOf keep the compiler from
// fusing a product and a sum into one operation that rounds only once.
func sumOf(a float32, b float32) float32 {
	return settle(float32(a + b))
}

func differenceOf(a float32, b float32) float32 {
	return settle(float32(a - b))
}

func productOf(a float32, b float32) float32 {
	return settle(float32(a * b))
}

func joinParts(a complex64, b complex64, join func(float32, float32) float32) complex64 {
	return complex(join(real(a), real(b)), join(imag(a), imag(b)))
}

func inReach(x float32) bool {
	return x >= -MaxReach && x <= MaxReach
}

func isKind(kind int) bool {
	return kind >= MirrorNone && kind <= MirrorStar
}

func symAt(place int) Sym {
	return Sym{Turns: place % turnCount, Flip: place >= turnCount}
}

func placeOfSym(g Sym) int {
	if g.Flip {
		return turnCount + g.Turns
	}
	return g.Turns
}

func unitPairs() [symCount]unitPair {
	var pairs [symCount]unitPair
	turned := complex64(1)
	for turns := range turnCount {
		plain, flipped := Sym{Turns: turns}, Sym{Turns: turns, Flip: true}
		pairs[placeOfSym(plain)] = unitPair{ofOne: turned, ofI: turned * 1i}
		pairs[placeOfSym(flipped)] = unitPair{ofOne: turned, ofI: turned * -1i}
		turned *= 1i
	}
	return pairs
}

func mirrorsOf(kind int) []Sym {
	realAxis := Sym{Turns: 0, Flip: true}
	switch kind {
	case MirrorLine:
		return []Sym{realAxis}
	case MirrorBoth:
		return []Sym{realAxis, {Turns: 2, Flip: true}}
	case MirrorStar:
		return []Sym{realAxis, {Turns: 1, Flip: true}}
	}
	return []Sym{}
}

func isSymOf(kind int, g Sym) bool {
	if !IsSym(g) {
		return false
	}
	switch kind {
	case MirrorNone:
		return g == Sym{}
	case MirrorLine:
		return g.Turns == 0
	case MirrorBoth:
		return g.Turns%2 == 0
	case MirrorStar:
		return true
	}
	return false
}

func comparePoints(a complex64, b complex64) int {
	return cmp.Or(cmp.Compare(real(a), real(b)), cmp.Compare(imag(a), imag(b)))
}

func IsPoint(z complex64) bool {
	return inReach(real(z)) && inReach(imag(z))
}

func IsSym(g Sym) bool {
	return g.Turns >= 0 && g.Turns < turnCount
}

func ActSym(g Sym, z complex64) complex64 {
	if !IsSym(g) || !IsPoint(z) {
		return 0
	}
	// A product of units and z as complex numbers could leave a part -0.
	pair := unitPairs()[placeOfSym(g)]
	x, y := real(z), imag(z)
	return complex(
		sumOf(productOf(x, real(pair.ofOne)), productOf(y, real(pair.ofI))),
		sumOf(productOf(x, imag(pair.ofOne)), productOf(y, imag(pair.ofI))),
	)
}

func ThenSym(g Sym, h Sym) Sym {
	if !IsSym(g) || !IsSym(h) {
		return Sym{}
	}
	turns := g.Turns
	if h.Flip {
		// A flip after turns does the same as it does before as many turns back.
		turns = turnCount - turns
	}
	return Sym{Turns: (turns + h.Turns) % turnCount, Flip: g.Flip != h.Flip}
}

func BackSym(g Sym) Sym {
	if !IsSym(g) {
		return Sym{}
	}
	if g.Flip {
		// With Flip it is a mirror, which takes itself back.
		return g
	}
	return Sym{Turns: (turnCount - g.Turns) % turnCount}
}

func SymsOf(kind int) []Sym {
	syms := []Sym{}
	for place := range symCount {
		if g := symAt(place); isSymOf(kind, g) {
			syms = append(syms, g)
		}
	}
	return syms
}

func InWedge(kind int, z complex64) bool {
	if !IsPoint(z) {
		return false
	}
	x, y := real(z), imag(z)
	switch kind {
	case MirrorNone:
		return true
	case MirrorLine:
		return y >= 0
	case MirrorBoth:
		return x >= 0 && y >= 0
	case MirrorStar:
		return 0 <= y && y <= x
	}
	return false
}

func FoldPoint(kind int, z complex64) (complex64, Sym, bool) {
	if !IsPoint(z) {
		return 0, Sym{}, false
	}
	for _, g := range SymsOf(kind) {
		if image := ActSym(g, z); InWedge(kind, image) {
			return image, g, true
		}
	}
	return 0, Sym{}, false
}

func OrbitOf(kind int, z complex64) []complex64 {
	orbit := []complex64{}
	if !IsPoint(z) {
		return orbit
	}
	for _, g := range SymsOf(kind) {
		orbit = append(orbit, ActSym(g, z))
	}
	slices.SortFunc(orbit, comparePoints)
	return slices.Compact(orbit)
}

func KeepersOf(kind int, z complex64) []Sym {
	keepers := []Sym{}
	if !IsPoint(z) {
		return keepers
	}
	for _, g := range SymsOf(kind) {
		if ActSym(g, z) == z {
			keepers = append(keepers, g)
		}
	}
	return keepers
}

func SymOfWord(kind int, word []int) (Sym, bool) {
	if !isKind(kind) || len(word) > MaxWord {
		return Sym{}, false
	}
	mirrors := mirrorsOf(kind)
	g := Sym{}
	for _, letter := range word {
		if letter < 0 || letter >= len(mirrors) {
			return Sym{}, false
		}
		g = ThenSym(g, mirrors[letter])
	}
	return g, true
}

func WordOfSym(kind int, g Sym) ([]int, bool) {
	if !isSymOf(kind, g) {
		return []int{}, false
	}
	letters := len(mirrorsOf(kind))
	// Words are queued shorter ones first, and those of one length in
	// lexicographic order, so the first one that acts as g is the one wanted.
	queue := [][]int{{}}
	for at := 0; at < len(queue); at++ {
		word := queue[at]
		if h, ok := SymOfWord(kind, word); ok && h == g {
			return word, true
		}
		for letter := range letters {
			queue = append(queue, append(slices.Clone(word), letter))
		}
	}
	return []int{}, false
}

func FormatSym(g Sym) string {
	if !IsSym(g) {
		return ""
	}
	text := strconv.Itoa(g.Turns)
	if g.Flip {
		text += "f"
	}
	return text
}

func ParseSym(s string) (Sym, bool) {
	for place := range symCount {
		if g := symAt(place); FormatSym(g) == s {
			return g, true
		}
	}
	return Sym{}, false
}
