package tests

import (
	"math"
	"math/big"
	"strings"
	"testing"

	"loop.example/g03020/impl"
)

const (
	belowOne = 1 - 1.0/(1<<24) // the greatest float32 below 1
	justMore = 1 + 1.0/(1<<23) // the least float32 above 1
)

// shares are singles from 0 to 1, as parts of colours and shares of a mixture are:
// the ends and their neighbours, both zeros, and thirds and tenths, which are rounded.
func shares() []float32 {
	return []float32{
		0, minusZero(), tiny, 1e-38, 1.0 / (1 << 25), 1.0 / (1 << 24), 0.1, 0.2, 0.25, 1.0 / 3,
		0.4, 0.5, 0.6, 2.0 / 3, 0.7, 0.9, 15.0 / 16, belowOne, 1,
	}
}

func noShares() []float32 {
	nan, inf := float32(math.NaN()), float32(math.Inf(1))
	return []float32{-tiny, -0.5, -1, justMore, 1.5, 16, math.MaxFloat32, -math.MaxFloat32, nan, inf, -inf}
}

// goodColours has every share in every place, and next to many others.
func goodColours() []impl.Colour {
	parts := shares()
	var colours []impl.Colour
	for i := range parts {
		for _, by := range []int{0, 1, 7} {
			j, k := (i+by)%len(parts), (i+by*by*2)%len(parts)
			colours = append(colours, impl.Colour{R: parts[i], G: parts[j], B: parts[k]})
		}
	}
	return colours
}

func badColours() []impl.Colour {
	var colours []impl.Colour
	for _, bad := range noShares() {
		colours = append(colours,
			impl.Colour{R: bad}, impl.Colour{G: bad}, impl.Colour{B: bad},
			impl.Colour{R: bad, G: 0.5, B: 1}, impl.Colour{R: 1, G: bad, B: 0.5}, impl.Colour{R: 0.5, G: 1, B: bad},
			impl.Colour{R: bad, G: bad, B: bad})
	}
	return colours
}

// colourPairs pairs each good colour with others, and with itself.
func colourPairs() [][2]impl.Colour {
	colours := goodColours()
	var pairs [][2]impl.Colour
	for i, a := range colours {
		for step := range 12 {
			pairs = append(pairs, [2]impl.Colour{a, colours[(i+step*step)%len(colours)]})
		}
	}
	return pairs
}

// badPairs pairs each bad colour with good ones, and with itself, in both orders.
func badPairs() [][2]impl.Colour {
	var pairs [][2]impl.Colour
	for _, bad := range badColours() {
		for _, other := range []impl.Colour{{}, {R: 1, G: 1, B: 1}, {R: 0.25, G: 0.5, B: 0.75}, bad} {
			pairs = append(pairs, [2]impl.Colour{bad, other}, [2]impl.Colour{other, bad})
		}
	}
	return pairs
}

func sameFloat(a float32, b float32) bool {
	return math.Float32bits(a) == math.Float32bits(b)
}

func sameColourBits(a impl.Colour, b impl.Colour) bool {
	return sameFloat(a.R, b.R) && sameFloat(a.G, b.G) && sameFloat(a.B, b.B)
}

func isPlainBlack(a impl.Colour) bool {
	return sameColourBits(a, impl.Colour{})
}

// plain makes +0 of -0, and leaves all else.
func plain(x float32) float32 {
	if x == 0 {
		return 0
	}
	return x
}

func plainColour(a impl.Colour) impl.Colour {
	return impl.Colour{R: plain(a.R), G: plain(a.G), B: plain(a.B)}
}

// exact is x with room for sums and products of singles that need no rounding.
func exact(x float32) *big.Float {
	return big.NewFloat(float64(x)).SetPrec(600)
}

func rounded(x *big.Float) float32 {
	single, _ := x.Float32()
	return plain(single)
}

func wantSum(a float32, b float32) float32 {
	return rounded(new(big.Float).SetPrec(600).Add(exact(a), exact(b)))
}

func wantDifference(a float32, b float32) float32 {
	return rounded(new(big.Float).SetPrec(600).Sub(exact(a), exact(b)))
}

func wantProduct(a float32, b float32) float32 {
	return rounded(new(big.Float).SetPrec(600).Mul(exact(a), exact(b)))
}

func wantMixed(a float32, b float32, k float32) float32 {
	sum := wantSum(wantProduct(a, wantDifference(1, k)), wantProduct(b, k))
	if sum > 1 {
		return 1
	}
	return sum
}

func wantScreened(a float32, b float32) float32 {
	return wantDifference(1, wantProduct(wantDifference(1, a), wantDifference(1, b)))
}

func TestIsColour(t *testing.T) {
	for _, a := range goodColours() {
		if !impl.IsColour(a) {
			t.Error("a colour is not taken as one:", a)
		}
	}
	for _, a := range badColours() {
		if impl.IsColour(a) {
			t.Error("taken as a colour:", a)
		}
	}
	if !impl.IsColour(impl.Colour{}) || !impl.IsColour(impl.Colour{R: 1, G: 1, B: 1}) {
		t.Error("black or white is not taken as a colour")
	}
}

func TestMixColoursIsExact(t *testing.T) {
	for _, pair := range colourPairs() {
		a, b := pair[0], pair[1]
		for _, k := range shares() {
			want := impl.Colour{R: wantMixed(a.R, b.R, k), G: wantMixed(a.G, b.G, k), B: wantMixed(a.B, b.B, k)}
			if got := impl.MixColours(a, b, k); !sameColourBits(got, want) {
				t.Errorf("MixColours(%v, %v, %v) = %v, want %v", a, b, k, got, want)
			}
		}
	}
}

// In each of these, rounding less often than after each step gives something else.
func TestMixColoursRoundsEachStep(t *testing.T) {
	cases := []struct{ a, b, k, want float32 }{
		{0.7, 0.7, 0.4, 0.70000005},
		{0.9, 0.3, 0.1, 0.8399999},
		{0.4, 0.7, 0.2, 0.46000004},
		{0.9, 0.7, 0.4, 0.82000005},
		{1.0 / 3, 1.0 / 3, 0.4, 0.33333337},
		{2.0 / 3, 2.0 / 3, 0.4, 0.66666675},
	}
	for _, c := range cases {
		a := impl.Colour{R: c.a, G: c.a, B: c.a}
		b := impl.Colour{R: c.b, G: c.b, B: c.b}
		if got := impl.MixColours(a, b, c.k); got != (impl.Colour{R: c.want, G: c.want, B: c.want}) {
			t.Errorf("MixColours(%v, %v, %v) = %v, want parts of %v", a, b, c.k, got, c.want)
		}
	}
}

func TestMixColoursWithSharesAtTheEnds(t *testing.T) {
	for _, pair := range colourPairs() {
		a, b := pair[0], pair[1]
		for _, k := range []float32{0, minusZero()} {
			if got := impl.MixColours(a, b, k); !sameColourBits(got, plainColour(a)) {
				t.Errorf("MixColours(%v, %v, %v) = %v", a, b, k, got)
			}
		}
		if got := impl.MixColours(a, b, 1); !sameColourBits(got, plainColour(b)) {
			t.Errorf("MixColours(%v, %v, 1) = %v", a, b, got)
		}
	}
}

func TestMixColoursTellsPartsAndSharesApart(t *testing.T) {
	a, b := impl.Colour{R: 1, G: 0.5, B: 0}, impl.Colour{R: 0, G: 0.25, B: 1}
	if got := impl.MixColours(a, b, 0.25); got != (impl.Colour{R: 0.75, G: 0.4375, B: 0.25}) {
		t.Error("a quarter of the second one:", got)
	}
	if got := impl.MixColours(b, a, 0.25); got != (impl.Colour{R: 0.25, G: 0.3125, B: 0.75}) {
		t.Error("the other way round:", got)
	}
}

func TestMixColoursIsKeptInBounds(t *testing.T) {
	white := impl.Colour{R: 1, G: 1, B: 1}
	for i := range 1 << 12 {
		k := float32(i) / (1<<12 - 1)
		for _, share := range []float32{k, k / 3, k * tiny, k / (1 << 24), 1 - k/(1<<23)} {
			if got := impl.MixColours(white, white, share); got != white {
				t.Errorf("white mixed with white by %v: %v", share, got)
			}
			almost := impl.Colour{R: 1, G: belowOne, B: 0.9}
			want := impl.Colour{R: 1, G: wantMixed(belowOne, 1, share), B: wantMixed(0.9, 1, share)}
			if got := impl.MixColours(almost, white, share); got != want || !impl.IsColour(got) {
				t.Errorf("almost white mixed with white by %v: %v, want %v", share, got, want)
			}
		}
	}
}

func TestMixColoursOfInvalid(t *testing.T) {
	for _, pair := range badPairs() {
		for _, k := range shares() {
			if got := impl.MixColours(pair[0], pair[1], k); !isPlainBlack(got) {
				t.Errorf("MixColours(%v, %v, %v) = %v", pair[0], pair[1], k, got)
			}
		}
	}
	for _, k := range noShares() {
		for _, pair := range colourPairs() {
			if got := impl.MixColours(pair[0], pair[1], k); !isPlainBlack(got) {
				t.Errorf("MixColours(%v, %v, %v) = %v", pair[0], pair[1], k, got)
			}
		}
	}
}

func TestFilterColourIsExact(t *testing.T) {
	for _, pair := range colourPairs() {
		a, b := pair[0], pair[1]
		want := impl.Colour{R: wantProduct(a.R, b.R), G: wantProduct(a.G, b.G), B: wantProduct(a.B, b.B)}
		if got := impl.FilterColour(a, b); !sameColourBits(got, want) {
			t.Errorf("FilterColour(%v, %v) = %v, want %v", a, b, got, want)
		}
	}
}

func TestFilterColourNextToZero(t *testing.T) {
	a := impl.Colour{R: tiny, G: tiny, B: 3 * tiny}
	b := impl.Colour{R: 0.5, G: 0.75, B: 0.5}
	if got := impl.FilterColour(a, b); !sameColourBits(got, impl.Colour{R: 0, G: tiny, B: 2 * tiny}) {
		t.Error("the smallest parts, filtered:", got)
	}
	zero := minusZero()
	if got := impl.FilterColour(impl.Colour{R: zero, G: zero, B: 1}, impl.Colour{R: 1, G: zero, B: zero}); !isPlainBlack(got) {
		t.Error("-0, filtered:", got)
	}
}

func TestFilterColourDoesNotBrighten(t *testing.T) {
	for _, pair := range colourPairs() {
		a, b := pair[0], pair[1]
		got := impl.FilterColour(a, b)
		if !impl.IsColour(got) || got.R > min(a.R, b.R) || got.G > min(a.G, b.G) || got.B > min(a.B, b.B) {
			t.Errorf("FilterColour(%v, %v) = %v", a, b, got)
		}
		if bright := impl.BrightOf(got); bright > impl.BrightOf(a) || bright > impl.BrightOf(b) {
			t.Errorf("FilterColour(%v, %v) is brighter: %v", a, b, bright)
		}
		if other := impl.FilterColour(b, a); !sameColourBits(got, other) {
			t.Errorf("FilterColour of %v and %v in both orders: %v and %v", a, b, got, other)
		}
	}
}

func TestFilterColourWithBlackAndWhite(t *testing.T) {
	white := impl.Colour{R: 1, G: 1, B: 1}
	for _, a := range goodColours() {
		if got := impl.FilterColour(a, white); !sameColourBits(got, plainColour(a)) {
			t.Errorf("FilterColour(%v, white) = %v", a, got)
		}
		if got := impl.FilterColour(a, impl.Colour{}); !isPlainBlack(got) {
			t.Errorf("FilterColour(%v, black) = %v", a, got)
		}
	}
}

func TestInverseColour(t *testing.T) {
	for _, a := range goodColours() {
		want := impl.Colour{R: wantDifference(1, a.R), G: wantDifference(1, a.G), B: wantDifference(1, a.B)}
		if got := impl.InverseColour(a); !sameColourBits(got, want) || !impl.IsColour(got) {
			t.Errorf("InverseColour(%v) = %v, want %v", a, got, want)
		}
	}
	cases := []struct{ a, want impl.Colour }{
		{impl.Colour{}, impl.Colour{R: 1, G: 1, B: 1}},
		{impl.Colour{R: 1, G: 1, B: 1}, impl.Colour{}},
		{impl.Colour{R: minusZero(), G: tiny, B: belowOne}, impl.Colour{R: 1, G: 1, B: 1.0 / (1 << 24)}},
		{impl.Colour{R: 0.25, G: 0.5, B: 1}, impl.Colour{R: 0.75, G: 0.5, B: 0}},
	}
	for _, c := range cases {
		if got := impl.InverseColour(c.a); !sameColourBits(got, c.want) {
			t.Errorf("InverseColour(%v) = %v, want %v", c.a, got, c.want)
		}
	}
}

func TestScreenColours(t *testing.T) {
	for _, pair := range colourPairs() {
		a, b := pair[0], pair[1]
		want := impl.Colour{R: wantScreened(a.R, b.R), G: wantScreened(a.G, b.G), B: wantScreened(a.B, b.B)}
		got := impl.ScreenColours(a, b)
		if !sameColourBits(got, want) || !impl.IsColour(got) {
			t.Errorf("ScreenColours(%v, %v) = %v, want %v", a, b, got, want)
		}
		if other := impl.ScreenColours(b, a); !sameColourBits(got, other) {
			t.Errorf("ScreenColours of %v and %v in both orders: %v and %v", a, b, got, other)
		}
	}
	got := impl.ScreenColours(impl.Colour{R: 0.5, G: 0, B: 1}, impl.Colour{R: 0.5, G: 0.25, B: 0.5})
	if got != (impl.Colour{R: 0.75, G: 0.25, B: 1}) {
		t.Error("a screen of halves:", got)
	}
}

func TestFilterInverseAndScreenOfInvalid(t *testing.T) {
	for _, pair := range badPairs() {
		if got := impl.FilterColour(pair[0], pair[1]); !isPlainBlack(got) {
			t.Errorf("FilterColour(%v, %v) = %v", pair[0], pair[1], got)
		}
		if got := impl.ScreenColours(pair[0], pair[1]); !isPlainBlack(got) {
			t.Errorf("ScreenColours(%v, %v) = %v", pair[0], pair[1], got)
		}
	}
	for _, a := range badColours() {
		if got := impl.InverseColour(a); !isPlainBlack(got) {
			t.Errorf("InverseColour(%v) = %v", a, got)
		}
	}
}

func TestBrightOf(t *testing.T) {
	for _, a := range goodColours() {
		got := impl.BrightOf(a)
		if got < a.R || got < a.G || got < a.B || got != a.R && got != a.G && got != a.B {
			t.Errorf("BrightOf(%v) = %v", a, got)
		}
	}
	zero := minusZero()
	cases := []struct {
		a    impl.Colour
		want float32
	}{
		{impl.Colour{}, 0},
		{impl.Colour{R: 1, G: belowOne, B: 0.5}, 1},
		{impl.Colour{R: 0.2, G: 0.3, B: 0.1}, 0.3},
		{impl.Colour{R: 0, G: zero, B: tiny}, tiny},
		{impl.Colour{R: zero, G: zero, B: zero}, zero}, // a part is copied, and so is -0
		{impl.Colour{R: zero, G: 0, B: zero}, zero},    // of equal parts, the first one
		{impl.Colour{R: 0, G: zero, B: zero}, 0},
	}
	for _, c := range cases {
		if got := impl.BrightOf(c.a); !sameFloat(got, c.want) {
			t.Errorf("BrightOf(%v) = %v, want %v", c.a, got, c.want)
		}
	}
	for _, a := range badColours() {
		if got := impl.BrightOf(a); !sameFloat(got, 0) {
			t.Errorf("BrightOf(%v) = %v", a, got)
		}
	}
}

func TestFarColoursIsExact(t *testing.T) {
	for _, pair := range colourPairs() {
		a, b := pair[0], pair[1]
		want := max(
			wantDifference(max(a.R, b.R), min(a.R, b.R)),
			wantDifference(max(a.G, b.G), min(a.G, b.G)),
			wantDifference(max(a.B, b.B), min(a.B, b.B)))
		got := impl.FarColours(a, b)
		if !sameFloat(got, want) {
			t.Errorf("FarColours(%v, %v) = %v, want %v", a, b, got, want)
		}
		if other := impl.FarColours(b, a); !sameFloat(got, other) {
			t.Errorf("FarColours of %v and %v in both orders: %v and %v", a, b, got, other)
		}
	}
}

func TestFarColoursInEachPart(t *testing.T) {
	a := impl.Colour{R: 0.25, G: 0.5, B: 0.75}
	cases := []struct {
		b    impl.Colour
		want float32
	}{
		{a, 0},
		{impl.Colour{R: 1, G: 0.5, B: 0.75}, 0.75},
		{impl.Colour{R: 0.125, G: 1, B: 0.75}, 0.5},
		{impl.Colour{R: 0.5, G: 0.25, B: 0}, 0.75},
		{impl.Colour{R: 0.25, G: 0.5, B: math.Nextafter32(0.75, 1)}, 1.0 / (1 << 24)},
	}
	for _, c := range cases {
		if got := impl.FarColours(a, c.b); !sameFloat(got, c.want) {
			t.Errorf("FarColours(%v, %v) = %v, want %v", a, c.b, got, c.want)
		}
	}
	zero := minusZero()
	if got := impl.FarColours(impl.Colour{R: zero, B: zero}, impl.Colour{G: zero, B: zero}); !sameFloat(got, 0) {
		t.Error("FarColours of both zeros:", got)
	}
}

func TestFarColoursOfInvalid(t *testing.T) {
	for _, pair := range badPairs() {
		if got := impl.FarColours(pair[0], pair[1]); !sameFloat(got, 0) {
			t.Errorf("FarColours(%v, %v) = %v", pair[0], pair[1], got)
		}
	}
}

const digits = "0123456789abcdef"

func TestFormatColourAtEachStep(t *testing.T) {
	for i := range digits {
		from := float32(i) / 16
		to := math.Nextafter32(float32(i+1)/16, 0)
		cases := []struct {
			a     impl.Colour
			place int
		}{
			{impl.Colour{R: from}, 0}, {impl.Colour{G: from}, 1}, {impl.Colour{B: from}, 2},
			{impl.Colour{R: to}, 0}, {impl.Colour{G: to}, 1}, {impl.Colour{B: to}, 2},
		}
		for _, c := range cases {
			want := "000"[:c.place] + digits[i:i+1] + "000"[c.place+1:]
			if got := impl.FormatColour(c.a); got != want {
				t.Errorf("FormatColour(%v) = %q, want %q", c.a, got, want)
			}
		}
	}
}

func TestFormatColourAtTheEnds(t *testing.T) {
	zero := minusZero()
	cases := []struct {
		a    impl.Colour
		want string
	}{
		{impl.Colour{}, "000"},
		{impl.Colour{R: zero, G: tiny, B: 1.0 / 16}, "001"},
		{impl.Colour{R: 1, G: 1, B: 1}, "fff"},
		{impl.Colour{R: 1, G: belowOne, B: 15.0 / 16}, "fff"},
		{impl.Colour{R: math.Nextafter32(15.0/16, 0), G: 14.0 / 16, B: 10.0 / 16}, "eea"},
		{impl.Colour{R: 0.1, G: 0.6, B: 0.9}, "19e"},
	}
	for _, c := range cases {
		if got := impl.FormatColour(c.a); got != c.want {
			t.Errorf("FormatColour(%v) = %q, want %q", c.a, got, c.want)
		}
	}
	for _, a := range badColours() {
		if got := impl.FormatColour(a); got != "" {
			t.Errorf("FormatColour(%v) = %q", a, got)
		}
	}
}

func wantPart(step int) float32 {
	nearest, _ := big.NewRat(int64(step), 15).Float32()
	return nearest
}

func TestEveryDigitIsReadAndWrittenAgain(t *testing.T) {
	for i := range digits {
		for j := range digits {
			for k := range digits {
				s := string([]byte{digits[i], digits[j], digits[k]})
				want := impl.Colour{R: wantPart(i), G: wantPart(j), B: wantPart(k)}
				got, ok := impl.ParseColour(s)
				if !ok || !sameColourBits(got, want) || !impl.IsColour(got) {
					t.Errorf("ParseColour(%q) = %v, %v, want %v", s, got, ok, want)
				}
				if again := impl.FormatColour(got); again != s {
					t.Errorf("FormatColour of ParseColour(%q) = %q", s, again)
				}
			}
		}
	}
}

func TestParseColourOfInvalid(t *testing.T) {
	texts := []string{
		"", "0", "f", "00", "ff", "0000", "ffff", "000000", "0f3 ", " 0f3", "0 f", "0\nf", "0f3\x00", "#0f3", "#0f",
		"0F3", "FFF", "Fff", "fFf", "ffF", "gff", "fgf", "ffg", "-11", "+11", "1.0", "0.5", "0x1", "1e+", "1_1",
		"\xff\xff\xff", "0\xc3\xa9", "\uff11", "\u06611", "\uff11\uff11\uff11", "nan", "inf", strings.Repeat("0f3", 2),
	}
	for _, s := range texts {
		if got, ok := impl.ParseColour(s); ok || !isPlainBlack(got) {
			t.Errorf("ParseColour(%q) = %v, %v", s, got, ok)
		}
	}
}

func TestParseColourTakesNoOtherBytes(t *testing.T) {
	for c := range 256 {
		isDigit := strings.IndexByte(digits, byte(c)) >= 0
		for place := range 3 {
			s := "000"[:place] + string([]byte{byte(c)}) + "000"[place+1:]
			if got, ok := impl.ParseColour(s); ok != isDigit || !ok && !isPlainBlack(got) {
				t.Errorf("ParseColour(%q) = %v, %v", s, got, ok)
			}
		}
	}
}
