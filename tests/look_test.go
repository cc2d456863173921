package tests

import (
	"math"
	"slices"
	"strings"
	"testing"

	"loop.example/g03020/impl"
)

var questions = []string{"picture", "symmetries", "light", "beads"}

// wantSeenIn reckons what is seen in a valid show, cell by cell.
func wantSeenIn(s impl.Show) impl.Picture {
	var moved []impl.Shard
	for i, shard := range s.Shards {
		at := s.Tumble.Beads[i].At
		shard.A, shard.B, shard.C = wantMovedCorner(shard.A, at), wantMovedCorner(shard.B, at), wantMovedCorner(shard.C, at)
		if impl.IsPoint(shard.A) && impl.IsPoint(shard.B) && impl.IsPoint(shard.C) {
			moved = append(moved, shard)
		}
	}
	p := impl.Picture{Size: s.Size}
	for cell := range s.Size * s.Size {
		at := lookedAt(s.Tumble.Mirrors, s.Size, s.Step, cell)
		p.Cells = append(p.Cells, wantSeen(moved, wantLayers(moved, at), s.Light))
	}
	return p
}

func wantBeadText(b impl.Bead) string {
	fold, g := wantFold(impl.MirrorStar, b.At), wantFoldSym(impl.MirrorStar, b.At)
	text := string("0123"[g.Turns])
	if g.Flip {
		text += "f"
	}
	switch {
	case real(fold) == 0 && imag(fold) == 0:
		return text + " middle"
	case imag(fold) == 0, real(fold) == imag(fold):
		return text + " mirror"
	}
	return text + " inside"
}

// checkSeen checks what is seen in a show, and its answers to all questions.
func checkSeen(t *testing.T, s impl.Show) {
	t.Helper()
	p, ok := impl.SeenIn(s)
	if want := wantSeenIn(s); !ok || !samePictureBits(p, want) {
		t.Fatalf("SeenIn(%v) = %v, %v, want %v", s, p, ok, want)
	}
	var syms, beads []string
	for _, g := range wantKeeping(p) {
		syms = append(syms, impl.FormatSym(g))
	}
	for _, b := range s.Tumble.Beads {
		beads = append(beads, wantBeadText(b))
	}
	answers := [][]string{impl.FormatPicture(p), syms, {impl.FormatColour(s.Light)}, beads}
	for i, question := range questions {
		if got := impl.AskShow(s, question); !slices.Equal(got, answers[i]) {
			t.Errorf("AskShow(%v, %q) = %q, want %q", s, question, got, answers[i])
		}
	}
	if len(answers[0]) != s.Size || len(syms) < len(wantSyms(s.Tumble.Mirrors)) {
		t.Errorf("seen in %v: %v", s, answers)
	}
}

func TestSeenInGoodShows(t *testing.T) {
	for i, s := range goodShows() {
		if len(s.Shards) < 3 || i%3 == 0 {
			checkSeen(t, s)
		}
	}
}

func TestSeenInShowsOfEachKindAndSize(t *testing.T) {
	for _, kind := range allKinds {
		for _, size := range allSizes() {
			tour := tourOf(kind, size)
			for _, done := range []int{2, 4, 8, 14, len(tour)} {
				s, _ := impl.RunShow(startShow(size, 0.4), tour[:done])
				checkSeen(t, s)
				again, _ := impl.ReplayShow(s)
				for _, question := range questions {
					if got, want := impl.AskShow(again, question), impl.AskShow(s, question); !slices.Equal(got, want) {
						t.Errorf("AskShow(%v, %q) = %q, replayed from %q", again, question, got, want)
					}
				}
			}
		}
	}
}

// redShow is a show with white light and one red shard, whose lower left corner is where its bead stands.
func redShow(kind int, at complex64) impl.Show {
	red := impl.Shard{B: 2, C: 2i, Tint: impl.Colour{R: 1}}
	return impl.Show{
		Size: 3, Step: 1, Light: white, Shards: []impl.Shard{red},
		Tumble: impl.Tumble{Mirrors: kind, Beads: []impl.Bead{{At: at}}},
	}
}

// The shard is moved and not folded, and then seen at the folds of the places.
func TestPicturesOfMovedShards(t *testing.T) {
	cases := []struct {
		kind int
		at   complex64
		want string
	}{
		{impl.MirrorNone, 0, "fff f00 fff|fff f00 f00|fff fff fff"},
		{impl.MirrorNone, -2, "f00 fff fff|f00 f00 fff|fff fff fff"},
		{impl.MirrorNone, complex(0, -2), "fff fff fff|fff f00 fff|fff f00 f00"},
		{impl.MirrorNone, -1 - 1i, "fff fff fff|fff f00 fff|fff fff fff"},
		{impl.MirrorLine, -2, "f00 fff fff|f00 f00 fff|f00 fff fff"},
		{impl.MirrorBoth, 0, "fff f00 fff|f00 f00 f00|fff f00 fff"},
		{impl.MirrorBoth, 1i, "fff f00 fff|fff fff fff|fff f00 fff"},
		{impl.MirrorBoth, 2i, "f00 f00 f00|fff fff fff|f00 f00 f00"},
		{impl.MirrorBoth, 2 + 2i, "f00 fff f00|fff fff fff|f00 fff f00"},
		{impl.MirrorStar, 0, "fff f00 fff|f00 f00 f00|fff f00 fff"},
		{impl.MirrorStar, 1, "fff f00 fff|f00 fff f00|fff f00 fff"},
		{impl.MirrorStar, 1 + 1i, "f00 fff f00|fff fff fff|f00 fff f00"},
		{impl.MirrorStar, 5, "fff fff fff|fff fff fff|fff fff fff"},
	}
	for _, c := range cases {
		s := redShow(c.kind, c.at)
		if got := strings.Join(impl.AskShow(s, "picture"), "|"); got != c.want {
			t.Errorf("seen with mirrors %d, moved by %v: %q, want %q", c.kind, c.at, got, c.want)
		}
		checkSeen(t, s)
	}
}

// The beads carry the first shard, which covers everything, out of reach and back; the other ones are seen as they were.
func TestShardsOutOfReachAreLeftOut(t *testing.T) {
	wide := impl.Shard{A: -4000 - 4000i, B: 4000 - 4000i, C: 4000i, Tint: impl.Colour{R: 1}}
	edge := impl.Shard{A: -4096, B: 4096, C: 4096i, Tint: impl.Colour{G: 1, R: 1}}
	cases := []struct {
		place int
		at    complex64
		want  string
	}{
		{0, 0, "f00 f00|f00 f00"}, {0, 96, "f00 f00|f00 f00"}, {0, 97, "ff0 ff0|fff fff"}, {0, 96 + 96i, "f00 f00|f00 f00"},
		{0, complex(0, 97), "ff0 ff0|fff fff"}, {0, complex(96, -96), "f00 f00|f00 f00"}, {0, complex(96, -97), "ff0 ff0|fff fff"},
		{0, complex(96+swallowed, 0), "f00 f00|f00 f00"}, {0, 4096, "ff0 ff0|fff fff"},
		{1, 0, "f00 f00|f00 f00"}, {1, 1, "f00 f00|f00 f00"}, {1, 1i, "f00 f00|f00 f00"},
	}
	for _, shards := range [][]impl.Shard{{wide, edge}, {edge, wide}} {
		for _, c := range cases {
			place := c.place
			if shards[0] == edge {
				place = 1 - place
			}
			s := emptyShow(impl.MirrorNone, 2)
			s.Light, s.Step, s.Shards, s.Tumble.Beads = white, 1, shards, make([]impl.Bead, 2)
			s.Tumble = withBead(s.Tumble, place, impl.Bead{At: c.at})
			if got := strings.Join(impl.AskShow(s, "picture"), "|"); got != c.want {
				t.Errorf("with bead %d at %v: %q, want %q", place, c.at, got, c.want)
			}
			checkSeen(t, s)
		}
	}
	both := emptyShow(impl.MirrorBoth, 2)
	both.Shards, both.Tumble.Beads = []impl.Shard{wide, edge}, []impl.Bead{{At: 97}, {At: 1i}}
	if p, ok := impl.SeenIn(both); !ok || !samePictureBits(p, evenly(2, amber)) {
		t.Error("though all shards are out of reach, there is seen:", p, ok)
	}
}

func TestShardsGoOutOfReachAndComeBack(t *testing.T) {
	for _, kind := range allKinds {
		shard := impl.Shard{A: -4000 - 4000i, B: 4000 - 4000i, C: 4000i, Tint: impl.Colour{B: 1}}
		s, done := impl.RunShow(startShow(2, 1), []impl.Event{lightOf(white), mirrorsOf(kind), addOf(shard, 0), pushOf(0, 50)})
		want := []string{"00f 00f", "fff fff", "fff fff", "00f 00f", "00f 00f"}
		events := []impl.Event{waitOf(1), waitOf(1), waitOf(30), pushOf(0, -100), waitOf(31), waitOf(1)}
		var got []string
		for _, e := range events {
			s = checkDone(t, s, e)
			checkSeen(t, s)
			checkReplay(t, s)
			if e.Kind == impl.EvWait {
				got = append(got, impl.AskShow(s, "picture")[0])
			}
		}
		if done != 4 || !slices.Equal(got, want) {
			t.Errorf("with mirrors %d: %q, want %q", kind, got, want)
		}
	}
}

func TestShowsWithoutShardsAreTheLight(t *testing.T) {
	for _, kind := range allKinds {
		for _, size := range allSizes() {
			s := emptyShow(kind, size)
			p, ok := impl.SeenIn(s)
			if !ok || !samePictureBits(p, evenly(size, amber)) || len(impl.AskShow(s, "symmetries")) != 8 || len(impl.AskShow(s, "beads")) != 0 {
				t.Errorf("seen in %v: %v, %v", s, p, ok)
			}
			if row := impl.AskShow(s, "picture"); len(row) != size || row[0] != strings.Repeat("e91 ", size)[:4*size-1] {
				t.Errorf("AskShow(%v) = %q", s, row)
			}
		}
	}
}

func TestAskShowLists(t *testing.T) {
	slant := redShow(impl.MirrorNone, 0)
	slant.Shards[0].Tint = impl.Colour{R: 0.5, B: 1}
	slant.Light = impl.Colour{R: 1, G: 0.5, B: 0.25}
	cases := []struct {
		s        impl.Show
		question string
		want     []string
	}{
		{redShow(impl.MirrorNone, 0), "picture", []string{"fff f00 fff", "fff f00 f00", "fff fff fff"}},
		{redShow(impl.MirrorNone, 0), "symmetries", []string{"0", "1f"}},
		{redShow(impl.MirrorNone, -2), "symmetries", []string{"0"}},
		{redShow(impl.MirrorNone, 1+1i), "symmetries", []string{"0", "1f"}},
		{redShow(impl.MirrorLine, -2), "symmetries", []string{"0", "0f"}},
		{redShow(impl.MirrorBoth, 1i), "symmetries", []string{"0", "2", "0f", "2f"}},
		{redShow(impl.MirrorStar, 1), "symmetries", []string{"0", "1", "2", "3", "0f", "1f", "2f", "3f"}},
		{redShow(impl.MirrorStar, 1), "light", []string{"fff"}},
		{redShow(impl.MirrorStar, 1), "beads", []string{"0 mirror"}},
		{slant, "light", []string{"f84"}},
		{slant, "picture", []string{"f84 804 f84", "f84 804 804", "f84 f84 f84"}},
		{startShow(1, 1), "light", []string{"000"}},
		{startShow(1, 1), "picture", []string{"000"}},
		{startShow(1, 1), "beads", nil},
	}
	for _, c := range cases {
		if got := impl.AskShow(c.s, c.question); !slices.Equal(got, c.want) {
			t.Errorf("AskShow(%v, %q) = %q, want %q", c.s, c.question, got, c.want)
		}
	}
}

// Beads are folded with MirrorStar, whatever the mirrors of the show are.
func TestAskForBeads(t *testing.T) {
	zero := minusZero()
	cases := []struct {
		at   complex64
		want string
	}{
		{0, "0 middle"}, {complex(zero, zero), "0 middle"}, {complex(zero, 0), "0 middle"},
		{5, "0 mirror"}, {5i, "3 mirror"}, {-5, "2 mirror"}, {-5i, "1 mirror"}, {complex(tiny, zero), "0 mirror"}, {complex(zero, -4096), "1 mirror"},
		{2 + 2i, "0 mirror"}, {-2 + 2i, "3 mirror"}, {-2 - 2i, "2 mirror"}, {2 - 2i, "1 mirror"}, {complex(tiny, tiny), "0 mirror"},
		{3 + 1i, "0 inside"}, {-1 + 3i, "3 inside"}, {-3 - 1i, "2 inside"}, {1 - 3i, "1 inside"},
		{3 - 1i, "0f inside"}, {1 + 3i, "1f inside"}, {-3 + 1i, "2f inside"}, {-1 - 3i, "3f inside"},
		{complex(2, tiny), "0 inside"}, {complex(4096, below(4096)), "0 inside"}, {complex(below(2), 2), "1f inside"},
	}
	for _, kind := range allKinds {
		s, wants := emptyShow(kind, 2), []string{}
		check := func() {
			if got := impl.AskShow(s, "beads"); !slices.Equal(got, wants) {
				t.Errorf("the beads of %v: %q, want %q", s, got, wants)
			}
		}
		for _, c := range cases {
			if len(s.Shards) == impl.MaxBeads {
				check()
				s.Shards, s.Tumble.Beads, wants = nil, nil, []string{}
			}
			if standsInWedge(kind, c.at) {
				s.Shards, wants = append(s.Shards, impl.Shard{}), append(wants, c.want)
				s.Tumble.Beads = append(s.Tumble.Beads, impl.Bead{At: c.at, Speed: 1 - 2i})
			}
		}
		check()
	}
}

func below(x float32) float32 {
	return math.Nextafter32(x, 0)
}

func TestQuestionsThatAreNone(t *testing.T) {
	others := []string{
		"", " ", "Picture", "PICTURE", "picture ", " picture", "pictures", "pictur", "picture\x00", "picture\n",
		"symmetry", "Symmetries", "symmetries ", "lights", "Light", "ligh", "bead", "Beads", "beads beads", "shards", "ticks", "log",
		"size", "step", "light,beads", "\xff", "0",
	}
	for _, s := range []impl.Show{startShow(1, 1), fullShow(impl.MirrorStar), redShow(impl.MirrorNone, 1), {}, badShows()[1]} {
		for _, question := range others {
			if got := impl.AskShow(s, question); len(got) != 0 {
				t.Errorf("AskShow(%v, %q) = %q", s, question, got)
			}
		}
	}
}

func TestSeenInAndAskShowOfInvalid(t *testing.T) {
	for _, s := range badShows() {
		if p, ok := impl.SeenIn(s); ok || !isPlainPicture(p) {
			t.Errorf("SeenIn(%v) = %v, %v", s, p, ok)
		}
		for _, question := range questions {
			if got := impl.AskShow(s, question); len(got) != 0 {
				t.Errorf("AskShow(%v, %q) = %q", s, question, got)
			}
		}
	}
}

func copyOfShow(s impl.Show) impl.Show {
	s.Shards, s.Log = append([]impl.Shard{}, s.Shards...), append([]impl.Event{}, s.Log...)
	s.Tumble.Beads = append([]impl.Bead{}, s.Tumble.Beads...)
	return s
}

func TestSameShow(t *testing.T) {
	for _, s := range goodShows() {
		if other := copyOfShow(s); !impl.SameShow(s, other) || !impl.SameShow(other, s) {
			t.Error("not the same as a copy of it:", s)
		}
	}
	for _, kind := range allKinds {
		minus := minusShow(kind)
		plus := copyOfShow(minus)
		plus.Light, plus.Tumble.Gravity, plus.Tumble.Loss, plus.Tumble.Beads = impl.Colour{}, 0, 0, make([]impl.Bead, 2)
		plus.Shards = []impl.Shard{{B: 2, C: 2i}, {}}
		for i, e := range minus.Log {
			plus.Log[i] = addOf(e.Shard, e.Z)
		}
		if !impl.SameShow(plus, minus) || !impl.SameShow(minus, plus) || sameShowBits(plus, minus) {
			t.Errorf("-0 is not taken as the same as 0: %v, %v", plus, minus)
		}
	}
	if !impl.SameShow(impl.Show{}, copyOfShow(impl.Show{})) || !impl.SameShow(copyOfShow(impl.Show{}), impl.Show{}) {
		t.Error("nothing and empty lists are not taken as the same")
	}
}

func TestSameShowTellsEachFieldApart(t *testing.T) {
	s := fullShow(impl.MirrorLine)
	var others []impl.Show
	add := func(change func(other *impl.Show)) {
		other := copyOfShow(s)
		change(&other)
		others = append(others, other)
	}
	add(func(other *impl.Show) { other.Size = 4 })
	add(func(other *impl.Show) { other.Step = below(other.Step) })
	add(func(other *impl.Show) { other.Light.R = 0.125 })
	add(func(other *impl.Show) { other.Light.G = 0.125 })
	add(func(other *impl.Show) { other.Light.B = 0.125 })
	add(func(other *impl.Show) { other.Ticks++ })
	add(func(other *impl.Show) { other.Tumble.Mirrors = impl.MirrorBoth })
	add(func(other *impl.Show) { other.Tumble.Gravity += 1i })
	add(func(other *impl.Show) { other.Tumble.Loss = 0.5 })
	add(func(other *impl.Show) { other.Tumble.Beads[7].Speed += 1 })
	add(func(other *impl.Show) { other.Tumble.Beads = other.Tumble.Beads[1:] })
	add(func(other *impl.Show) { other.Shards = other.Shards[:7] })
	add(func(other *impl.Show) { other.Shards = append(other.Shards, other.Shards[0]) })
	add(func(other *impl.Show) { other.Shards = nil })
	add(func(other *impl.Show) { slices.Reverse(other.Shards) })
	add(func(other *impl.Show) { other.Log = other.Log[:6] })
	add(func(other *impl.Show) { other.Log = append(other.Log, waitOf(1)) })
	add(func(other *impl.Show) { other.Log = nil })
	add(func(other *impl.Show) { other.Log[0], other.Log[1] = other.Log[1], other.Log[0] })
	for i := range s.Shards {
		for part := range fieldParts {
			add(func(other *impl.Show) { other.Shards[i] = withField(addOf(other.Shards[i], 0), 'S', part, 0.111).Shard })
		}
	}
	for i := range s.Log {
		add(func(other *impl.Show) { other.Log[i].Kind++ })
		add(func(other *impl.Show) { other.Log[i].N-- })
		for part := range fieldParts {
			for _, field := range []byte("ZLS") {
				add(func(other *impl.Show) { other.Log[i] = withField(other.Log[i], field, part, 0.111) })
			}
		}
	}
	for _, other := range others {
		if impl.SameShow(s, other) || impl.SameShow(other, s) {
			t.Errorf("taken as the same: %v, %v", s, other)
		}
	}
}

// It accepts shows that are not valid, too, but NaN equals nothing.
func TestSameShowOfInvalid(t *testing.T) {
	nan, inf := float32(math.NaN()), float32(math.Inf(1))
	same := []impl.Show{
		{}, {Size: -7, Step: inf, Ticks: -1}, {Shards: badShards()[:1], Log: []impl.Event{{Kind: 99, N: -3}}},
		{Light: impl.Colour{R: -2}, Tumble: impl.Tumble{Mirrors: 9, Beads: make([]impl.Bead, 20)}},
	}
	for _, s := range same {
		if !impl.SameShow(s, copyOfShow(s)) {
			t.Error("not the same as itself:", s)
		}
	}
	others := []impl.Show{
		{Step: nan}, {Light: impl.Colour{G: nan}}, {Shards: []impl.Shard{{Clear: nan}}}, {Shards: []impl.Shard{{A: complex(0, nan)}}},
		{Tumble: impl.Tumble{Loss: nan}}, {Tumble: impl.Tumble{Beads: []impl.Bead{{At: complex(nan, 0)}}}},
		{Log: []impl.Event{{Z: complex(nan, 0)}}}, {Log: []impl.Event{{Light: impl.Colour{B: nan}}}},
	}
	for _, s := range others {
		if impl.SameShow(s, s) {
			t.Error("NaN is taken as the same as NaN:", s)
		}
	}
}
