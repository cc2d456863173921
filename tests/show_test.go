package tests

import (
	"math"
	"slices"
	"strings"
	"testing"

	"loop.example/g03020/impl"
)

// fieldNames are the fields, by a letter each, that are named for each kind of events.
var fieldNames = map[int]string{
	impl.EvAdd: "SZ", impl.EvTake: "N", impl.EvLight: "L", impl.EvMirrors: "N",
	impl.EvGravity: "Z", impl.EvPush: "NZ", impl.EvWait: "N",
}

var allEventKinds = []int{
	impl.EvAdd, impl.EvTake, impl.EvLight, impl.EvMirrors, impl.EvGravity, impl.EvPush, impl.EvWait,
}

func addOf(s impl.Shard, z complex64) impl.Event {
	return impl.Event{Kind: impl.EvAdd, Shard: s, Z: z}
}

func takeOf(n int) impl.Event {
	return impl.Event{Kind: impl.EvTake, N: n}
}

func lightOf(a impl.Colour) impl.Event {
	return impl.Event{Kind: impl.EvLight, Light: a}
}

func mirrorsOf(kind int) impl.Event {
	return impl.Event{Kind: impl.EvMirrors, N: kind}
}

func gravityOf(z complex64) impl.Event {
	return impl.Event{Kind: impl.EvGravity, Z: z}
}

func pushOf(n int, z complex64) impl.Event {
	return impl.Event{Kind: impl.EvPush, N: n, Z: z}
}

func waitOf(n int) impl.Event {
	return impl.Event{Kind: impl.EvWait, N: n}
}

// plainEvents has an event of each kind, with each of the fields that are named for it set to something that is not zero.
func plainEvents() []impl.Event {
	return []impl.Event{
		addOf(paneOf(1, 2i, -3), 2+1i), takeOf(1), lightOf(amber), mirrorsOf(impl.MirrorBoth),
		gravityOf(complex(0.5, -0.25)), pushOf(1, 1-1i), waitOf(2),
	}
}

func goodEvents() []impl.Event {
	events := plainEvents()
	for i, s := range goodShards() {
		events = append(events, addOf(s, goodPoints()[i%len(goodPoints())]))
	}
	for i, z := range goodPoints() {
		events = append(events, addOf(impl.Shard{}, z), gravityOf(z), pushOf(i%impl.MaxBeads, z))
	}
	for n := range impl.MaxBeads {
		events = append(events, takeOf(n), pushOf(n, 0))
	}
	for _, a := range goodColours() {
		events = append(events, lightOf(a))
	}
	for _, kind := range allKinds {
		events = append(events, mirrorsOf(kind))
	}
	for n := range impl.MaxWait {
		events = append(events, waitOf(n+1))
	}
	return events
}

// withField sets one part of one field, by its letter and by a number below fieldParts.
func withField(e impl.Event, field byte, part int, x float32) impl.Event {
	switch field {
	case 'Z':
		e.Z = [2]complex64{complex(x, 0), complex(0, x)}[part%2]
	case 'L':
		*[3]*float32{&e.Light.R, &e.Light.G, &e.Light.B}[part%3] = x
	case 'S':
		if part < 6 {
			*[3]*complex64{&e.Shard.A, &e.Shard.B, &e.Shard.C}[part/2] = [2]complex64{complex(x, 0), complex(0, x)}[part%2]
		} else {
			*[4]*float32{&e.Shard.Tint.R, &e.Shard.Tint.G, &e.Shard.Tint.B, &e.Shard.Clear}[part%4] = x
		}
	}
	return e
}

const fieldParts = 10

// eventsWithStrayFields sets, in events of each kind, one field after the other that is not named for it.
func eventsWithStrayFields(values []float32) []impl.Event {
	var events []impl.Event
	for _, e := range plainEvents() {
		for _, field := range []byte("ZLS") {
			if strings.IndexByte(fieldNames[e.Kind], field) >= 0 {
				continue
			}
			for part := range fieldParts {
				for _, x := range values {
					events = append(events, withField(e, field, part, x))
				}
			}
		}
	}
	return events
}

// minusEvents have fields that are -0 though they are not named, and fields that are named and -0.
func minusEvents() []impl.Event {
	zero := minusZero()
	pair := complex(zero, zero)
	none := impl.Colour{R: zero, G: zero, B: zero}
	stray := impl.Event{Z: pair, Shard: impl.Shard{A: pair, B: pair, C: pair, Tint: none, Clear: zero}, Light: none}
	events := eventsWithStrayFields([]float32{zero})
	for _, e := range plainEvents() {
		minus := stray
		minus.Kind, minus.N = e.Kind, e.N
		events = append(events, minus)
	}
	return events
}

// badEvents would all be valid but for one thing.
func badEvents() []impl.Event {
	nan := float32(math.NaN())
	events := eventsWithStrayFields([]float32{tiny, -tiny, 1, 0.5, nan})
	for _, kind := range []int{0, -1, impl.EvWait + 1, 9, math.MaxInt, math.MinInt, 1<<32 + impl.EvWait} {
		events = append(events, impl.Event{Kind: kind})
		for _, e := range plainEvents() {
			e.Kind = kind
			events = append(events, e)
		}
	}
	for _, n := range []int{-1, impl.MaxBeads, impl.MaxBeads + 1, -impl.MaxBeads, 1 << 32, math.MaxInt, math.MinInt} {
		events = append(events, takeOf(n), pushOf(n, 0), pushOf(n, 1+1i))
	}
	for _, n := range []int{0, -1, impl.MaxWait + 1, impl.MaxWait + 2, 1<<32 + 1, math.MaxInt, math.MinInt} {
		events = append(events, waitOf(n))
	}
	for _, n := range noKinds {
		events = append(events, mirrorsOf(n))
	}
	for _, n := range []int{1, -1, 3, math.MaxInt, math.MinInt} {
		for _, e := range []impl.Event{addOf(paneOf(0, 1, 1i), 1), lightOf(white), gravityOf(1)} {
			e.N = n
			events = append(events, e)
		}
	}
	for _, z := range badPoints() {
		events = append(events, addOf(impl.Shard{}, z), gravityOf(z), pushOf(0, z), pushOf(impl.MaxBeads-1, z))
	}
	for _, s := range badShards() {
		events = append(events, addOf(s, 0))
	}
	for _, a := range badColours() {
		events = append(events, lightOf(a))
	}
	return events
}

func sameEventBits(e impl.Event, f impl.Event) bool {
	return e.Kind == f.Kind && e.N == f.N && sameBits(e.Z, f.Z) && sameShardBits(e.Shard, f.Shard) && sameColourBits(e.Light, f.Light)
}

func sameShowBits(a impl.Show, b impl.Show) bool {
	return a.Size == b.Size && sameFloat(a.Step, b.Step) && sameColourBits(a.Light, b.Light) &&
		slices.EqualFunc(a.Shards, b.Shards, sameShardBits) && sameTumbleBits(a.Tumble, b.Tumble) &&
		a.Ticks == b.Ticks && slices.EqualFunc(a.Log, b.Log, sameEventBits)
}

func isPlainShow(s impl.Show) bool {
	return sameShowBits(s, impl.Show{})
}

// emptyShow is what NewShow returns.
func emptyShow(kind int, size int) impl.Show {
	return impl.Show{Size: size, Step: 0.75, Light: amber, Tumble: impl.Tumble{Mirrors: kind}}
}

// fullShow has as many beads and shards as there may be, and something in each field.
func fullShow(kind int) impl.Show {
	s := emptyShow(kind, 3)
	s.Shards, s.Tumble, s.Ticks, s.Log = stackOf(impl.MaxBeads), fullTumble(kind), 7, plainEvents()
	return s
}

// someShow is a fullShow with fewer beads and shards.
func someShow(kind int, count int) impl.Show {
	s := fullShow(kind)
	s.Shards, s.Tumble.Beads = s.Shards[:count], s.Tumble.Beads[:count]
	return s
}

// minusShow has -0 wherever a show may have it.
func minusShow(kind int) impl.Show {
	zero := minusZero()
	pair, none := complex(zero, zero), impl.Colour{R: zero, G: zero, B: zero}
	return impl.Show{
		Size: 2, Step: 1, Light: none,
		Shards: []impl.Shard{{A: pair, B: complex(2, zero), C: complex(zero, 2), Tint: none, Clear: zero}, {A: pair}},
		Tumble: impl.Tumble{Mirrors: kind, Gravity: pair, Loss: zero, Beads: []impl.Bead{{At: pair, Speed: pair}, {At: pair}}},
		Log:    minusEvents()[:3],
	}
}

func goodShows() []impl.Show {
	var shows []impl.Show
	for _, kind := range allKinds {
		for _, size := range allSizes() {
			shows = append(shows, emptyShow(kind, size))
		}
		for count := range impl.MaxBeads + 1 {
			shows = append(shows, someShow(kind, count))
		}
		shows = append(shows, minusShow(kind))
		for _, step := range goodSteps() {
			s := fullShow(kind)
			s.Step = step
			shows = append(shows, s)
		}
		for _, ticks := range []int{0, 1, impl.MaxTicks - 1, impl.MaxTicks} {
			s := someShow(kind, ticks%4)
			s.Ticks = ticks
			shows = append(shows, s)
		}
		for i, a := range goodColours() {
			s := someShow(kind, i%3)
			s.Light, s.Log = a, slices.Repeat([]impl.Event{lightOf(a)}, i%(impl.MaxEvents+1))
			shows = append(shows, s)
		}
		for i, m := range append(calmTumbles(kind), loneTumbles(kind)[:40]...) {
			s := emptyShow(kind, 1+i%impl.MaxSize)
			s.Shards, s.Tumble = stackOf(len(m.Beads)), m
			shows = append(shows, s)
		}
	}
	return shows
}

// badShowsOf would all be valid but for one thing, and have a valid tumble, valid shards and valid events.
func badShowsOf(kind int) []impl.Show {
	var shows []impl.Show
	add := func(change func(s *impl.Show)) {
		for _, s := range []impl.Show{emptyShow(kind, 2), someShow(kind, 2), fullShow(kind)} {
			change(&s)
			shows = append(shows, s)
		}
	}
	for _, size := range noSizes {
		add(func(s *impl.Show) { s.Size = size })
	}
	for _, step := range noSteps() {
		add(func(s *impl.Show) { s.Step = step })
	}
	for _, light := range badColours() {
		add(func(s *impl.Show) { s.Light = light })
	}
	for _, ticks := range []int{-1, impl.MaxTicks + 1, -impl.MaxTicks, 1 << 32, math.MaxInt, math.MinInt} {
		add(func(s *impl.Show) { s.Ticks = ticks })
	}
	add(func(s *impl.Show) { s.Log = slices.Repeat(plainEvents(), 4)[:impl.MaxEvents+1] })
	add(func(s *impl.Show) { s.Shards = stackOf(len(s.Shards) + 1) })
	add(func(s *impl.Show) { s.Shards = stackOf(impl.MaxShards) })
	for count := impl.MaxBeads + 1; count <= impl.MaxShards+1; count++ {
		add(func(s *impl.Show) {
			s.Shards, s.Tumble.Beads = stackOf(count), slices.Repeat([]impl.Bead{{At: 2 + 1i}}, count)
		})
	}
	for count := range impl.MaxBeads {
		s := fullShow(kind)
		fewer, none := s, s
		s.Shards, fewer.Tumble.Beads = s.Shards[:count], s.Tumble.Beads[:count]
		none.Shards = nil
		shows = append(shows, s, fewer, none)
	}
	return shows
}

// badShows adds those that are not valid by a shard, the tumble or an event of the log.
func badShows() []impl.Show {
	shows := []impl.Show{{}}
	for _, kind := range allKinds {
		shows = append(shows, badShowsOf(kind)...)
	}
	for i, bad := range badShards() {
		s, one := fullShow(allKinds[i%4]), someShow(allKinds[i%4], 1)
		s.Shards[i%impl.MaxBeads], one.Shards = bad, []impl.Shard{bad}
		shows = append(shows, s, one)
	}
	for _, m := range badTumbles() {
		s := emptyShow(m.Mirrors, 2)
		s.Tumble, s.Shards = m, stackOf(len(m.Beads))
		shows = append(shows, s)
	}
	for i, bad := range badEvents() {
		s := someShow(allKinds[i%4], i%3)
		s.Log = slices.Clone(slices.Repeat(plainEvents(), 4)[:1+i%impl.MaxEvents])
		s.Log[(i*5)%len(s.Log)] = bad
		one := emptyShow(allKinds[i%4], 1)
		one.Log = []impl.Event{bad}
		shows = append(shows, s, one)
	}
	return shows
}

// wantDone reckons what a valid event makes of a valid show, and whether it is not refused.
func wantDone(s impl.Show, e impl.Event) (impl.Show, bool) {
	after, beads, kind := s, s.Tumble.Beads, s.Tumble.Mirrors
	after.Log = slices.Concat(s.Log, []impl.Event{e})
	isRefused := len(s.Log) == impl.MaxEvents
	switch e.Kind {
	case impl.EvAdd:
		isRefused = isRefused || len(beads) == impl.MaxBeads
		after.Shards = slices.Concat(s.Shards, []impl.Shard{e.Shard})
		after.Tumble.Beads = slices.Concat(beads, []impl.Bead{{At: wantFold(kind, e.Z)}})
	case impl.EvLight:
		after.Light = e.Light
	case impl.EvMirrors:
		after.Tumble.Mirrors, after.Tumble.Beads = e.N, nil
		for _, b := range beads {
			moved := impl.Bead{At: wantFold(e.N, b.At), Speed: wantImage(wantFoldSym(e.N, b.At), b.Speed)}
			after.Tumble.Beads = append(after.Tumble.Beads, moved)
		}
	case impl.EvGravity:
		after.Tumble.Gravity = e.Z
	case impl.EvWait:
		run, _, ok := wantRun(s.Tumble, e.N)
		isRefused = isRefused || !ok || s.Ticks+e.N > impl.MaxTicks
		after.Tumble, after.Ticks = run, s.Ticks+e.N
	case impl.EvTake, impl.EvPush:
		if e.N >= len(beads) {
			return s, false
		}
		if e.Kind == impl.EvTake {
			after.Shards = slices.Concat(s.Shards[:e.N], s.Shards[e.N+1:])
			after.Tumble.Beads = slices.Concat(beads[:e.N], beads[e.N+1:])
			break
		}
		speed := wantMovedCorner(beads[e.N].Speed, e.Z)
		isRefused = isRefused || !impl.IsPoint(speed)
		after.Tumble = withBead(s.Tumble, e.N, impl.Bead{At: beads[e.N].At, Speed: speed})
	}
	if isRefused {
		return s, false
	}
	return after, true
}

// checkDone checks an event that has to be done, and returns what comes of it.
func checkDone(t *testing.T, s impl.Show, e impl.Event) impl.Show {
	t.Helper()
	want, is := wantDone(s, e)
	got, ok := impl.DoEvent(s, e)
	if !is || !ok || !sameShowBits(got, want) || !impl.IsShow(got) {
		t.Fatalf("DoEvent(%v, %v) = %v, %v, want %v, %v", s, e, got, ok, want, is)
	}
	return got
}

// checkRefused checks an event that must not be done, by itself, in a list and before others that could be.
func checkRefused(t *testing.T, s impl.Show, e impl.Event) {
	t.Helper()
	if got, ok := impl.DoEvent(s, e); ok || !sameShowBits(got, s) {
		t.Errorf("DoEvent(%v, %v) = %v, %v", s, e, got, ok)
	}
	if got, done := impl.RunShow(s, []impl.Event{e, lightOf(white), gravityOf(1)}); done != 0 || !sameShowBits(got, s) {
		t.Errorf("RunShow(%v) with %v: %v, %d", s, e, got, done)
	}
}

func checkAsReckoned(t *testing.T, s impl.Show, e impl.Event) {
	t.Helper()
	if _, ok := wantDone(s, e); ok {
		checkDone(t, s, e)
	} else {
		checkRefused(t, s, e)
	}
}

func TestIsEvent(t *testing.T) {
	for _, e := range append(goodEvents(), minusEvents()...) {
		if !impl.IsEvent(e) {
			t.Error("an event is not taken as one:", e)
		}
	}
	for _, e := range badEvents() {
		if impl.IsEvent(e) {
			t.Error("taken as an event:", e)
		}
	}
}

// What is an event of one kind is one of another kind only if that names these fields, too.
func TestEventsOfAnotherKind(t *testing.T) {
	for _, e := range plainEvents() {
		for _, kind := range allEventKinds {
			other := e
			other.Kind = kind
			want := !strings.ContainsFunc(fieldNames[e.Kind], func(field rune) bool { return !strings.ContainsRune(fieldNames[kind], field) })
			if got := impl.IsEvent(other); got != want {
				t.Errorf("IsEvent(%v) = %v", other, got)
			}
		}
	}
	for n := -2; n <= impl.MaxWait+2; n++ {
		wants := map[impl.Event]bool{
			takeOf(n): n >= 0 && n < impl.MaxBeads, pushOf(n, 0): n >= 0 && n < impl.MaxBeads, pushOf(n, 1): n >= 0 && n < impl.MaxBeads,
			mirrorsOf(n): n >= impl.MirrorNone && n <= impl.MirrorStar, waitOf(n): n >= 1 && n <= impl.MaxWait,
			{Kind: impl.EvAdd, N: n}: n == 0, {Kind: impl.EvLight, N: n}: n == 0, {Kind: impl.EvGravity, N: n}: n == 0,
		}
		for e, want := range wants {
			if got := impl.IsEvent(e); got != want {
				t.Errorf("IsEvent(%v) = %v", e, got)
			}
		}
	}
}

func TestIsShow(t *testing.T) {
	for _, s := range goodShows() {
		if !impl.IsShow(s) {
			t.Error("a show is not taken as one:", s)
		}
	}
	for _, s := range badShows() {
		if impl.IsShow(s) {
			t.Error("taken as a show:", s)
		}
	}
}

func TestNewShow(t *testing.T) {
	for _, kind := range allKinds {
		for _, size := range allSizes() {
			for i, light := range goodColours() {
				step := goodSteps()[i%len(goodSteps())]
				want := impl.Show{Size: size, Step: step, Light: light, Tumble: impl.Tumble{Mirrors: kind}}
				got, ok := impl.NewShow(kind, size, step, light)
				if !ok || !sameShowBits(got, want) || !impl.IsShow(got) {
					t.Errorf("NewShow(%d, %d, %v, %v) = %v, %v", kind, size, step, light, got, ok)
				}
			}
		}
	}
}

func TestNewShowOfInvalid(t *testing.T) {
	check := func(kind int, size int, step float32, light impl.Colour) {
		if got, ok := impl.NewShow(kind, size, step, light); ok || !isPlainShow(got) {
			t.Errorf("NewShow(%d, %d, %v, %v) = %v, %v", kind, size, step, light, got, ok)
		}
	}
	for _, kind := range noKinds {
		check(kind, 3, 1, white)
	}
	for _, kind := range allKinds {
		for _, size := range noSizes {
			check(kind, size, 1, white)
		}
		for _, step := range noSteps() {
			check(kind, 2, step, white)
		}
		for _, light := range badColours() {
			check(kind, 2, 1, light)
		}
	}
}

func TestDoEventOfEachKind(t *testing.T) {
	events := append(goodEvents(), minusEvents()...)
	for _, kind := range allKinds {
		shows := []impl.Show{emptyShow(kind, 2), someShow(kind, 1), someShow(kind, 5), fullShow(kind), minusShow(kind)}
		for i, e := range events {
			checkAsReckoned(t, shows[i%len(shows)], e)
			if e.Kind != impl.EvAdd {
				checkAsReckoned(t, shows[(i/5+i)%len(shows)], e)
			}
		}
		for _, s := range shows {
			for _, e := range append(plainEvents(), events[len(events)-7:]...) {
				checkAsReckoned(t, s, e)
			}
		}
	}
}

// Each valid show goes on, whatever it has come from.
func TestDoEventToEachShow(t *testing.T) {
	for _, s := range goodShows() {
		for _, e := range plainEvents() {
			checkAsReckoned(t, s, e)
		}
	}
}

// What is in a field that is not named comes into the log as it is, and does nothing else.
func TestStrayMinusZerosAreLogged(t *testing.T) {
	s := someShow(impl.MirrorStar, 3)
	for _, e := range minusEvents() {
		got := checkDone(t, s, e)
		if last := got.Log[len(got.Log)-1]; !sameEventBits(last, e) {
			t.Errorf("%v is logged as %v", e, last)
		}
	}
}

func TestAddedShardsAndBeads(t *testing.T) {
	zero := minusZero()
	cases := []struct {
		kind int
		z    complex64
		want complex64
	}{
		// In the wedge, outside it, on its mirrors and in the corner.
		{impl.MirrorNone, -3 - 4i, -3 - 4i}, {impl.MirrorNone, complex(zero, zero), 0},
		{impl.MirrorLine, -3 + 4i, -3 + 4i}, {impl.MirrorLine, -3 - 4i, -3 + 4i}, {impl.MirrorLine, complex(-2, zero), -2},
		{impl.MirrorLine, complex(1, -tiny), complex(1, tiny)},
		{impl.MirrorBoth, -3 - 4i, 3 + 4i}, {impl.MirrorBoth, -3 + 4i, 3 + 4i}, {impl.MirrorBoth, -5i, 5i}, {impl.MirrorBoth, -5, 5},
		{impl.MirrorStar, -3 - 4i, 4 + 3i}, {impl.MirrorStar, 1 + 2i, 2 + 1i}, {impl.MirrorStar, -2 + 2i, 2 + 2i},
		{impl.MirrorStar, -7i, 7}, {impl.MirrorStar, 3 + 3i, 3 + 3i}, {impl.MirrorStar, complex(zero, zero), 0},
		{impl.MirrorStar, -4096 + 4096i, 4096 + 4096i},
	}
	shard := paneOf(complex(zero, 1), 4096, complex(-7, zero))
	for _, c := range cases {
		for count := range impl.MaxBeads {
			s := someShow(c.kind, count)
			got := checkDone(t, s, addOf(shard, c.z))
			if len(got.Shards) != count+1 || len(got.Tumble.Beads) != count+1 {
				t.Fatalf("%v added: %v", shard, got)
			}
			if last := got.Tumble.Beads[count]; !sameBeadBits(last, impl.Bead{At: c.want}) || !sameShardBits(got.Shards[count], shard) {
				t.Errorf("added at %v with mirrors %d: %v", c.z, c.kind, last)
			}
		}
	}
}

func TestAddingBeyondMaxBeads(t *testing.T) {
	for _, kind := range allKinds {
		s := emptyShow(kind, 2)
		for i := range impl.MaxBeads {
			s = checkDone(t, s, addOf(stackOf(impl.MaxBeads)[i], complex(float32(-i), 1)))
		}
		for _, z := range []complex64{0, 2 + 1i, -3 - 4i} {
			checkRefused(t, s, addOf(impl.Shard{}, z))
			checkRefused(t, fullShow(kind), addOf(paneOf(0, 1, 1i), z))
		}
		s = checkDone(t, s, takeOf(impl.MaxBeads-1))
		s = checkDone(t, s, addOf(impl.Shard{}, 0))
		checkRefused(t, s, addOf(impl.Shard{}, 0))
	}
	// More shards than MaxBeads are no show, not even with as many beads, so nothing is added to them.
	for count := impl.MaxBeads; count <= impl.MaxShards+1; count++ {
		s := fullShow(impl.MirrorNone)
		s.Shards = stackOf(count)
		s.Tumble.Beads = slices.Repeat(s.Tumble.Beads[:1], count)
		checkRefused(t, s, addOf(impl.Shard{}, 0))
	}
}

func TestTakenShardsAndBeads(t *testing.T) {
	for _, kind := range allKinds {
		for count := range impl.MaxBeads + 1 {
			s := someShow(kind, count)
			for n := range impl.MaxBeads {
				if n >= count {
					checkRefused(t, s, takeOf(n))
					continue
				}
				got := checkDone(t, s, takeOf(n))
				if len(got.Shards) != count-1 || len(got.Tumble.Beads) != count-1 {
					t.Errorf("%d taken from %v: %v", n, s, got)
				}
			}
		}
	}
	s := fullShow(impl.MirrorLine)
	for left := impl.MaxBeads; left > 0; left-- {
		s = checkDone(t, s, takeOf((left*3)%left))
	}
	checkRefused(t, s, takeOf(0))
}

func TestPushedBeads(t *testing.T) {
	zero := minusZero()
	cases := []struct {
		speed, push, want complex64
		isDone            bool
	}{
		{0, 0, 0, true},
		{complex(zero, zero), complex(zero, zero), 0, true},
		{1 + 2i, -3 + 0.5i, -2 + 2.5i, true},
		{1 - 2i, -1 + 2i, 0, true},
		{4096, complex(swallowed, 0), 4096, true},
		{4096, complex(noticed, 0), 0, false},
		{-4096, complex(-swallowed, 0), -4096, true},
		{-4096, complex(-noticed, 0), 0, false},
		{-4096i, complex(0, -noticed), 0, false},
		{4096i, complex(4096, noticed), 0, false},
		{4096 - 4096i, 4096i, 4096, true},
		{4096, 4096, 0, false}, {2048.5, 2048, 0, false}, {-4096i, -4096i, 0, false},
		{-4096 + 4096i, 4096 - 4096i, 0, true},
	}
	for _, kind := range allKinds {
		for count := range impl.MaxBeads + 1 {
			for i, c := range cases {
				s := someShow(kind, count)
				n := i % impl.MaxBeads
				if n >= count {
					checkRefused(t, s, pushOf(n, c.push))
					continue
				}
				s.Tumble = withBead(s.Tumble, n, impl.Bead{At: 2 + 1i, Speed: c.speed})
				if !c.isDone {
					checkRefused(t, s, pushOf(n, c.push))
					continue
				}
				got := checkDone(t, s, pushOf(n, c.push))
				if !sameBeadBits(got.Tumble.Beads[n], impl.Bead{At: 2 + 1i, Speed: c.want}) {
					t.Errorf("%v pushed by %v: %v", c.speed, c.push, got.Tumble.Beads[n])
				}
			}
		}
	}
}

func TestLightAndGravityAreCopied(t *testing.T) {
	for i, light := range goodColours() {
		s := someShow(allKinds[i%4], i%3)
		if got := checkDone(t, s, lightOf(light)); !sameColourBits(got.Light, light) {
			t.Errorf("the light %v is %v", light, got.Light)
		}
	}
	for i, z := range goodPoints() {
		s := someShow(allKinds[i%4], i%3)
		if got := checkDone(t, s, gravityOf(z)); !sameBits(got.Tumble.Gravity, z) {
			t.Errorf("the gravity %v is %v", z, got.Tumble.Gravity)
		}
	}
}

func TestChangedMirrorsLists(t *testing.T) {
	zero := minusZero()
	cases := []struct {
		from, to int
		b, want  impl.Bead
	}{
		// To more mirrors.
		{impl.MirrorNone, impl.MirrorLine, impl.Bead{At: -3 - 1i, Speed: 5 + 7i}, impl.Bead{At: -3 + 1i, Speed: 5 - 7i}},
		{impl.MirrorNone, impl.MirrorBoth, impl.Bead{At: -3 - 1i, Speed: 5 + 7i}, impl.Bead{At: 3 + 1i, Speed: -5 - 7i}},
		{impl.MirrorNone, impl.MirrorStar, impl.Bead{At: -3 + 1i, Speed: 5 + 7i}, impl.Bead{At: 3 + 1i, Speed: -5 + 7i}},
		{impl.MirrorLine, impl.MirrorStar, impl.Bead{At: -1 + 3i, Speed: 5 + 7i}, impl.Bead{At: 3 + 1i, Speed: 7 - 5i}},
		{impl.MirrorBoth, impl.MirrorStar, impl.Bead{At: 1 + 3i, Speed: 5 + 7i}, impl.Bead{At: 3 + 1i, Speed: 7 + 5i}},
		{impl.MirrorLine, impl.MirrorBoth, impl.Bead{At: -3, Speed: 5i}, impl.Bead{At: 3, Speed: -5i}},
		{impl.MirrorNone, impl.MirrorStar, impl.Bead{At: -4i, Speed: 1}, impl.Bead{At: 4, Speed: 1i}},
		{impl.MirrorNone, impl.MirrorStar, impl.Bead{At: -4096 - 4096i, Speed: -4096 - 4096i}, impl.Bead{At: 4096 + 4096i, Speed: 4096 + 4096i}},
		// To fewer, and to the same ones.
		{impl.MirrorStar, impl.MirrorNone, impl.Bead{At: 3 + 1i, Speed: -5 + 7i}, impl.Bead{At: 3 + 1i, Speed: -5 + 7i}},
		{impl.MirrorStar, impl.MirrorLine, impl.Bead{At: 3 + 3i, Speed: -5 - 7i}, impl.Bead{At: 3 + 3i, Speed: -5 - 7i}},
		{impl.MirrorBoth, impl.MirrorLine, impl.Bead{At: 3i, Speed: -5 - 7i}, impl.Bead{At: 3i, Speed: -5 - 7i}},
		{impl.MirrorStar, impl.MirrorStar, impl.Bead{At: 3 + 1i, Speed: -5 + 7i}, impl.Bead{At: 3 + 1i, Speed: -5 + 7i}},
		{impl.MirrorNone, impl.MirrorNone, impl.Bead{At: -3 - 1i, Speed: -5}, impl.Bead{At: -3 - 1i, Speed: -5}},
		// A fold by nothing still makes +0 of -0.
		{impl.MirrorStar, impl.MirrorStar, impl.Bead{At: complex(zero, zero), Speed: complex(zero, 1)}, impl.Bead{At: 0, Speed: 1i}},
		{impl.MirrorBoth, impl.MirrorNone, impl.Bead{At: complex(2, zero), Speed: complex(zero, zero)}, impl.Bead{At: 2, Speed: 0}},
	}
	for _, c := range cases {
		for n := range impl.MaxBeads {
			s := fullShow(c.from)
			s.Tumble = withBead(s.Tumble, n, c.b)
			got := checkDone(t, s, mirrorsOf(c.to))
			if got.Tumble.Mirrors != c.to || !sameBeadBits(got.Tumble.Beads[n], c.want) {
				t.Errorf("%v, from mirrors %d to %d: %v, want %v", c.b, c.from, c.to, got.Tumble.Beads[n], c.want)
			}
		}
	}
}

// Mirrors are changed from each kind to each while beads are moving, and then they move on.
func TestChangedMirrorsOfMovingBeads(t *testing.T) {
	for _, from := range allKinds {
		for _, to := range allKinds {
			for i, m := range append(calmTumbles(from), fullTumble(from)) {
				s := emptyShow(from, 2)
				s.Tumble, s.Shards = m, stackOf(len(m.Beads))
				if m.Gravity == impl.MaxReach {
					s.Tumble.Gravity = 0
				}
				s = checkDone(t, s, waitOf(1+i%5))
				changed := checkDone(t, s, mirrorsOf(to))
				for place, b := range changed.Tumble.Beads {
					if !standsInWedge(to, b.At) || from == to && !sameBeadBits(b, s.Tumble.Beads[place]) {
						t.Errorf("%v, from mirrors %d to %d: %v", s.Tumble.Beads[place], from, to, b)
					}
				}
				checkDone(t, changed, waitOf(3))
				checkDone(t, checkDone(t, changed, mirrorsOf(from)), waitOf(3))
			}
		}
	}
}

// The beads that are not at the given place stay in reach.
func TestWaitsThatOneBeadMakesImpossible(t *testing.T) {
	cases := []struct {
		at, speed complex64
		first     int // the first tick that is not possible
	}{
		{4096, 1, 1}, {4096 + 4096i, 1i, 1}, {2 + 1i, complex(0, 4095.5), 1}, {0, 2048.5, 2}, {0, complex(0, 1366), 3},
		{0, 250, 17}, {96 + 96i, 129 + 129i, 32}, {96 + 96i, 125 + 125i, 33}, {0, complex(noticed, 4096), 2},
	}
	for _, kind := range allKinds {
		for i, c := range cases {
			for place := range impl.MaxBeads {
				s := fullShow(kind)
				s.Tumble.Gravity, s.Tumble.Loss, s.Ticks = 0, 0, (i*place)%(impl.MaxTicks-impl.MaxWait)
				s.Tumble = withBead(s.Tumble, place, impl.Bead{At: c.at, Speed: c.speed})
				for _, n := range []int{1, c.first - 1, c.first, c.first + 1, impl.MaxWait} {
					switch {
					case n < 1 || n > impl.MaxWait:
					case n >= c.first:
						checkRefused(t, s, waitOf(n))
					default:
						checkDone(t, s, waitOf(n))
					}
				}
			}
		}
	}
}

// Gravity makes speeds, and then places, get out of reach after some ticks, which are more than were waited for at once.
func TestWaitsUnderGravity(t *testing.T) {
	for _, kind := range allKinds {
		for _, gravity := range []complex64{40, complex(300, 100), 4096, complex(0, 150.5), -2000i} {
			s := someShow(kind, 3)
			s.Tumble.Gravity = gravity
			for _, n := range []int{1, 2, 3, 7, 13, 14, 20, impl.MaxWait} {
				checkAsReckoned(t, s, waitOf(n))
			}
			for range 10 {
				checkAsReckoned(t, s, waitOf(4))
				s, _ = impl.DoEvent(s, waitOf(4))
			}
		}
	}
}

func TestWaitsUpToMaxTicks(t *testing.T) {
	for n := 1; n <= impl.MaxWait; n++ {
		for _, kind := range allKinds {
			for _, count := range []int{0, 1, impl.MaxBeads} {
				s := someShow(kind, count)
				s.Tumble.Gravity = 0
				s.Ticks = impl.MaxTicks - n
				if got := checkDone(t, s, waitOf(n)); got.Ticks != impl.MaxTicks {
					t.Errorf("%d ticks after %d: %d", n, s.Ticks, got.Ticks)
				}
				s.Ticks++
				checkRefused(t, s, waitOf(n))
				s.Ticks = impl.MaxTicks
				checkRefused(t, s, waitOf(n))
			}
		}
	}
}

func TestFullLogsRefuseEverything(t *testing.T) {
	for _, kind := range allKinds {
		for _, count := range []int{0, 2, 3, impl.MaxBeads} {
			s := someShow(kind, count)
			for _, e := range append(plainEvents(), minusEvents()...) {
				s.Log = slices.Repeat(plainEvents(), 4)[:impl.MaxEvents-1]
				checkAsReckoned(t, s, e)
				s.Log = slices.Repeat(plainEvents(), 4)[:impl.MaxEvents]
				checkRefused(t, s, e)
			}
		}
	}
}

func TestInvalidEventsAndShows(t *testing.T) {
	for i, e := range badEvents() {
		checkRefused(t, emptyShow(allKinds[i%4], 2), e)
		checkRefused(t, someShow(allKinds[i%4], 2), e)
		checkRefused(t, minusShow(allKinds[i%4]), e)
	}
	events := plainEvents()
	for i, s := range badShows() {
		checkRefused(t, s, events[i%len(events)])
		checkRefused(t, s, events[(i/7+i)%len(events)])
		checkRefused(t, s, badEvents()[i%40])
	}
}
