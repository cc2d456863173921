package tests

import (
	"slices"
	"testing"

	"loop.example/g03020/impl"
)

// dice are rolled the same way in each run of the tests.
type dice struct {
	state uint64
}

func (d *dice) roll(sides int) int {
	d.state = d.state*6364136223846793005 + 1442695040888963407
	return int(d.state>>33) % sides
}

func pick[Value any](d *dice, values []Value) Value {
	return values[d.roll(len(values))]
}

// startShow is where every replay begins.
func startShow(size int, step float32) impl.Show {
	return impl.Show{Size: size, Step: step}
}

// tourShards are seen near the middle, and are rounded when they are moved.
func tourShards() []impl.Shard {
	l := append(placeShards(5, 0.7), stackOf(impl.MaxBeads)...)
	for i, a := range goodColours() {
		l[i%len(l)].Tint = a
	}
	return l
}

// tourPoints are places and pushes that leave beads in reach, and bring them there over mirrors.
func tourPoints() []complex64 {
	zero := minusZero()
	return slices.Concat(gridPoints(2), []complex64{
		complex(0.1, -0.7), complex(-1.0/3, 2.0/3), complex(-2.9, zero), complex(zero, zero), complex(tiny, -tiny), complex(-0.3, -0.3),
	})
}

// tourOf has as many events as a log may have, of every kind, none of which is refused.
func tourOf(kind int, seed int) []impl.Event {
	d := &dice{state: uint64(seed*4 + kind)}
	shards, points, lights, gravities := tourShards(), tourPoints(), goodColours(), gentleGravities()
	add := func() impl.Event { return addOf(pick(d, shards), pick(d, points)) }
	push := func(n int) impl.Event { return pushOf(n, pick(d, points)) }
	light := func() impl.Event { return lightOf(pick(d, lights)) }
	return []impl.Event{
		light(), mirrorsOf(kind), add(), add(), gravityOf(pick(d, gravities)), push(0), push(1), waitOf(3),
		add(), push(2), waitOf(1 + d.roll(9)), mirrorsOf(d.roll(4)), takeOf(d.roll(3)), waitOf(impl.MaxWait), light(), add(),
		mirrorsOf(d.roll(4)), push(2), gravityOf(pick(d, gravities)), mirrorsOf(kind), waitOf(1 + d.roll(20)), push(0), takeOf(d.roll(3)), waitOf(2),
	}
}

// rashEvent is a valid event, of which many are refused.
func rashEvent(d *dice) impl.Event {
	points := slices.Concat(tourPoints(), tourPoints(), roughPoints())
	switch pick(d, append(allEventKinds, impl.EvAdd, impl.EvPush, impl.EvWait)) {
	case impl.EvAdd:
		return addOf(pick(d, tourShards()), pick(d, points))
	case impl.EvTake:
		return takeOf(d.roll(impl.MaxBeads))
	case impl.EvLight:
		return lightOf(pick(d, goodColours()))
	case impl.EvMirrors:
		return mirrorsOf(d.roll(4))
	case impl.EvGravity:
		return gravityOf(pick(d, gentleGravities()))
	case impl.EvPush:
		return pushOf(d.roll(4), pick(d, points))
	}
	return waitOf(1 + d.roll(impl.MaxWait))
}

// checkShowRun checks what a list of events that are all done makes of a show, at once and cut anywhere.
func checkShowRun(t *testing.T, s impl.Show, l []impl.Event, want impl.Show) {
	t.Helper()
	if got, done := impl.RunShow(s, l); done != len(l) || !sameShowBits(got, want) {
		t.Fatalf("RunShow(%v, %v) = %v, %d, want %v", s, l, got, done, want)
	}
	for cut := range len(l) + 1 {
		first, done := impl.RunShow(s, l[:cut])
		second, others := impl.RunShow(first, l[cut:])
		if done != cut || others != len(l)-cut || !sameShowBits(second, want) {
			t.Errorf("RunShow(%v, %v), cut at %d: %v, %d and %d, want %v", s, l, cut, second, done, others, want)
		}
	}
}

// checkReplay checks that a show is replayed to the last bit.
func checkReplay(t *testing.T, s impl.Show) {
	t.Helper()
	if got, ok := impl.ReplayShow(s); !ok || !sameShowBits(got, s) || !impl.SameShow(got, s) {
		t.Errorf("ReplayShow(%v) = %v, %v", s, got, ok)
	}
}

func TestShowsAreReplayedToTheLastBit(t *testing.T) {
	for _, kind := range allKinds {
		for _, size := range allSizes() {
			step := goodSteps()[(size+kind)%len(goodSteps())]
			start, tour := startShow(size, step), tourOf(kind, size)
			s := start
			checkReplay(t, s)
			for i, e := range tour {
				s = checkDone(t, s, e)
				if len(s.Log) != i+1 || s.Size != size || !sameFloat(s.Step, step) {
					t.Errorf("after %d events: %v", i+1, s)
				}
				checkReplay(t, s)
			}
			if !slices.EqualFunc(s.Log, tour, sameEventBits) {
				t.Errorf("the log of %v is %v", tour, s.Log)
			}
			checkShowRun(t, start, tour, s)
		}
	}
}

// Of the events of a rash list, those that are refused leave the show and its log as they are, and the log holds the others.
func TestRashShowsAreReplayedToTheLastBit(t *testing.T) {
	done, refused := map[int]int{}, map[int]int{}
	for seed := range 60 {
		d := &dice{state: uint64(seed)}
		start := startShow(1+d.roll(impl.MaxSize), pick(d, goodSteps()))
		s := start
		for range 40 {
			e := rashEvent(d)
			want, ok := wantDone(s, e)
			if !ok {
				refused[e.Kind]++
				checkRefused(t, s, e)
				continue
			}
			done[e.Kind]++
			got, is := impl.DoEvent(s, e)
			if !is || !sameShowBits(got, want) {
				t.Fatalf("DoEvent(%v, %v) = %v, %v, want %v", s, e, got, is, want)
			}
			s = got
		}
		checkReplay(t, s)
		checkShowRun(t, start, s.Log, s)
	}
	for _, kind := range allEventKinds {
		if done[kind] == 0 || refused[kind] == 0 {
			t.Errorf("of kind %d, %d events are done and %d refused", kind, done[kind], refused[kind])
		}
	}
}

// Shows that begin between mirrors, and with light, are replayed if their log says so.
func TestShowsFromNewShowAndFromTheirLog(t *testing.T) {
	for _, kind := range allKinds {
		for i, light := range goodColours() {
			start, ok := impl.NewShow(kind, 1+i%impl.MaxSize, goodSteps()[i%len(goodSteps())], light)
			tour := tourOf(kind, i)
			tour[0], tour[1] = lightOf(light), mirrorsOf(kind)
			s, done := impl.RunShow(start, tour)
			if !ok || done != len(tour) {
				t.Fatalf("RunShow(%v, %v) does %d", start, tour, done)
			}
			checkReplay(t, s)
			told, done := impl.RunShow(start, tour[2:])
			again, is := impl.RunShow(startShow(start.Size, start.Step), tour)
			if done != len(tour)-2 || is != len(tour) || !sameShowBits(again, s) {
				t.Errorf("from nothing: %v, %d, want %v", again, is, s)
			}
			told.Log = slices.Clone(tour)
			if !sameShowBits(told, s) {
				t.Errorf("without the first two events: %v, want %v", told, s)
			}
		}
	}
}

// What is replayed is the log, whatever else is in the show.
func TestShowsThatDoNotComeFromTheirLogs(t *testing.T) {
	for _, kind := range allKinds {
		for _, size := range allSizes() {
			s, _ := impl.RunShow(startShow(size, 0.5), tourOf(kind, size)[:6+size])
			var others []impl.Show
			add := func(change func(other *impl.Show)) {
				other := s
				other.Tumble.Beads = slices.Clone(s.Tumble.Beads)
				change(&other)
				others = append(others, other)
			}
			add(func(other *impl.Show) { other.Light = impl.Colour{R: 0.123} })
			add(func(other *impl.Show) { other.Ticks += 7 })
			add(func(other *impl.Show) { other.Shards = stackOf(len(s.Shards)) })
			add(func(other *impl.Show) { other.Shards, other.Tumble.Beads = nil, nil })
			add(func(other *impl.Show) { other.Tumble = impl.Tumble{Mirrors: (kind + 1) % 4}; other.Shards = nil })
			add(func(other *impl.Show) { other.Tumble.Gravity = 77 })
			add(func(other *impl.Show) { other.Tumble.Loss = 0.5 })
			add(func(other *impl.Show) { other.Tumble.Beads[0].Speed = 99 - 1i })
			add(func(other *impl.Show) { other.Tumble.Beads[0].At = 77 + 1i })
			for _, other := range others {
				if got, ok := impl.ReplayShow(other); !ok || !sameShowBits(got, s) || impl.SameShow(got, other) {
					t.Errorf("ReplayShow(%v) = %v, %v, want %v", other, got, ok, s)
				}
			}
			none := s
			none.Log = nil
			if got, ok := impl.ReplayShow(none); !ok || !sameShowBits(got, startShow(size, 0.5)) {
				t.Errorf("ReplayShow(%v) = %v, %v", none, got, ok)
			}
		}
	}
	for _, s := range goodShows() {
		want, done := impl.RunShow(startShow(s.Size, s.Step), s.Log)
		got, ok := impl.ReplayShow(s)
		if done < len(s.Log) {
			want = impl.Show{}
		}
		if ok != (done == len(s.Log)) || !sameShowBits(got, want) {
			t.Errorf("ReplayShow(%v) = %v, %v, want %v", s, got, ok, want)
		}
	}
}

// Each of these events is valid, but refused where it stands in the log: at its beginning, in its middle and at its end.
func TestLogsThatAreRefused(t *testing.T) {
	add := addOf(paneOf(0, 1, 1i), 2+1i)
	logs := [][]impl.Event{
		{takeOf(0)}, {pushOf(0, 0)}, {add, takeOf(1)}, {add, pushOf(3, 1), lightOf(white)}, {add, takeOf(0), takeOf(0)},
		{add, pushOf(0, 4096), pushOf(0, 4096)}, {add, pushOf(0, 4096), waitOf(1), waitOf(1)}, {add, gravityOf(4096), waitOf(2), takeOf(0)},
		{mirrorsOf(1), pushOf(7, 0), mirrorsOf(0)},
		slices.Repeat([]impl.Event{add}, impl.MaxBeads+1),
		slices.Repeat([]impl.Event{waitOf(impl.MaxWait)}, 1+impl.MaxTicks/impl.MaxWait),
	}
	for _, log := range logs {
		for _, kind := range allKinds {
			s := fullShow(kind)
			s.Log = log
			if got, ok := impl.ReplayShow(s); ok || !isPlainShow(got) || !impl.IsShow(s) {
				t.Errorf("ReplayShow(%v) = %v, %v", s, got, ok)
			}
		}
	}
}

func TestReplayOfInvalidShows(t *testing.T) {
	for _, s := range badShows() {
		if got, ok := impl.ReplayShow(s); ok || !isPlainShow(got) {
			t.Errorf("ReplayShow(%v) = %v, %v", s, got, ok)
		}
	}
}

// Nothing is done from the first event on that is refused or not valid, not even what could be done without it.
func TestRunShowStopsAtTheFirstRefusedEvent(t *testing.T) {
	for _, kind := range allKinds {
		tour := tourOf(kind, 99)[:impl.MaxEvents-2]
		bars := []impl.Event{takeOf(impl.MaxBeads - 1), pushOf(5, 1), {}, badEvents()[0], waitOf(impl.MaxWait + 1), mirrorsOf(-1)}
		s := startShow(4, 1)
		for done := range len(tour) + 1 {
			for _, bar := range bars {
				l := slices.Insert(slices.Clone(tour), done, bar)
				if got, n := impl.RunShow(startShow(4, 1), l); n != done || !sameShowBits(got, s) {
					t.Errorf("RunShow with %v: %v, %d, want %v, %d", l, got, n, s, done)
				}
			}
			if done < len(tour) {
				s = checkDone(t, s, tour[done])
			}
		}
	}
}

func TestRunShowFillsTheLog(t *testing.T) {
	for _, kind := range allKinds {
		for logged := range impl.MaxEvents + 1 {
			s := emptyShow(kind, 2)
			s.Log = slices.Repeat([]impl.Event{lightOf(white)}, logged)
			l := slices.Repeat([]impl.Event{gravityOf(1), gravityOf(2i)}, impl.MaxEvents)
			want := s
			want.Log = slices.Concat(s.Log, l)[:impl.MaxEvents]
			if logged < impl.MaxEvents {
				want.Tumble.Gravity = []complex64{2i, 1}[(impl.MaxEvents-logged)%2]
			}
			if got, done := impl.RunShow(s, l); done != impl.MaxEvents-logged || !sameShowBits(got, want) {
				t.Errorf("RunShow(%v, %v) = %v, %d, want %v", s, l, got, done, want)
			}
		}
	}
}

func TestRunShowOfNoEventsAndOfInvalid(t *testing.T) {
	for _, s := range append(goodShows(), badShows()...) {
		for _, l := range [][]impl.Event{nil, {}} {
			if got, done := impl.RunShow(s, l); done != 0 || !sameShowBits(got, s) {
				t.Errorf("RunShow(%v, %v) = %v, %d", s, l, got, done)
			}
		}
	}
	for _, s := range badShows() {
		if got, done := impl.RunShow(s, plainEvents()); done != 0 || !sameShowBits(got, s) {
			t.Errorf("RunShow(%v) = %v, %d", s, got, done)
		}
	}
}

// Without shards there is nothing that could not be waited for but for MaxTicks.
func TestShowsWithoutShards(t *testing.T) {
	for _, kind := range allKinds {
		l := []impl.Event{gravityOf(4096 - 4096i), mirrorsOf(kind), lightOf(white)}
		l = append(l, slices.Repeat([]impl.Event{waitOf(impl.MaxWait)}, impl.MaxTicks/impl.MaxWait)...)
		l = append(l, waitOf(impl.MaxTicks%impl.MaxWait), mirrorsOf(kind))
		s, done := impl.RunShow(startShow(3, 1), l)
		want := impl.Show{Size: 3, Step: 1, Light: white, Tumble: impl.Tumble{Mirrors: kind, Gravity: 4096 - 4096i}, Ticks: impl.MaxTicks, Log: l}
		if done != len(l) || !sameShowBits(s, want) {
			t.Errorf("RunShow of %v = %v, %d", l, s, done)
		}
		checkReplay(t, s)
		for _, e := range []impl.Event{waitOf(1), waitOf(impl.MaxWait), takeOf(0), pushOf(0, 0)} {
			checkRefused(t, s, e)
		}
	}
}

var (
	strayShard = impl.Shard{A: 77, Clear: 0.77}
	strayBead  = impl.Bead{At: 77, Speed: -77}
	strayEvent = impl.Event{Kind: 77, N: -77}
)

// roomyShow has the lists of a show, and something behind them that nobody may change.
func roomyShow(s impl.Show) impl.Show {
	s.Shards = append(slices.Clone(s.Shards), slices.Repeat([]impl.Shard{strayShard}, 5)...)[:len(s.Shards)]
	s.Tumble = roomyTumble(s.Tumble)
	s.Log = append(slices.Clone(s.Log), slices.Repeat([]impl.Event{strayEvent}, 5)...)[:len(s.Log)]
	return s
}

// checkUntouched checks a roomyShow of a show, and what is behind its lists.
func checkUntouched(t *testing.T, given impl.Show, s impl.Show) {
	t.Helper()
	shards, beads, log := len(s.Shards), len(s.Tumble.Beads), len(s.Log)
	if !sameShowBits(given, s) {
		t.Errorf("a show is changed: %v, %v", given, s)
	}
	for i := range 5 {
		if !sameShardBits(given.Shards[:shards+5][shards+i], strayShard) || !sameEventBits(given.Log[:log+5][log+i], strayEvent) {
			t.Errorf("the spare capacity behind the shards or the log of %v is written to", s)
		}
	}
	for i := range 4 {
		if !sameBeadBits(given.Tumble.Beads[:beads+4][beads+i], strayBead) {
			t.Errorf("the spare capacity behind the beads of %v is written to", s)
		}
	}
}

// overwrite writes to all the memory that the lists of a show have.
func overwrite(s impl.Show) {
	for i := range s.Shards[:cap(s.Shards)] {
		s.Shards[:cap(s.Shards)][i] = impl.Shard{A: 0.123}
	}
	for i := range s.Tumble.Beads[:cap(s.Tumble.Beads)] {
		s.Tumble.Beads[:cap(s.Tumble.Beads)][i] = impl.Bead{At: 0.123}
	}
	for i := range s.Log[:cap(s.Log)] {
		s.Log[:cap(s.Log)][i] = impl.Event{Kind: 123}
	}
}

// memoryShows are shows that are valid and that are not, and some that are replayed.
func memoryShows() []impl.Show {
	shows := append(badShows()[:200:200], badShows()[len(badShows())-200:]...)
	for _, kind := range allKinds {
		tour := tourOf(kind, 7)
		for _, done := range []int{0, 3, 12, len(tour)} {
			s, _ := impl.RunShow(startShow(2, 1), tour[:done])
			shows = append(shows, s)
		}
		shows = append(shows, emptyShow(kind, 1), someShow(kind, 3), fullShow(kind), minusShow(kind))
	}
	return shows
}

func TestShowsShareNoMemoryWithResults(t *testing.T) {
	for _, s := range memoryShows() {
		given := roomyShow(s)
		var results []impl.Show
		events := append(plainEvents(), takeOf(0), pushOf(0, 4096), waitOf(impl.MaxWait), takeOf(impl.MaxBeads-1), impl.Event{})
		for _, e := range events {
			after, _ := impl.DoEvent(given, e)
			run, _ := impl.RunShow(given, []impl.Event{e, e})
			results = append(results, after, run)
		}
		run, _ := impl.RunShow(given, nil)
		replayed, _ := impl.ReplayShow(given)
		impl.IsShow(given)
		impl.SameShow(given, s)
		impl.SameShow(s, given)
		if p, ok := impl.SeenIn(given); ok {
			p.Cells[0] = amber
		}
		for _, question := range append(questions, "") {
			for i := range impl.AskShow(given, question) {
				impl.AskShow(given, question)[i] = "?"
			}
		}
		checkUntouched(t, given, s)
		for _, result := range append(results, run, replayed) {
			overwrite(result)
		}
		checkUntouched(t, given, s)
	}
}

func TestListsOfEventsAreLeftAsTheyAre(t *testing.T) {
	for _, kind := range allKinds {
		tour := tourOf(kind, 3)
		l := append(slices.Clone(tour), slices.Repeat([]impl.Event{strayEvent}, 5)...)[:len(tour)]
		for _, start := range []impl.Show{startShow(2, 1), emptyShow(kind, 1), fullShow(kind), {}} {
			run, _ := impl.RunShow(start, l)
			again, _ := impl.RunShow(start, l[:3])
			overwrite(run)
			overwrite(again)
		}
		if !slices.EqualFunc(l, tour, sameEventBits) || slices.ContainsFunc(l[len(l):len(l)+5], func(e impl.Event) bool { return e != strayEvent }) {
			t.Errorf("the events are changed: %v, %v", l, tour)
		}
	}
}

// Several shows that go on from the same one do not get in each other's way.
func TestShowsThatPart(t *testing.T) {
	for _, kind := range allKinds {
		s, _ := impl.RunShow(startShow(3, 1), tourOf(kind, 5)[:6])
		var wants, gots []impl.Show
		for _, e := range plainEvents() {
			wants = append(wants, checkDone(t, checkDone(t, s, e), lightOf(white)))
		}
		for _, e := range plainEvents() {
			first, _ := impl.DoEvent(s, e)
			second, _ := impl.DoEvent(first, lightOf(white))
			impl.DoEvent(first, addOf(strayShard, 1))
			impl.RunShow(first, []impl.Event{takeOf(0), takeOf(0), mirrorsOf(impl.MirrorStar)})
			gots = append(gots, second)
		}
		for i, want := range wants {
			if !sameShowBits(gots[i], want) {
				t.Errorf("%v, gone on by %v: %v, want %v", s, plainEvents()[i], gots[i], want)
			}
		}
	}
}
