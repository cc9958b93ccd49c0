package tests

import (
	"fmt"
	"math"
	"slices"
	"testing"

	"loop.example/g00900/impl"
)

// ladder9 has journeys from stop 0 to stop 7 with 1, 2, 3 and 4 legs, all of which depart at 600
// and bear a change of 2 minutes. They arrive at these times, or do not exist where it is 0.
func ladder9(arrivals [4]int) impl.Timetable {
	end := func(i int, at int) []int {
		if arrivals[i] == 0 {
			return []int{1, 6}
		}
		return []int{arrivals[i] - at, 7}
	}
	lines := [][]int{
		append([]int{0, 10, 1, 10, 2}, end(0, 620)...),
		append([]int{1}, end(1, 615)...),
		{2, 5, 3},
		append([]int{3, 6, 4}, end(2, 635)...),
		append([]int{4}, end(3, 637)...),
	}
	return plan8(lines, [3]int{1, 0, 600}, [3]int{2, 1, 615}, [3]int{3, 2, 622}, [3]int{4, 3, 629}, [3]int{5, 4, 637})
}

// ladderJourneys9 returns the four journeys of ladder9.
func ladderJourneys9(t impl.Timetable) [][]impl.Leg {
	return [][]impl.Leg{
		rides8(t, [3]int{1, 0, 7}),
		rides8(t, [3]int{1, 0, 1}, [3]int{2, 1, 7}),
		rides8(t, [3]int{1, 0, 2}, [3]int{3, 2, 3}, [3]int{4, 3, 7}),
		rides8(t, [3]int{1, 0, 2}, [3]int{3, 2, 3}, [3]int{4, 3, 4}, [3]int{5, 4, 7}),
	}
}

// ladders9 calls see for many ladders with the arrivals that are earlier than with fewer legs,
// 0 for the others.
func ladders9(see func(arrivals [4]int, earlier [4]int)) {
	values := []int{0, 646, 647, 648}
	for i := range 256 {
		arrivals := [4]int{values[i%4], values[i/4%4], values[i/16%4], values[i/64]}
		earlier, best := [4]int{}, math.MaxInt
		for k, arrival := range arrivals {
			if arrival > 0 && arrival < best {
				earlier[k], best = arrival, arrival
			}
		}
		see(arrivals, earlier)
	}
}

// shuttles9 has three lines from stop 0 to stop 1 that take 30, 20 and 10 minutes, and lines of
// 5 minutes from stop 0 to 2 and from there to 1. Its trips are written as line and Start.
func shuttles9(trips ...[2]int) impl.Timetable {
	t := plan8([][]int{{0, 30, 1}, {0, 20, 1}, {0, 10, 1}, {0, 5, 2}, {2, 5, 1}})
	for i, x := range trips {
		t.Trips = append(t.Trips, impl.Trip{Id: i + 1, Line: x[0], Start: x[1]})
	}
	return t
}

// choices9 returns choices with these values of Depart, Arrive and Legs.
func choices9(values ...int) []impl.Choice {
	list := []impl.Choice{}
	for i := 0; i < len(values); i += 3 {
		list = append(list, impl.Choice{Depart: values[i], Arrive: values[i+1], Legs: values[i+2]})
	}
	return list
}

// race9 returns a network with a slow line from stop 0 to stop 5 and with shorter lines between
// its stops, most of which are faster.
func (r *random2) race9() impl.Network {
	n := impl.Network{Stops: stops2(6), Lines: []impl.Line{{Name: "slow", Stops: []int{0, 1, 2, 3, 4, 5}}}}
	for range 5 {
		n.Lines[0].Runs = append(n.Lines[0].Runs, 4+r.below(6))
	}
	for i := range impl.MaxLines - 1 {
		from := r.below(5)
		to := from + 1 + r.below(min(3, 5-from))
		n.Lines = append(n.Lines, impl.Line{Name: fmt.Sprint("fast", i), Stops: []int{from, to}, Runs: []int{(to - from) * (1 + r.below(5))}})
	}
	return n
}

// samples9 returns the timetables of samples8 and as many races.
func samples9(count int) []sample8 {
	list := samples8(count)
	r := random2(9)
	for range count {
		change := []int{0, 1, 2, 5}[r.below(4)]
		list = append(list, sample8{r.linkedFrom8(r.race9(), 600, change), change})
	}
	return list
}

// sameJourneys9 reports whether two lists of journeys are equal.
func sameJourneys9(a [][]impl.Leg, b [][]impl.Leg) bool {
	return slices.EqualFunc(a, b, func(a []impl.Leg, b []impl.Leg) bool { return slices.Equal(a, b) })
}

// firsts9 are, for a stop from which and one to which journeys lead and for every Choice, the
// first journey that has it.
type firsts9 map[[2]int]map[impl.Choice][]impl.Leg

// firstsOf9 returns the first ones of all journeys.
func firstsOf9(t impl.Timetable, change int) firsts9 {
	firsts := firsts9{}
	allJourneys8(t, change, func(journey []impl.Leg) {
		last := journey[len(journey)-1]
		ends := [2]int{journey[0].From, last.To}
		choice := impl.Choice{Depart: journey[0].Depart, Arrive: last.Arrive, Legs: len(journey)}
		if firsts[ends] == nil {
			firsts[ends] = map[impl.Choice][]impl.Leg{}
		}
		old := firsts[ends][choice]
		if old == nil || slices.Compare(key8(journey), key8(old)) < 0 {
			firsts[ends][choice] = journey
		}
	})
	return firsts
}

// pareto returns what ParetoJourneys should.
func (f firsts9) pareto(from int, to int, at int) [][]impl.Leg {
	var list [][]impl.Leg
	for count := 1; count <= 4; count++ {
		var first []impl.Leg
		for choice, journey := range f[[2]int{from, to}] {
			if choice.Depart >= at && choice.Legs <= count && (first == nil || slices.Compare(key8(journey), key8(first)) < 0) {
				first = journey
			}
		}
		// With at most this number of legs one may arrive no earlier than with fewer.
		if first != nil && (len(list) == 0 || key8(first)[0] < key8(list[len(list)-1])[0]) {
			list = append(list, first)
		}
	}
	return list
}

// better9 reports whether a journey with the Choice a is better than one with the Choice b.
func better9(a impl.Choice, b impl.Choice) bool {
	if a.Depart < b.Depart || a.Arrive > b.Arrive || a.Legs > b.Legs {
		return false
	}
	return a.Depart > b.Depart || a.Arrive < b.Arrive || a.Legs < b.Legs
}

// profile returns what TravelProfile should.
func (f firsts9) profile(from int, to int) []impl.Choice {
	var list []impl.Choice
	for choice := range f[[2]int{from, to}] {
		beaten := false
		for other := range f[[2]int{from, to}] {
			beaten = beaten || better9(other, choice)
		}
		if !beaten {
			list = append(list, choice)
		}
	}
	slices.SortFunc(list, func(a impl.Choice, b impl.Choice) int {
		return slices.Compare([]int{a.Depart, a.Legs}, []int{b.Depart, b.Legs})
	})
	return list
}

// cheapest9 returns what BestByCost should with this profile.
func cheapest9(profile []impl.Choice, at int, perLeg int) (impl.Choice, int, bool) {
	best, cost, ok := impl.Choice{}, 0, false
	for i := len(profile) - 1; i >= 0; i-- {
		c := profile[i]
		sum := c.Arrive - at
		for range c.Legs {
			sum += perLeg
		}
		if c.Depart >= at && (!ok || sum <= cost) {
			best, cost, ok = c, sum, true
		}
	}
	return best, cost, ok
}

// fastest9 returns what FastestChoice should with this profile.
func fastest9(profile []impl.Choice) (impl.Choice, bool) {
	for minutes := range impl.MaxTime + 1 {
		for _, c := range profile {
			if c.Arrive-c.Depart == minutes {
				return c, true
			}
		}
	}
	return impl.Choice{}, false
}

// waiting9 returns what WaitingMinutes should with this profile.
func waiting9(profile []impl.Choice, span impl.Span) (int, bool) {
	sum := 0
	for at := span.From; at < span.To; at++ {
		least := math.MaxInt
		for _, c := range profile {
			if c.Depart >= at {
				least = min(least, c.Depart-at)
			}
		}
		if least == math.MaxInt {
			return 0, false
		}
		sum += least
	}
	return sum, true
}

// checkProfile9 compares TravelProfile and all that follows from it.
func checkProfile9(t *testing.T, about string, x impl.Timetable, change int, from int, to int, want []impl.Choice) {
	t.Helper()
	if l, ok := impl.TravelProfile(x, change, from, to); !ok || !slices.Equal(l, want) {
		t.Fatal(about, "TravelProfile", l, ok, "and not", want)
	}
	fastest, wantOk := fastest9(want)
	if c, ok := impl.FastestChoice(x, change, from, to); ok != wantOk || c != fastest {
		t.Fatal(about, "FastestChoice", c, ok, "and not", fastest, wantOk)
	}
	ats := []int{0, impl.MaxTime}
	for _, c := range want {
		ats = append(ats, max(c.Depart-1, 0), c.Depart, c.Depart+1)
	}
	for i, at := range ats {
		for _, perLeg := range []int{0, 1, 5, 100} {
			best, cost, wantOk := cheapest9(want, at, perLeg)
			if c, n, ok := impl.BestByCost(x, change, from, to, at, perLeg); ok != wantOk || c != best || n != cost {
				t.Fatal(about, "BestByCost at", at, "with", perLeg, c, n, ok, "and not", best, cost, wantOk)
			}
		}
		for _, end := range []int{at, at + 1, at + 2 + i*i%90} {
			if span := (impl.Span{From: at, To: end}); end >= at && end <= impl.MaxTime {
				sum, wantOk := waiting9(want, span)
				if n, ok := impl.WaitingMinutes(x, change, from, to, span); ok != wantOk || n != sum {
					t.Fatal(about, "WaitingMinutes in", span, n, ok, "and not", sum, wantOk)
				}
			}
		}
	}
}

// checkFails9 calls the functions that take stops with arguments of which at least one is
// invalid, whatever the time and the span are.
func checkFails9(t *testing.T, about string, x impl.Timetable, change int, from int, to int) {
	t.Helper()
	if l, ok := impl.TravelProfile(x, change, from, to); ok || len(l) != 0 {
		t.Error(about, "TravelProfile", l, ok)
	}
	if c, ok := impl.FastestChoice(x, change, from, to); ok || c != (impl.Choice{}) {
		t.Error(about, "FastestChoice", c, ok)
	}
	for _, at := range []int{0, 360, impl.MaxTime} {
		if l, ok := impl.ParetoJourneys(x, change, from, to, at); ok || len(l) != 0 {
			t.Error(about, "ParetoJourneys at", at, l, ok)
		}
		for _, perLeg := range []int{0, 7, 100} {
			if c, n, ok := impl.BestByCost(x, change, from, to, at, perLeg); ok || c != (impl.Choice{}) || n != 0 {
				t.Error(about, "BestByCost at", at, "with", perLeg, c, n, ok)
			}
		}
	}
	for _, span := range spans4(0, 0, 0, 1, 350, 360, 360, 360, 1799, 1799) {
		if n, ok := impl.WaitingMinutes(x, change, from, to, span); ok || n != 0 {
			t.Error(about, "WaitingMinutes in", span, n, ok)
		}
	}
}

// checkNoLegs9 calls the functions that take legs with a timetable, a change and legs that are
// not a journey.
func checkNoLegs9(t *testing.T, about string, x impl.Timetable, change int, legs []impl.Leg) {
	t.Helper()
	ids := []int{1, 2, 4}
	for _, trip := range x.Trips {
		ids = append(ids, trip.Id)
	}
	for _, id := range ids {
		for _, minutes := range []int{0, 1, 240} {
			if yes, ok := impl.SurvivesDelay(x, change, legs, id, minutes); ok || yes {
				t.Error(about, "SurvivesDelay of", id, "by", minutes, yes, ok)
			}
		}
	}
	if l, ok := impl.SlackOf(x, change, legs); ok || len(l) != 0 {
		t.Error(about, "SlackOf", l, ok)
	}
	for i := -1; i <= min(len(legs), 6); i++ {
		if a, ok := impl.AfterMissing(x, change, legs, i); ok || a != 0 {
			t.Error(about, "AfterMissing of", i, a, ok)
		}
	}
}

func TestInvalidTimetablesHaveNoChoices(t *testing.T) {
	for _, c := range validities5() {
		if c.valid {
			continue
		}
		checkFails9(t, c.about, c.t, 0, 0, 1)
		checkFails9(t, c.about, c.t, 3, 1, 2)
		checkFails9(t, c.about, c.t, 0, 0, 0)
		checkNoLegs9(t, c.about, c.t, 0, nil)
		checkNoLegs9(t, c.about, c.t, 0, []impl.Leg{{Trip: 2, From: 0, To: 1, Depart: 360, Arrive: 365}})
	}
	// Without the trip that makes it invalid, there would be a journey.
	x := chain8()
	legs := rides8(x, [3]int{1, 0, 1}, [3]int{2, 1, 2})
	x.Trips = append(x.Trips, impl.Trip{Id: 6, Line: 5, Start: 360})
	checkFails9(t, "a line that does not exist", x, 0, 0, 1)
	checkNoLegs9(t, "a line that does not exist", x, 0, legs)
}

func TestChoicesWithChangesOutOfRange(t *testing.T) {
	x := chain8()
	for _, change := range noChanges8 {
		about := fmt.Sprint("with the change ", change)
		checkFails9(t, about, x, change, 0, 1)
		checkFails9(t, about, x, change, 0, 2)
		checkNoLegs9(t, about, x, change, rides8(x, [3]int{1, 0, 1}))
		checkNoLegs9(t, about, x, change, rides8(x, [3]int{1, 0, 1}, [3]int{2, 1, 2}))
	}
}

func TestChoicesOfStopsThatDoNotExistOrAreEqual(t *testing.T) {
	for _, x := range []impl.Timetable{chain8(), town8(), plan8([][]int{{0, 5, 1}})} {
		for _, stop := range noStops8 {
			about := fmt.Sprint("stop ", stop)
			checkFails9(t, about, x, 0, stop, 1)
			checkFails9(t, about, x, 0, 0, stop)
			checkFails9(t, about, x, 0, stop, stop)
		}
		// In a town, one comes back to stop 0 with trip 9.
		for stop := range impl.MaxStops {
			checkFails9(t, "equal stops", x, 0, stop, stop)
		}
	}
}

func TestChoicesAtNoTimes(t *testing.T) {
	x := chain8()
	for _, at := range noTimes8 {
		if l, ok := impl.ParetoJourneys(x, 0, 0, 1, at); ok || len(l) != 0 {
			t.Error("ParetoJourneys at", at, l, ok)
		}
		if c, n, ok := impl.BestByCost(x, 0, 0, 1, at, 5); ok || c != (impl.Choice{}) || n != 0 {
			t.Error("BestByCost at", at, c, n, ok)
		}
	}
	for _, span := range noSpans4() {
		if n, ok := impl.WaitingMinutes(x, 0, 0, 1, span); ok || n != 0 {
			t.Error("WaitingMinutes in", span, n, ok)
		}
	}
}

func TestParetoJourneysOfLadders(t *testing.T) {
	sizes := map[int]int{}
	ladders9(func(arrivals [4]int, earlier [4]int) {
		x := ladder9(arrivals)
		want := [][]impl.Leg{}
		for k, journey := range ladderJourneys9(x) {
			if earlier[k] > 0 {
				want = append(want, journey)
			}
		}
		sizes[len(want)]++
		for _, at := range []int{0, 599, 600} {
			if l, ok := impl.ParetoJourneys(x, 2, 0, 7, at); !ok || !sameJourneys9(l, want) {
				t.Fatal("arrivals", arrivals, "at", at, l, ok, "and not", want)
			}
		}
		if l, ok := impl.ParetoJourneys(x, 2, 0, 7, 601); !ok || len(l) != 0 {
			t.Fatal("arrivals", arrivals, "one minute late", l, ok)
		}
	})
	// Four legs need one more value than there are.
	x := ladder9([4]int{649, 648, 647, 646})
	if l, ok := impl.ParetoJourneys(x, 2, 0, 7, 600); !ok || !sameJourneys9(l, ladderJourneys9(x)) {
		t.Error("a whole ladder", l, ok)
	}
	if sizes[0] != 1 || sizes[1] < 50 || sizes[2] < 50 || sizes[3] < 5 {
		t.Error("numbers of journeys", sizes)
	}
}

func TestParetoJourneys(t *testing.T) {
	for _, c := range []struct {
		about  string
		t      impl.Timetable
		change int
		to     int
		at     int
		want   [][][3]int
	}{
		{"a chain as long as it may be", chain8(), 5, 4, 360, [][][3]int{{{1, 0, 1}, {2, 1, 2}, {3, 2, 3}, {4, 3, 4}}}},
		{"a chain that is too long", chain8(), 5, 5, 360, nil},
		{"a chain whose changes are just missed", chain8(), 6, 2, 360, nil},
		{"no change is needed with one leg", chain8(), impl.MaxChange, 1, 360, [][][3]int{{{1, 0, 1}}}},
		{"no line serves the stop", chain8(), 0, 7, 0, nil},
		{"no trips", plan8([][]int{{0, 5, 1}}), 0, 1, 0, nil},
		{"a trip that overtakes", town8(), 0, 3, 360, [][][3]int{{{4, 0, 3}}, {{4, 0, 1}, {7, 1, 3}}}},
		{"a trip that overtakes, just reached", town8(), 2, 3, 360, [][][3]int{{{4, 0, 3}}, {{4, 0, 1}, {7, 1, 3}}}},
		{"a trip that overtakes, just missed", town8(), 3, 3, 360, [][][3]int{{{4, 0, 3}}}},
		{"a trip is not left to board it again", town8(), 0, 2, 360, [][][3]int{{{4, 0, 2}}}},
		{"behind midnight", town8(), 0, 5, 397, [][][3]int{{{20, 0, 2}, {999, 2, 5}}}},
		{"the smaller Id among equal trips", shuttles9([2]int{2, 600}, [2]int{2, 600}), 0, 1, 600, [][][3]int{{{1, 0, 1}}}},
		{"a departure is not ahead because it is later", shuttles9([2]int{1, 600}, [2]int{2, 610}), 0, 1, 600, [][][3]int{{{1, 0, 1}}}},
		{"one leg arrives later but departs later", shuttles9([2]int{3, 600}, [2]int{4, 605}, [2]int{2, 601}), 0, 1, 600, [][][3]int{{{3, 0, 1}}, {{1, 0, 2}, {2, 2, 1}}}},
	} {
		want := [][]impl.Leg{}
		for _, list := range c.want {
			want = append(want, rides8(c.t, list...))
		}
		if l, ok := impl.ParetoJourneys(c.t, c.change, 0, c.to, c.at); !ok || !sameJourneys9(l, want) {
			t.Error(c.about, l, ok, "and not", want)
		}
	}
}

func TestParetoJourneysEndWithTheEarliestJourneyOfTies(t *testing.T) {
	for _, c := range ties8() {
		want := rides8(c.t, c.want...)
		l, ok := impl.ParetoJourneys(c.t, 2, 0, 3, 600)
		if !ok || len(l) == 0 || !slices.Equal(l[len(l)-1], want) {
			t.Error(c.about, l, ok, "and not", want)
		}
	}
}

func TestTravelProfileOfLadders(t *testing.T) {
	ladders9(func(arrivals [4]int, earlier [4]int) {
		want := []impl.Choice{}
		for k, arrival := range earlier {
			if arrival > 0 {
				want = append(want, impl.Choice{Depart: 600, Arrive: arrival, Legs: k + 1})
			}
		}
		checkProfile9(t, fmt.Sprint("arrivals ", arrivals), ladder9(arrivals), 2, 0, 7, want)
	})
	checkProfile9(t, "a whole ladder", ladder9([4]int{649, 648, 647, 646}), 2, 0, 7, choices9(600, 649, 1, 600, 648, 2, 600, 647, 3, 600, 646, 4))
}

func TestTravelProfile(t *testing.T) {
	for _, c := range []struct {
		about string
		trips [][2]int
		want  []impl.Choice
	}{
		{"no trips", nil, nil},
		{"trips of other stops", [][2]int{{4, 600}, {3, 600}}, nil},
		{"one choice", [][2]int{{0, 600}}, choices9(600, 630, 1)},
		{"equal trips", [][2]int{{0, 600}, {0, 600}, {0, 600}}, choices9(600, 630, 1)},
		{"equal departures", [][2]int{{0, 600}, {1, 600}, {2, 600}}, choices9(600, 610, 1)},
		{"equal arrivals", [][2]int{{0, 600}, {1, 610}, {2, 620}}, choices9(620, 630, 1)},
		{"overtaken", [][2]int{{0, 600}, {1, 605}}, choices9(605, 625, 1)},
		{"one minute ahead of the one that would overtake", [][2]int{{0, 600}, {1, 611}}, choices9(600, 630, 1, 611, 631, 1)},
		{"in the order of Depart and not of Id", [][2]int{{2, 900}, {0, 600}, {1, 700}}, choices9(600, 630, 1, 700, 720, 1, 900, 910, 1)},
		{"two legs arrive and depart at the same time", [][2]int{{3, 600}, {4, 605}, {2, 600}}, choices9(600, 610, 1)},
		{"two legs arrive at the same time and depart earlier", [][2]int{{3, 599}, {4, 605}, {2, 600}}, choices9(600, 610, 1)},
		{"two legs arrive at the same time and depart later", [][2]int{{3, 600}, {4, 615}, {1, 600}}, choices9(600, 620, 1)},
		{"two legs depart one minute later", [][2]int{{3, 601}, {4, 615}, {1, 600}}, choices9(600, 620, 1, 601, 620, 2)},
		{"two legs depart at the same time and arrive earlier", [][2]int{{3, 600}, {4, 614}, {1, 600}}, choices9(600, 620, 1, 600, 619, 2)},
		{"two legs depart earlier and arrive earlier", [][2]int{{3, 599}, {4, 614}, {1, 600}}, choices9(599, 619, 2, 600, 620, 1)},
		{"two legs depart earlier and arrive later", [][2]int{{3, 599}, {4, 616}, {1, 600}}, choices9(600, 620, 1)},
		{"two legs depart later and arrive earlier", [][2]int{{3, 601}, {4, 614}, {1, 600}}, choices9(600, 620, 1, 601, 619, 2)},
		{"two legs depart later and arrive later", [][2]int{{3, 601}, {4, 616}, {1, 600}}, choices9(600, 620, 1, 601, 621, 2)},
		{"one leg departs later still", [][2]int{{3, 601}, {4, 614}, {1, 600}, {2, 609}}, choices9(609, 619, 1)},
		{"the later one of two trips to the same change", [][2]int{{3, 600}, {3, 603}, {4, 608}}, choices9(603, 613, 2)},
		{"the earlier one of two trips behind the same change", [][2]int{{3, 600}, {4, 611}, {4, 608}}, choices9(600, 613, 2)},
		{"at the limits", [][2]int{{0, 0}, {2, impl.MaxTime - 10}, {1, 1439}}, choices9(0, 30, 1, 1439, 1459, 1, 1789, 1799, 1)},
	} {
		checkProfile9(t, c.about, shuttles9(c.trips...), 0, 0, 1, c.want)
	}
}

func TestTravelProfileWithChanges(t *testing.T) {
	for between := range impl.MaxChange + 3 {
		x := shuttles9([2]int{3, 600}, [2]int{4, 605 + between}, [2]int{0, 600 + between})
		for change := range impl.MaxChange + 1 {
			want := choices9(600, 610+between, 2, 600+between, 630+between, 1)
			switch {
			case change > between:
				want = want[1:]
			case between == 0:
				want = choices9(600, 630, 1, 600, 610, 2)
			}
			if l, ok := impl.TravelProfile(x, change, 0, 1); !ok || !slices.Equal(l, want) {
				t.Fatal("with", between, "minutes between and the change", change, l, ok, "and not", want)
			}
		}
	}
}

func TestFastestChoice(t *testing.T) {
	for _, c := range []struct {
		about string
		trips [][2]int
		want  impl.Choice
	}{
		{"one choice", [][2]int{{0, 600}}, impl.Choice{Depart: 600, Arrive: 630, Legs: 1}},
		{"the second one", [][2]int{{0, 600}, {2, 700}, {1, 800}}, impl.Choice{Depart: 700, Arrive: 710, Legs: 1}},
		{"the last one", [][2]int{{0, 600}, {1, 700}, {2, 800}}, impl.Choice{Depart: 800, Arrive: 810, Legs: 1}},
		{"a tie", [][2]int{{1, 800}, {1, 700}, {1, 600}, {0, 500}}, impl.Choice{Depart: 600, Arrive: 620, Legs: 1}},
		{"a tie with fewer legs later", [][2]int{{2, 700}, {3, 600}, {4, 605}}, impl.Choice{Depart: 600, Arrive: 610, Legs: 2}},
		{"a tie with more legs later", [][2]int{{2, 600}, {3, 700}, {4, 705}}, impl.Choice{Depart: 600, Arrive: 610, Legs: 1}},
		{"more legs are faster", [][2]int{{1, 600}, {3, 600}, {4, 614}}, impl.Choice{Depart: 600, Arrive: 619, Legs: 2}},
	} {
		if got, ok := impl.FastestChoice(shuttles9(c.trips...), 0, 0, 1); !ok || got != c.want {
			t.Error(c.about, got, ok, "and not", c.want)
		}
	}
	for _, x := range []impl.Timetable{shuttles9(), shuttles9([2]int{4, 600})} {
		if got, ok := impl.FastestChoice(x, 0, 0, 1); ok || got != (impl.Choice{}) {
			t.Error("no choice", got, ok)
		}
	}
}

func TestBestByCost(t *testing.T) {
	// The choices 600 to 620 with one leg, 600 to 615 with two and 605 to 625 with one.
	x := shuttles9([2]int{1, 600}, [2]int{3, 600}, [2]int{4, 610}, [2]int{1, 605})
	checkProfile9(t, "three choices", x, 0, 0, 1, choices9(600, 620, 1, 600, 615, 2, 605, 625, 1))
	// The choices 600 to 615 with two legs and 605 to 620 with one.
	y := shuttles9([2]int{3, 600}, [2]int{4, 610}, [2]int{2, 610})
	// The choices 600 to 620 with one leg and 601 to 620 with two.
	z := shuttles9([2]int{1, 600}, [2]int{3, 601}, [2]int{4, 615})
	checkProfile9(t, "equal arrivals", z, 0, 0, 1, choices9(600, 620, 1, 601, 620, 2))
	for _, c := range []struct {
		about  string
		t      impl.Timetable
		at     int
		perLeg int
		want   []impl.Choice
		cost   int
	}{
		{"legs cost nothing", x, 600, 0, choices9(600, 615, 2), 15},
		{"legs cost little", x, 600, 4, choices9(600, 615, 2), 23},
		{"legs cost as much as the time", x, 600, 5, choices9(600, 620, 1), 25},
		{"legs cost more", x, 600, 6, choices9(600, 620, 1), 26},
		{"legs cost the most", x, 600, 100, choices9(600, 620, 1), 120},
		{"one minute earlier", x, 599, 4, choices9(600, 615, 2), 24},
		{"very early", x, 0, 100, choices9(600, 620, 1), 720},
		{"one minute later", x, 601, 0, choices9(605, 625, 1), 24},
		{"one minute later with legs", x, 601, 4, choices9(605, 625, 1), 28},
		{"at the last departure", x, 605, 100, choices9(605, 625, 1), 120},
		{"fewer legs later, which are as cheap", y, 600, 5, choices9(600, 615, 2), 25},
		{"fewer legs later, which are cheaper", y, 600, 6, choices9(610, 620, 1), 26},
		{"equal arrivals without a cost of legs", z, 600, 0, choices9(600, 620, 1), 20},
		{"equal arrivals with a cost of legs", z, 600, 1, choices9(600, 620, 1), 21},
		{"only the second one of equal arrivals", z, 601, 1, choices9(601, 620, 2), 21},
	} {
		if got, n, ok := impl.BestByCost(c.t, 0, 0, 1, c.at, c.perLeg); !ok || got != c.want[0] || n != c.cost {
			t.Error(c.about, got, n, ok, "and not", c.want[0], c.cost)
		}
	}
	for _, perLeg := range []int{-1, -2, 101, 102, 1 << 32, -1 << 32, math.MaxInt, math.MinInt} {
		if got, n, ok := impl.BestByCost(x, 0, 0, 1, 600, perLeg); ok || got != (impl.Choice{}) || n != 0 {
			t.Error("with", perLeg, "for a leg", got, n, ok)
		}
	}
	for _, at := range []int{606, 607, 1439, impl.MaxTime} {
		if got, n, ok := impl.BestByCost(x, 0, 0, 1, at, 5); ok || got != (impl.Choice{}) || n != 0 {
			t.Error("behind the last departure at", at, got, n, ok)
		}
	}
	if got, n, ok := impl.BestByCost(shuttles9(), 0, 0, 1, 0, 0); ok || got != (impl.Choice{}) || n != 0 {
		t.Error("no choice", got, n, ok)
	}
}

// relay9 has a journey with the trips 1, 2 and 3, which has 2 and 4 minutes more than a change
// of 3 minutes, and a trip 9 that it does not use.
func relay9() (impl.Timetable, []impl.Leg) {
	x := plan8([][]int{{0, 5, 1}, {1, 5, 2}, {2, 5, 3}, {1, 50, 3}}, [3]int{1, 0, 360}, [3]int{2, 1, 370}, [3]int{3, 2, 382}, [3]int{9, 3, 366})
	return x, rides8(x, [3]int{1, 0, 1}, [3]int{2, 1, 2}, [3]int{3, 2, 3})
}

func TestSurvivesDelay(t *testing.T) {
	x, legs := relay9()
	// The greatest delays of the trips with which the journey can still be made.
	for id, most := range map[int]int{1: 2, 2: 4, 3: 240, 9: 240} {
		for minutes := range 241 {
			if yes, ok := impl.SurvivesDelay(x, 3, legs, id, minutes); !ok || yes != (minutes <= most) {
				t.Fatal("trip", id, "by", minutes, yes, ok)
			}
		}
		for _, minutes := range []int{-1, -2, -240, 241, 242, 1 << 32, -1 << 32, math.MaxInt, math.MaxInt - 360, math.MinInt} {
			if yes, ok := impl.SurvivesDelay(x, 3, legs, id, minutes); ok || yes {
				t.Error("trip", id, "by", minutes, yes, ok)
			}
		}
	}
	for _, id := range append([]int{4, 5, 8, 10, 998, 999}, noIds5...) {
		for _, minutes := range []int{0, 1, 240} {
			if yes, ok := impl.SurvivesDelay(x, 3, legs, id, minutes); ok || yes {
				t.Error("trip", id, "that does not exist, by", minutes, yes, ok)
			}
		}
	}
	// A part of the journey, and a change that takes all the time there is.
	for _, c := range []struct {
		legs    []impl.Leg
		change  int
		id      int
		minutes int
		want    bool
	}{
		{legs[:1], 3, 1, 240, true},
		{legs[:1], 3, 2, 240, true},
		{legs[:2], 3, 2, 240, true},
		{legs[:2], 3, 3, 240, true},
		{legs[1:], 3, 1, 240, true},
		{legs[1:], 3, 2, 5, false},
		{legs, 0, 1, 5, true},
		{legs, 0, 1, 6, false},
		{legs, 5, 1, 0, true},
		{legs, 5, 1, 1, false},
		{legs, 5, 2, 2, true},
		{legs, 5, 2, 3, false},
	} {
		if yes, ok := impl.SurvivesDelay(x, c.change, c.legs, c.id, c.minutes); !ok || yes != c.want {
			t.Error(c, yes, ok)
		}
	}
}

func TestSurvivesDelayBehindTheLastTime(t *testing.T) {
	x := plan8([][]int{{0, 5, 1}, {1, 5, 2}}, [3]int{1, 0, 1780}, [3]int{2, 1, 1794})
	legs := rides8(x, [3]int{1, 0, 1}, [3]int{2, 1, 2})
	for minutes := range 241 {
		if yes, ok := impl.SurvivesDelay(x, 4, legs, 2, minutes); !ok || !yes {
			t.Fatal("the last trip by", minutes, yes, ok)
		}
		if yes, ok := impl.SurvivesDelay(x, 4, legs, 1, minutes); !ok || yes != (minutes <= 5) {
			t.Fatal("the first trip by", minutes, yes, ok)
		}
		if yes, ok := impl.SurvivesDelay(x, 4, legs[:1], 1, minutes); !ok || !yes {
			t.Fatal("the only trip by", minutes, yes, ok)
		}
	}
}

func TestSlackOf(t *testing.T) {
	x, legs := relay9()
	for change := range 6 {
		if l, ok := impl.SlackOf(x, change, legs); !ok || !slices.Equal(l, []int{5 - change, 7 - change}) {
			t.Error("with the change", change, l, ok)
		}
		if l, ok := impl.SlackOf(x, change, legs[1:]); !ok || !slices.Equal(l, []int{7 - change}) {
			t.Error("of two legs with the change", change, l, ok)
		}
	}
	for i := range legs {
		if l, ok := impl.SlackOf(x, impl.MaxChange, legs[i:i+1]); !ok || len(l) != 0 {
			t.Error("of one leg", l, ok)
		}
	}
	y := chain8()
	four := rides8(y, [3]int{1, 0, 1}, [3]int{2, 1, 2}, [3]int{3, 2, 3}, [3]int{4, 3, 4})
	if l, ok := impl.SlackOf(y, 5, four); !ok || !slices.Equal(l, []int{0, 0, 0}) {
		t.Error("of four legs", l, ok)
	}
	z := plan8([][]int{{0, 5, 1}, {1, 5, 2}}, [3]int{1, 0, 0}, [3]int{2, 1, impl.MaxTime - 5})
	if l, ok := impl.SlackOf(z, 30, rides8(z, [3]int{1, 0, 1}, [3]int{2, 1, 2})); !ok || !slices.Equal(l, []int{1759}) {
		t.Error("across midnight", l, ok)
	}
}

func TestLegsThatAreNoJourneyHaveNoChoices(t *testing.T) {
	x := chain8()
	five := rides8(x, [3]int{1, 0, 1}, [3]int{2, 1, 2}, [3]int{3, 2, 3}, [3]int{4, 3, 4}, [3]int{5, 4, 5})
	checkNoLegs9(t, "nil", x, 0, nil)
	checkNoLegs9(t, "no legs", x, 0, []impl.Leg{})
	checkNoLegs9(t, "an empty leg", x, 0, make([]impl.Leg, 1))
	checkNoLegs9(t, "many legs", x, 0, make([]impl.Leg, 100000))
	checkNoLegs9(t, "five legs", x, 5, five)
	checkNoLegs9(t, "a change that is just missed", x, 6, five[:2])
	checkNoLegs9(t, "legs that do not meet", x, 0, []impl.Leg{five[0], five[2]})
	y := town8()
	checkNoLegs9(t, "a trip twice", y, 0, rides8(y, [3]int{4, 0, 1}, [3]int{7, 1, 3}, [3]int{4, 3, 2}))
	good := rides8(y, [3]int{4, 0, 1}, [3]int{7, 1, 3}, [3]int{20, 3, 2})
	for i := range good {
		for _, wrong := range wrongLegs8(y, good[i]) {
			legs := slices.Clone(good)
			legs[i] = wrong
			checkNoLegs9(t, "a wrong leg", y, 0, legs)
		}
	}
}

func TestAfterMissing(t *testing.T) {
	// Trip 1 goes all the way from 0 over 1 and 2 to 3, but is slow from 1 on.
	lines := [][]int{{0, 5, 1, 30, 2, 20, 3}, {1, 5, 2}, {2, 5, 3}, {2, 40, 3}, {3, 4, 2}}
	slow := func(trips ...[3]int) impl.Timetable {
		return plan8(lines, append([][3]int{{1, 0, 600}, {2, 1, 610}, {3, 2, 620}}, trips...)...)
	}
	all := [][3]int{{1, 0, 1}, {2, 1, 2}, {3, 2, 3}}
	around := [][3]int{{2, 1, 2}, {3, 2, 3}, {4, 3, 2}}
	for _, c := range []struct {
		about  string
		t      impl.Timetable
		change int
		legs   [][3]int
		i      int
		want   int
	}{
		{"the slow trip is the only way", slow(), 0, all, 2, 655},
		{"the slow trip is just reached", slow(), 5, all, 2, 655},
		{"the trip that is missed is not used without a change", slow([3]int{4, 3, 615}), 0, all, 2, 655},
		{"a trip at the same minute", slow([3]int{4, 2, 620}), 0, all, 2, 625},
		{"a trip within the change", slow([3]int{4, 2, 620}), 1, all, 2, 655},
		{"a trip just behind the change", slow([3]int{4, 2, 623}), 3, all, 2, 628},
		{"a trip just within the change", slow([3]int{4, 2, 622}), 3, all, 2, 655},
		{"the next trip of the line", slow([3]int{4, 1, 613}), 0, all, 1, 625},
		{"the next trip of the line, which is too late to change", slow([3]int{4, 1, 616}, [3]int{5, 2, 622}), 2, all, 1, 655},
		{"a slow trip that arrives as early", slow([3]int{4, 3, 622}, [3]int{5, 2, 650}), 0, all, 2, 655},
		{"the end is where one is", slow([3]int{4, 4, 630}), 5, around, 1, 625},
		{"the end is where one is, without a change", slow([3]int{4, 4, 630}), 0, around, 1, 620},
		{"the end is elsewhere", slow([3]int{4, 4, 630}, [3]int{5, 4, 640}), 5, around, 2, 644},
		{"behind midnight", plan8(lines, [3]int{1, 1, 1430}, [3]int{2, 2, 1439}, [3]int{3, 2, 1794}), 4, [][3]int{{1, 1, 2}, {2, 2, 3}}, 1, 1799},
	} {
		legs := rides8(c.t, c.legs...)
		if a, ok := impl.AfterMissing(c.t, c.change, legs, c.i); !ok || a != c.want {
			t.Error(c.about, a, ok, "and not", c.want)
		}
	}
}

func TestAfterMissingWithoutAnArrival(t *testing.T) {
	x := chain8()
	four := rides8(x, [3]int{1, 0, 1}, [3]int{2, 1, 2}, [3]int{3, 2, 3}, [3]int{4, 3, 4})
	for i := -1; i <= 5; i++ {
		if a, ok := impl.AfterMissing(x, 5, four, i); ok || a != 0 {
			t.Error("the only trips, leg", i, a, ok)
		}
	}
	// Trips 11 to 14 follow the others, so that every leg may be missed but the first one.
	y := chain8()
	for i, trip := range chain8().Trips[:4] {
		y.Trips = append(y.Trips, impl.Trip{Id: 11 + i, Line: trip.Line, Start: trip.Start + 50})
	}
	for i := 1; i <= 3; i++ {
		if a, ok := impl.AfterMissing(y, 5, four, i); !ok || a != 445 {
			t.Error("leg", i, a, ok)
		}
	}
	for _, i := range []int{0, -1, -2, 4, 5, 1 << 32, 1<<32 + 1, -1 << 32, math.MaxInt, math.MinInt, math.MinInt + 1} {
		if a, ok := impl.AfterMissing(y, 5, four, i); ok || a != 0 {
			t.Error("leg", i, "of four", a, ok)
		}
	}
	for i := -1; i <= 2; i++ {
		if a, ok := impl.AfterMissing(y, 5, four[:1], i); ok || a != 0 {
			t.Error("leg", i, "of one", a, ok)
		}
	}
	if a, ok := impl.AfterMissing(y, 5, four[:2], 2); ok || a != 0 {
		t.Error("leg 2 of two", a, ok)
	}
}

func TestAfterMissingOfAJourneyThatComesBack(t *testing.T) {
	// The journey goes from stop 0 to stop 1, from there to stop 2 and back to stop 1.
	for _, depart := range []int{1710, 1766, 1767, 1768} {
		x := plan8([][]int{{0, 1, 1}, {1, 1, 2}, {2, 1, 1}}, [3]int{1, 0, 1700}, [3]int{2, 1, depart}, [3]int{3, 2, depart + 30})
		legs := rides8(x, [3]int{1, 0, 1}, [3]int{2, 1, 2}, [3]int{3, 2, 1})
		for change := range 10 {
			if a, ok := impl.AfterMissing(x, change, legs, 1); !ok || a != depart+change {
				t.Error("depart at", depart, "with the change", change, a, ok)
			}
			if a, ok := impl.AfterMissing(x, change, legs, 2); ok || a != 0 {
				t.Error("the only trip back with the change", change, a, ok)
			}
			if a, ok := impl.AfterMissing(x, change, legs[:2], 1); ok || a != 0 {
				t.Error("the only trip away with the change", change, a, ok)
			}
		}
	}
}

func TestAfterMissingAtTheLastTimes(t *testing.T) {
	// Trip 3 departs at the last minute at which a trip can.
	for depart := 1750; depart <= 1798; depart++ {
		x := plan8([][]int{{0, 1, 1}, {1, 1, 2}}, [3]int{1, 0, 1600}, [3]int{2, 1, depart}, [3]int{3, 1, 1798})
		legs := rides8(x, [3]int{1, 0, 1}, [3]int{2, 1, 2})
		for change := range impl.MaxChange + 1 {
			want, wantOk := 0, depart+change <= 1798
			if wantOk {
				want = 1799
			}
			if a, ok := impl.AfterMissing(x, change, legs, 1); ok != wantOk || a != want {
				t.Fatal("depart at", depart, "with the change", change, a, ok)
			}
		}
	}
}

func TestWaitingMinutes(t *testing.T) {
	// Trip 2 is overtaken, so that it is in no profile.
	x := shuttles9([2]int{2, 600}, [2]int{0, 605}, [2]int{2, 610}, [2]int{2, 1789})
	for _, c := range []struct {
		about string
		span  impl.Span
		want  int
		ok    bool
	}{
		{"at the departure", impl.Span{From: 600, To: 601}, 0, true},
		{"one minute ahead", impl.Span{From: 599, To: 600}, 1, true},
		{"one minute late", impl.Span{From: 601, To: 602}, 9, true},
		{"around a departure", impl.Span{From: 598, To: 602}, 12, true},
		{"between two departures", impl.Span{From: 601, To: 610}, 45, true},
		{"up to the second departure", impl.Span{From: 601, To: 611}, 45, true},
		{"a trip that is overtaken does not count", impl.Span{From: 605, To: 606}, 5, true},
		{"a trip that is overtaken does not count ahead of it", impl.Span{From: 602, To: 604}, 15, true},
		{"no times at a departure", impl.Span{From: 600, To: 600}, 0, true},
		{"no times elsewhere", impl.Span{From: 605, To: 605}, 0, true},
		{"no times behind the last departure", impl.Span{From: 1795, To: 1795}, 0, true},
		{"no times at the end", impl.Span{From: 1799, To: 1799}, 0, true},
		{"no times at the beginning", impl.Span{From: 0, To: 0}, 0, true},
		{"the beginning", impl.Span{From: 0, To: 2}, 1199, true},
		{"up to the last departure", impl.Span{From: 1787, To: 1789}, 3, true},
		{"including the last departure", impl.Span{From: 1787, To: 1790}, 3, true},
		{"from the last departure on", impl.Span{From: 1789, To: 1790}, 0, true},
		{"one minute behind the last departure", impl.Span{From: 1789, To: 1791}, 0, false},
		{"begins behind the last departure", impl.Span{From: 1790, To: 1791}, 0, false},
		{"many times and one too many", impl.Span{From: 0, To: 1791}, 0, false},
		{"the longest span", impl.Span{From: 0, To: 1799}, 0, false},
		{"many times", impl.Span{From: 0, To: 1790}, 600*601/2 + 9*10/2 + 1178*1179/2, true},
	} {
		if n, ok := impl.WaitingMinutes(x, 0, 0, 1, c.span); ok != c.ok || n != c.want {
			t.Error(c.about, n, ok, "and not", c.want, c.ok)
		}
	}
	for _, none := range []impl.Timetable{shuttles9(), shuttles9([2]int{4, 600})} {
		for _, at := range []int{0, 600, impl.MaxTime} {
			if n, ok := impl.WaitingMinutes(none, 0, 0, 1, impl.Span{From: at, To: at}); !ok || n != 0 {
				t.Error("no times and no trips", n, ok)
			}
		}
		for _, at := range []int{0, 600, impl.MaxTime - 1} {
			if n, ok := impl.WaitingMinutes(none, 0, 0, 1, impl.Span{From: at, To: at + 1}); ok || n != 0 {
				t.Error("no trips", n, ok)
			}
		}
	}
}

func TestParetoJourneysOfRandomTimetables(t *testing.T) {
	several := 0
	for _, x := range samples9(90) {
		firsts := firstsOf9(x.t, x.change)
		for from := range x.t.Network.Stops {
			for to := range x.t.Network.Stops {
				if to == from {
					continue
				}
				for _, at := range times8(x.t) {
					want := firsts.pareto(from, to, at)
					if l, ok := impl.ParetoJourneys(x.t, x.change, from, to, at); !ok || !sameJourneys9(l, want) {
						t.Fatal("from", from, "to", to, "at", at, "in", x, l, ok, "and not", want)
					}
					if len(want) > 1 {
						several++
					}
				}
			}
		}
	}
	if several < 100 {
		t.Error("only", several, "have several journeys")
	}
}

func TestProfilesOfRandomTimetables(t *testing.T) {
	several := 0
	for _, x := range samples9(30) {
		firsts := firstsOf9(x.t, x.change)
		for from := range x.t.Network.Stops {
			for to := range x.t.Network.Stops {
				if to == from {
					continue
				}
				want := firsts.profile(from, to)
				checkProfile9(t, fmt.Sprint("from ", from, " to ", to, " in ", x), x.t, x.change, from, to, want)
				for i := 1; i < len(want); i++ {
					if want[i].Depart == want[i-1].Depart {
						several++
					}
				}
			}
		}
	}
	if several < 50 {
		t.Error("only", several, "choices depart when others do")
	}
}

// slack9 returns the minutes that a journey has at each change beyond those that it needs.
func slack9(legs []impl.Leg, change int) []int {
	slack := []int{}
	for i := range len(legs) - 1 {
		minutes := 0
		for legs[i].Arrive+change+minutes < legs[i+1].Depart {
			minutes++
		}
		slack = append(slack, minutes)
	}
	return slack
}

// survives9 returns what SurvivesDelay should of a journey with this slack.
func survives9(legs []impl.Leg, slack []int, id int, minutes int) bool {
	for i, slack := range slack {
		switch id {
		case legs[i].Trip:
			slack -= minutes
		case legs[i+1].Trip:
			slack += minutes
		}
		if slack < 0 {
			return false
		}
	}
	return true
}

// without9 returns a timetable without the trip with an Id.
func without9(t impl.Timetable, id int) impl.Timetable {
	t = clone5(t)
	t.Trips = slices.DeleteFunc(t.Trips, func(x impl.Trip) bool { return x.Id == id })
	return t
}

func TestDelaysOfRandomJourneys(t *testing.T) {
	survived := map[bool]int{}
	for _, x := range samples9(40) {
		seen := 0
		allJourneys8(x.t, x.change, func(journey []impl.Leg) {
			if seen++; seen%13 != 0 || seen > 3000 {
				return
			}
			slack := slack9(journey, x.change)
			if l, ok := impl.SlackOf(x.t, x.change, journey); !ok || !slices.Equal(l, slack) {
				t.Fatal("slack of", journey, "in", x, l, ok, "and not", slack)
			}
			delays := []int{0, 1, 240}
			for _, minutes := range slack {
				delays = append(delays, min(minutes, 240), min(minutes+1, 240))
			}
			for _, trip := range x.t.Trips {
				for _, minutes := range delays {
					want := survives9(journey, slack, trip.Id, minutes)
					survived[want]++
					if yes, ok := impl.SurvivesDelay(x.t, x.change, journey, trip.Id, minutes); !ok || yes != want {
						t.Fatal(journey, "in", x, "with trip", trip.Id, "late by", minutes, yes, ok)
					}
				}
			}
		})
	}
	if survived[true] < 1000 || survived[false] < 1000 {
		t.Error("journeys that survive and others:", survived)
	}
}

func TestAfterMissingOfRandomJourneys(t *testing.T) {
	found := map[bool]int{}
	for _, x := range samples9(60) {
		best := map[int]best8{}
		for _, trip := range x.t.Trips {
			best[trip.Id] = bestOf8(without9(x.t, trip.Id), x.change)
		}
		seen := 0
		allJourneys8(x.t, x.change, func(journey []impl.Leg) {
			if seen++; seen%5 != 0 || seen > 3000 {
				return
			}
			for i := 1; i < len(journey); i++ {
				at := journey[i].Depart + x.change
				want := best[journey[i].Trip].arrivals(len(x.t.Network.Stops), journey[i].From, at)[journey[len(journey)-1].To]
				wantOk := want >= 0 && at <= impl.MaxTime
				found[wantOk]++
				if !wantOk {
					want = 0
				}
				if a, ok := impl.AfterMissing(x.t, x.change, journey, i); ok != wantOk || a != want {
					t.Fatal(journey, "in", x, "without leg", i, a, ok, "and not", want, wantOk)
				}
			}
		})
	}
	if found[true] < 500 || found[false] < 500 {
		t.Error("arrivals and others:", found)
	}
}

func TestRandomLegsThatAreNoJourney(t *testing.T) {
	r := random2(99)
	for _, x := range samples9(40) {
		for range 30 {
			if len(x.t.Trips) == 0 {
				break
			}
			if legs := r.anyLegs8(x.t); !impl.IsValidJourney(x.t, x.change, legs) {
				checkNoLegs9(t, "in a random timetable", x.t, x.change, legs)
			}
		}
	}
}

// Promise 9.
func TestNoChoiceOfAProfileIsBetterThanAnotherOne(t *testing.T) {
	pairs := 0
	for _, x := range samples9(200) {
		for from := range x.t.Network.Stops {
			for to := range x.t.Network.Stops {
				profile, ok := impl.TravelProfile(x.t, x.change, from, to)
				if ok != (to != from) {
					t.Fatal("from", from, "to", to, "in", x, profile, ok)
				}
				for i, a := range profile {
					for j, b := range profile {
						if i != j && (a == b || better9(a, b)) {
							t.Fatal("from", from, "to", to, "in", x, a, "is as good as", b, "or better")
						}
						pairs++
					}
				}
			}
		}
	}
	if pairs < 2000 {
		t.Error("only", pairs, "pairs of choices")
	}
}

// The guarantee of chapter 9.
func TestNoJourneyIsBetterThanOneOfAProfile(t *testing.T) {
	for _, x := range samples9(90) {
		profiles := map[[2]int][]impl.Choice{}
		made := map[[2]int]map[impl.Choice]bool{}
		for from := range x.t.Network.Stops {
			for to := range x.t.Network.Stops {
				profiles[[2]int{from, to}], _ = impl.TravelProfile(x.t, x.change, from, to)
				made[[2]int{from, to}] = map[impl.Choice]bool{}
			}
		}
		allJourneys8(x.t, x.change, func(journey []impl.Leg) {
			last := journey[len(journey)-1]
			ends := [2]int{journey[0].From, last.To}
			c := impl.Choice{Depart: journey[0].Depart, Arrive: last.Arrive, Legs: len(journey)}
			made[ends][c] = true
			for _, other := range profiles[ends] {
				if better9(c, other) {
					t.Fatal(journey, "in", x, "is better than", other)
				}
			}
		})
		for ends, profile := range profiles {
			for _, c := range profile {
				if !made[ends][c] {
					t.Fatal("no journey from and to", ends, "in", x, "is", c)
				}
			}
		}
	}
}

// results9 returns all results of the functions of the chapter that take stops, and changes
// everything that they hold afterwards.
func results9(x sample8) string {
	s := ""
	for from := range x.t.Network.Stops {
		for to := range x.t.Network.Stops {
			profile, ok := impl.TravelProfile(x.t, x.change, from, to)
			s += fmt.Sprintln(profile, ok)
			clear(profile[:cap(profile)])
			s += fmt.Sprintln(impl.FastestChoice(x.t, x.change, from, to))
			s += fmt.Sprintln(impl.WaitingMinutes(x.t, x.change, from, to, impl.Span{From: 355, To: 362}))
			for _, at := range []int{0, 360, 600, 610, 1400} {
				s += fmt.Sprintln(impl.BestByCost(x.t, x.change, from, to, at, 3))
				journeys, ok := impl.ParetoJourneys(x.t, x.change, from, to, at)
				s += fmt.Sprintln(journeys, ok)
				for _, journey := range journeys {
					s += resultsOfLegs9(x, journey)
					clear(journey[:cap(journey)])
				}
				clear(journeys[:cap(journeys)])
			}
		}
	}
	return s
}

// resultsOfLegs9 does the same with the functions that take legs.
func resultsOfLegs9(x sample8, legs []impl.Leg) string {
	slack, ok := impl.SlackOf(x.t, x.change, legs)
	s := fmt.Sprintln(slack, ok)
	fill2(slack)
	for _, trip := range x.t.Trips {
		s += fmt.Sprintln(impl.SurvivesDelay(x.t, x.change, legs, trip.Id, 3))
	}
	for i := range len(legs) + 1 {
		s += fmt.Sprintln(impl.AfterMissing(x.t, x.change, legs, i))
	}
	return s
}

func TestChoicesDoNotModifyTimetables(t *testing.T) {
	checkTimetablesKept8(t, samples9(25), results9)
}

func TestJourneysWithChoicesAreNotModifiedAndNotReadBeyondTheEnd(t *testing.T) {
	checkLegsKept8(t, samples9(40), 37, 2000, resultsOfLegs9)
}

func TestParetoJourneysShareNoMemory(t *testing.T) {
	x := ladder9([4]int{649, 648, 647, 646})
	want := ladderJourneys9(x)
	for i := range want {
		l, ok := impl.ParetoJourneys(x, 2, 0, 7, 600)
		if !ok || !sameJourneys9(l, want) {
			t.Fatal(l, ok)
		}
		clear(l[i][:cap(l[i])])
		for j := range l {
			if j != i && !slices.Equal(l[j], want[j]) {
				t.Error("journeys", i, "and", j, "share memory", l[j])
			}
		}
	}
	first, _ := impl.TravelProfile(x, 2, 0, 7)
	second, _ := impl.TravelProfile(x, 2, 0, 7)
	kept := slices.Clone(second)
	clear(first[:cap(first)])
	if len(kept) != 4 || !slices.Equal(second, kept) {
		t.Error("profiles share memory", second)
	}
}
