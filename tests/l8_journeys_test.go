package tests

import (
	"fmt"
	"math"
	"reflect"
	"slices"
	"testing"

	"loop.example/g00900/impl"
)

// plan8 returns a timetable with the most stops, in which a line is written as its stops with
// the runs between them, and a trip as its Id, its line and its Start.
func plan8(lines [][]int, trips ...[3]int) impl.Timetable {
	t := impl.Timetable{Network: impl.Network{Stops: stops2(impl.MaxStops)}}
	for i, list := range lines {
		l := impl.Line{Name: fmt.Sprint("l", i), Stops: []int{list[0]}}
		for k := 1; k < len(list); k += 2 {
			l.Runs, l.Stops = append(l.Runs, list[k]), append(l.Stops, list[k+1])
		}
		t.Network.Lines = append(t.Network.Lines, l)
	}
	for _, x := range trips {
		t.Trips = append(t.Trips, impl.Trip{Id: x[0], Line: x[1], Start: x[2]})
	}
	return t
}

// chain8 has five lines of one run each, from stop 0 over 1, 2, 3 and 4 to 5, and trips that
// leave 5 minutes for every change. No line serves the stops 6 and 7.
func chain8() impl.Timetable {
	return plan8([][]int{{0, 5, 1}, {1, 5, 2}, {2, 5, 3}, {3, 5, 4}, {4, 5, 5}},
		[3]int{1, 0, 360}, [3]int{2, 1, 370}, [3]int{3, 2, 380}, [3]int{4, 3, 390}, [3]int{5, 4, 400})
}

// town8 has a trip of which a part is overtaken by one of another line: trip 7 goes from 1 to 3
// faster than trip 4, and so one can leave trip 4 and board it again.
func town8() impl.Timetable {
	return plan8([][]int{{0, 5, 1, 20, 3, 5, 2, 10, 4}, {1, 8, 3}, {3, 6, 0}, {2, 15, 5, 15, 1}},
		[3]int{4, 0, 360}, [3]int{7, 1, 367}, [3]int{9, 2, 390}, [3]int{20, 0, 400}, [3]int{21, 3, 396}, [3]int{999, 3, 1769})
}

// ride8 returns the leg on a trip between two stops that it serves, also backwards.
func ride8(t impl.Timetable, id int, from int, to int) impl.Leg {
	leg := impl.Leg{Trip: id, From: from, To: to, Depart: -1, Arrive: -1}
	for _, x := range t.Trips {
		if x.Id != id {
			continue
		}
		times := stopTimes5(t.Network, x)
		for place, stop := range t.Network.Lines[x.Line].Stops {
			if stop == from {
				leg.Depart = times[place]
			}
			if stop == to {
				leg.Arrive = times[place]
			}
		}
	}
	return leg
}

// rides8 returns the legs of ride8 for these values of id, from and to.
func rides8(t impl.Timetable, list ...[3]int) []impl.Leg {
	var legs []impl.Leg
	for _, x := range list {
		legs = append(legs, ride8(t, x[0], x[1], x[2]))
	}
	return legs
}

// legs8 returns all legs of a timetable.
func legs8(t impl.Timetable) []impl.Leg {
	var list []impl.Leg
	for _, x := range t.Trips {
		stops := t.Network.Lines[x.Line].Stops
		for i, from := range stops {
			for _, to := range stops[i+1:] {
				list = append(list, ride8(t, x.Id, from, to))
			}
		}
	}
	return list
}

// goOn8 calls see with every journey that begins with some legs and goes on with others.
func goOn8(legs []impl.Leg, change int, journey []impl.Leg, see func([]impl.Leg)) {
	see(journey)
	last := journey[len(journey)-1]
	if len(journey) == 4 {
		return
	}
	for _, leg := range legs {
		sameTrip := func(other impl.Leg) bool { return other.Trip == leg.Trip }
		if leg.From == last.To && leg.Depart-last.Arrive >= change && !slices.ContainsFunc(journey, sameTrip) {
			goOn8(legs, change, append(slices.Clone(journey), leg), see)
		}
	}
}

// allJourneys8 calls see with every journey of a timetable.
func allJourneys8(t impl.Timetable, change int, see func([]impl.Leg)) {
	legs := legs8(t)
	for _, leg := range legs {
		goOn8(legs, change, []impl.Leg{leg}, see)
	}
}

// key8 returns a list that is lexicographically smaller for a journey that is ahead.
func key8(journey []impl.Leg) []int {
	key := []int{journey[len(journey)-1].Arrive, len(journey)}
	for _, leg := range journey {
		key = append(key, leg.Trip, leg.From, leg.To)
	}
	return key
}

// best8 are, for a stop from which and one to which journeys lead and for every departure, the
// first journey that departs at this time.
type best8 map[[2]int]map[int][]impl.Leg

// bestOf8 returns the first ones of all journeys.
func bestOf8(t impl.Timetable, change int) best8 {
	best := best8{}
	allJourneys8(t, change, func(journey []impl.Leg) {
		first, ends := journey[0], [2]int{journey[0].From, journey[len(journey)-1].To}
		if best[ends] == nil {
			best[ends] = map[int][]impl.Leg{}
		}
		old := best[ends][first.Depart]
		if old == nil || slices.Compare(key8(journey), key8(old)) < 0 {
			best[ends][first.Depart] = journey
		}
	})
	return best
}

// earliest returns the first journey that departs at a time or later, nil if there is none.
func (b best8) earliest(from int, to int, at int) []impl.Leg {
	var first []impl.Leg
	for depart, journey := range b[[2]int{from, to}] {
		if depart >= at && (first == nil || slices.Compare(key8(journey), key8(first)) < 0) {
			first = journey
		}
	}
	return first
}

// latest returns the greatest departure with an arrival at a time or earlier.
func (b best8) latest(from int, to int, by int) (int, bool) {
	greatest, ok := 0, false
	for depart, journey := range b[[2]int{from, to}] {
		if key8(journey)[0] <= by && depart >= greatest {
			greatest, ok = depart, true
		}
	}
	return greatest, ok
}

// arrivals returns the earliest arrivals.
func (b best8) arrivals(stops int, from int, at int) []int {
	var list []int
	for to := range stops {
		switch first := b.earliest(from, to, at); {
		case to == from:
			list = append(list, at)
		case first == nil:
			list = append(list, -1)
		default:
			list = append(list, key8(first)[0])
		}
	}
	return list
}

// noChanges8 are numbers that are no change.
var noChanges8 = []int{-1, -2, -30, impl.MaxChange + 1, impl.MaxChange + 2, 1 << 32, 1<<32 + 5, -1 << 32, math.MaxInt, math.MaxInt - 365, math.MinInt, math.MinInt + 1799}

// noTimes8 are numbers that are no times.
var noTimes8 = []int{-1, -2, -1800, impl.MaxTime + 1, impl.MaxTime + 2, 1 << 32, 1<<32 + 360, -1 << 32, math.MaxInt, math.MaxInt - 30, math.MinInt, math.MinInt + 360}

// noStops8 are numbers that no stop of a timetable with the most stops has.
var noStops8 = []int{-1, -2, impl.MaxStops, impl.MaxStops + 1, 1 << 32, 1<<32 + 1, -1 << 32, math.MaxInt, math.MinInt}

func TestLimitsOfJourneys(t *testing.T) {
	if impl.MaxLegs != 4 || impl.MaxChange != 30 {
		t.Error(impl.MaxLegs, impl.MaxChange)
	}
}

// checkFails8 calls every function with arguments of which at least one is invalid.
func checkFails8(t *testing.T, about string, x impl.Timetable, change int, from int, to int, at int) {
	t.Helper()
	if l, ok := impl.EarliestArrivals(x, change, from, at); ok || len(l) != 0 {
		t.Error(about, "EarliestArrivals", l, ok)
	}
	for _, by := range []int{0, at, 900, impl.MaxTime} {
		if l, ok := impl.ReachedBy(x, change, from, at, by); ok || len(l) != 0 {
			t.Error(about, "ReachedBy", by, l, ok)
		}
	}
	checkNoJourney8(t, about, x, change, from, to, at)
}

// checkNoJourney8 does the same with the functions that also take the stop at the end.
func checkNoJourney8(t *testing.T, about string, x impl.Timetable, change int, from int, to int, at int) {
	t.Helper()
	if l, ok := impl.EarliestJourney(x, change, from, to, at); ok || len(l) != 0 {
		t.Error(about, "EarliestJourney", l, ok)
	}
	if d, ok := impl.LatestDeparture(x, change, from, to, at); ok || d != 0 {
		t.Error(about, "LatestDeparture", d, ok)
	}
}

// checkNoLegs8 calls the functions that take legs with legs that are not a journey.
func checkNoLegs8(t *testing.T, about string, x impl.Timetable, change int, legs []impl.Leg) {
	t.Helper()
	if impl.IsValidJourney(x, change, legs) {
		t.Error(about, "is a journey", legs)
	}
	if all, between, ok := impl.JourneyTimes(x, change, legs); ok || all != 0 || between != 0 {
		t.Error(about, "JourneyTimes", all, between, ok)
	}
	if l, ok := impl.ServedStops(x, change, legs); ok || len(l) != 0 {
		t.Error(about, "ServedStops", l, ok)
	}
}

func TestInvalidTimetablesHaveNoJourneys(t *testing.T) {
	for _, c := range validities5() {
		if c.valid {
			continue
		}
		legs := []impl.Leg{{Trip: 2, From: 0, To: 1, Depart: 360, Arrive: 365}}
		checkNoLegs8(t, c.about, c.t, 0, legs)
		checkNoLegs8(t, c.about, c.t, 0, nil)
		checkFails8(t, c.about, c.t, 0, 0, 1, 360)
		checkFails8(t, c.about, c.t, 3, 1, 2, 0)
		for _, x := range append(slices.Clone(c.t.Trips), impl.Trip{Id: 1}) {
			for to := range 3 {
				if leg, ok := impl.FillLeg(c.t, x.Id, 0, to); ok || leg != (impl.Leg{}) {
					t.Error(c.about, "FillLeg", x.Id, to, leg, ok)
				}
			}
		}
	}
}

func TestChangesOutOfRange(t *testing.T) {
	x := chain8()
	for _, change := range noChanges8 {
		about := fmt.Sprint("with the change ", change)
		checkFails8(t, about, x, change, 0, 1, 360)
		checkFails8(t, about, x, change, 0, 2, 0)
		checkNoLegs8(t, about, x, change, rides8(x, [3]int{1, 0, 1}))
		checkNoLegs8(t, about, x, change, rides8(x, [3]int{1, 0, 1}, [3]int{2, 1, 2}))
	}
}

func TestJourneysOfStopsThatDoNotExist(t *testing.T) {
	for _, x := range []impl.Timetable{chain8(), town8(), plan8([][]int{{0, 5, 1}})} {
		for _, stop := range noStops8 {
			about := fmt.Sprint("stop ", stop)
			checkFails8(t, about, x, 0, stop, 1, 0)
			checkFails8(t, about, x, 0, stop, stop, 0)
			checkNoJourney8(t, about, x, 0, 0, stop, 0)
			checkNoJourney8(t, about, x, 0, 1, stop, impl.MaxTime)
		}
	}
}

func TestJourneysAtNoTimes(t *testing.T) {
	x := chain8()
	for _, at := range noTimes8 {
		about := fmt.Sprint("at ", at)
		checkFails8(t, about, x, 0, 0, 1, at)
		checkFails8(t, about, x, 5, 1, 4, at)
		for _, good := range []int{0, 360, 420, impl.MaxTime} {
			if l, ok := impl.ReachedBy(x, 0, 0, good, at); ok || len(l) != 0 {
				t.Error(about, "ReachedBy from", good, l, ok)
			}
		}
	}
}

func TestJourneysBetweenEqualStops(t *testing.T) {
	// From stop 0 one comes back to it with trip 9.
	for stop := range impl.MaxStops {
		for _, at := range []int{0, 360, 500, impl.MaxTime} {
			checkNoJourney8(t, "between equal stops", town8(), 0, stop, stop, at)
			checkNoJourney8(t, "between equal stops", chain8(), 5, stop, stop, at)
		}
	}
}

func TestIsValidJourneyOfLengths(t *testing.T) {
	x := chain8()
	five := rides8(x, [3]int{1, 0, 1}, [3]int{2, 1, 2}, [3]int{3, 2, 3}, [3]int{4, 3, 4}, [3]int{5, 4, 5})
	checkNoLegs8(t, "nil", x, 0, nil)
	checkNoLegs8(t, "no legs", x, 0, []impl.Leg{})
	checkNoLegs8(t, "an empty leg", x, 0, make([]impl.Leg, 1))
	checkNoLegs8(t, "many legs", x, 0, make([]impl.Leg, 100000))
	for from := range five {
		for to := from + 1; to <= len(five); to++ {
			legs := five[from:to]
			if len(legs) > impl.MaxLegs {
				checkNoLegs8(t, "too many legs", x, 5, legs)
			} else if !impl.IsValidJourney(x, 5, legs) || !impl.IsValidJourney(x, 0, legs) {
				t.Error("no journey", legs)
			}
		}
	}
}

func TestIsValidJourneyOfTripsUsedTwice(t *testing.T) {
	x := town8()
	for _, legs := range [][]impl.Leg{
		rides8(x, [3]int{4, 0, 1}, [3]int{4, 1, 3}),
		rides8(x, [3]int{4, 0, 1}, [3]int{7, 1, 3}, [3]int{4, 3, 2}),
		rides8(x, [3]int{4, 0, 1}, [3]int{7, 1, 3}, [3]int{4, 3, 2}, [3]int{21, 2, 5}),
		rides8(x, [3]int{4, 0, 1}, [3]int{7, 1, 3}, [3]int{9, 3, 0}, [3]int{4, 0, 1}),
		rides8(x, [3]int{7, 1, 3}, [3]int{4, 3, 2}, [3]int{4, 2, 4}),
		rides8(x, [3]int{20, 0, 1}, [3]int{20, 0, 1}),
	} {
		checkNoLegs8(t, "a trip twice", x, 0, legs)
	}
	for _, legs := range [][]impl.Leg{
		rides8(x, [3]int{4, 0, 1}, [3]int{7, 1, 3}),
		rides8(x, [3]int{4, 0, 1}, [3]int{7, 1, 3}, [3]int{9, 3, 0}),
		rides8(x, [3]int{4, 0, 1}, [3]int{7, 1, 3}, [3]int{9, 3, 0}, [3]int{20, 0, 4}),
		rides8(x, [3]int{7, 1, 3}, [3]int{4, 3, 2}, [3]int{21, 2, 1}),
	} {
		if !impl.IsValidJourney(x, 0, legs) {
			t.Error("no journey", legs)
		}
	}
}

func TestIsValidJourneyOfLegsThatDoNotMeet(t *testing.T) {
	x := town8()
	for _, legs := range [][]impl.Leg{
		rides8(x, [3]int{4, 0, 1}, [3]int{9, 3, 0}),
		rides8(x, [3]int{4, 0, 3}, [3]int{20, 1, 3}),
		rides8(x, [3]int{4, 0, 2}, [3]int{20, 0, 2}),
		rides8(x, [3]int{4, 0, 1}, [3]int{7, 1, 3}, [3]int{20, 0, 4}),
		rides8(x, [3]int{4, 0, 1}, [3]int{20, 3, 2}, [3]int{21, 2, 5}),
		// In the wrong order.
		rides8(x, [3]int{7, 1, 3}, [3]int{4, 0, 1}),
		rides8(x, [3]int{20, 0, 1}, [3]int{7, 1, 3}),
	} {
		checkNoLegs8(t, "legs that do not meet", x, 0, legs)
	}
}

func TestIsValidJourneyOfChanges(t *testing.T) {
	for between := range impl.MaxChange + 4 {
		x := plan8([][]int{{0, 7, 1, 9, 2}, {1, 4, 3}, {3, 4, 4}}, [3]int{1, 0, 600}, [3]int{2, 1, 607 + between}, [3]int{3, 2, 711})
		y := plan8([][]int{{0, 7, 1, 9, 2}, {1, 4, 3}, {3, 4, 4}}, [3]int{1, 0, 600}, [3]int{2, 1, 670}, [3]int{3, 2, 674 + between})
		for change := range impl.MaxChange + 1 {
			first := rides8(x, [3]int{1, 0, 1}, [3]int{2, 1, 3}, [3]int{3, 3, 4})
			second := rides8(y, [3]int{1, 0, 1}, [3]int{2, 1, 3}, [3]int{3, 3, 4})
			want := between >= change
			for _, n := range []int{2, 3} {
				if impl.IsValidJourney(x, change, first[:n]) != want {
					t.Error(first[:n], "with the change", change, "is not", want)
				}
			}
			if impl.IsValidJourney(y, change, second) != want || impl.IsValidJourney(y, change, second[1:]) != want {
				t.Error(second, "with the change", change, "is not", want)
			}
		}
	}
	x := plan8([][]int{{0, 7, 1, 9, 2}, {1, 4, 3}}, [3]int{1, 0, 600}, [3]int{2, 1, 606})
	checkNoLegs8(t, "a change before the arrival", x, 0, rides8(x, [3]int{1, 0, 1}, [3]int{2, 1, 3}))
}

func TestIsValidJourneyOfWrongLegs(t *testing.T) {
	x := town8()
	good := rides8(x, [3]int{4, 0, 1}, [3]int{7, 1, 3}, [3]int{20, 3, 2})
	if !impl.IsValidJourney(x, 0, good) {
		t.Fatal("no journey", good)
	}
	for i := range good {
		for _, change := range wrongLegs8(x, good[i]) {
			legs := slices.Clone(good)
			legs[i] = change
			checkNoLegs8(t, "a wrong leg", x, 0, legs)
			checkNoLegs8(t, "only a wrong leg", x, 0, []impl.Leg{change})
		}
	}
}

// wrongLegs8 returns legs that differ from a leg and are none.
func wrongLegs8(t impl.Timetable, leg impl.Leg) []impl.Leg {
	var list []impl.Leg
	change := func(set func(x *impl.Leg)) {
		x := leg
		set(&x)
		list = append(list, x)
	}
	for _, by := range []int{-1, 1, -5, 5, 40, -40, 1 << 32, math.MinInt} {
		change(func(x *impl.Leg) { x.Depart += by })
		change(func(x *impl.Leg) { x.Arrive += by })
		change(func(x *impl.Leg) { x.Depart, x.Arrive = x.Depart+by, x.Arrive+by })
	}
	for _, id := range append([]int{1, 3, 5, 6, 8, 19, 22, 998}, noIds5...) {
		change(func(x *impl.Leg) { x.Trip = id })
	}
	for _, stop := range append([]int{6, 7}, noStops8...) {
		change(func(x *impl.Leg) { x.From = stop })
		change(func(x *impl.Leg) { x.To = stop })
	}
	change(func(x *impl.Leg) { x.To = x.From })
	change(func(x *impl.Leg) { x.From = x.To })
	change(func(x *impl.Leg) { x.To, x.Arrive = x.From, x.Depart })
	change(func(x *impl.Leg) { x.From, x.Depart = x.To, x.Arrive })
	change(func(x *impl.Leg) { x.From, x.To = x.To, x.From })
	change(func(x *impl.Leg) { *x = ride8(t, x.Trip, x.To, x.From) })
	change(func(x *impl.Leg) { x.Depart, x.Arrive = x.Arrive, x.Depart })
	return list
}

func TestEarliestArrivals(t *testing.T) {
	none := []int{-1, -1, -1, -1, -1, -1, -1, -1}
	alone := func(stop int, at int) []int {
		l := slices.Clone(none)
		l[stop] = at
		return l
	}
	for _, c := range []struct {
		about  string
		t      impl.Timetable
		change int
		from   int
		at     int
		want   []int
	}{
		// To get to stop 5 takes one leg more than MaxLegs.
		{"a chain", chain8(), 5, 0, 360, []int{360, 365, 375, 385, 395, -1, -1, -1}},
		{"a chain from the next stop on", chain8(), 5, 1, 370, []int{-1, 370, 375, 385, 395, 405, -1, -1}},
		{"a chain from early on", chain8(), 0, 0, 0, []int{0, 365, 375, 385, 395, -1, -1, -1}},
		{"a chain whose changes are just missed", chain8(), 6, 0, 360, []int{360, 365, -1, -1, -1, -1, -1, -1}},
		{"without a change, one may need time for it", chain8(), impl.MaxChange, 2, 380, []int{-1, -1, 380, 385, -1, -1, -1, -1}},
		{"one minute late", chain8(), 0, 0, 361, alone(0, 361)},
		{"very late", chain8(), 0, 0, impl.MaxTime, alone(0, impl.MaxTime)},
		{"the end of the chain", chain8(), 0, 5, 0, alone(5, 0)},
		{"no line serves the stop", chain8(), 0, 7, 360, alone(7, 360)},
		{"no trips", plan8([][]int{{0, 5, 1}}), 0, 0, 360, alone(0, 360)},
		{"no trips at the other end", plan8([][]int{{0, 5, 1}}), 0, 1, 360, alone(1, 360)},
		{"a town", town8(), 0, 0, 360, []int{360, 365, 390, 375, 400, 411, -1, -1}},
		{"a town with a change of 2", town8(), 2, 0, 360, []int{360, 365, 390, 375, 400, 411, -1, -1}},
		{"a town with a change of 3", town8(), 3, 0, 360, []int{360, 365, 390, 385, 400, 411, -1, -1}},
		{"a town with a change of 6", town8(), 6, 0, 360, []int{360, 365, 390, 385, 400, 411, -1, -1}},
		{"a town with a change of 7", town8(), 7, 0, 360, []int{360, 365, 390, 385, 400, 1784, -1, -1}},
		{"a town and back", town8(), 0, 1, 367, []int{396, 367, 390, 375, 400, 411, -1, -1}},
		{"a town, just missed", town8(), 0, 1, 368, []int{-1, 368, 430, 425, 440, 1784, -1, -1}},
		{"behind midnight", town8(), 0, 2, 1400, []int{-1, 1799, 1400, -1, -1, 1784, -1, -1}},
		{"behind midnight at the time itself", town8(), 30, 2, 1769, []int{-1, 1799, 1769, -1, -1, 1784, -1, -1}},
		{"behind midnight one minute late", town8(), 30, 2, 1770, alone(2, 1770)},
	} {
		if l, ok := impl.EarliestArrivals(c.t, c.change, c.from, c.at); !ok || !slices.Equal(l, c.want) {
			t.Error(c.about, l, ok, "and not", c.want)
		}
	}
}

// tie8 is a timetable and the trips, stops and stops of the first journey in it.
type tie8 struct {
	about string
	t     impl.Timetable
	want  [][3]int
}

// ties8 are searches from stop 0 to stop 3 at 600 with a change of 2 minutes.
func ties8() []tie8 {
	return slices.Concat(legTies8(), tripTies8(), stopTies8())
}

// legTies8 are ties of journeys with different numbers of legs.
func legTies8() []tie8 {
	lines := [][]int{{0, 10, 1, 10, 2}, {1, 8, 3}, {0, 30, 3}, {2, 4, 4}, {4, 3, 3}}
	direct := func(start int) impl.Timetable {
		return plan8(lines, [3]int{1, 0, 600}, [3]int{2, 1, 622}, [3]int{3, 2, start})
	}
	more := func(start int) impl.Timetable {
		return plan8(lines, [3]int{1, 0, 600}, [3]int{2, 3, 622}, [3]int{3, 4, 628}, [3]int{4, 1, start}, [3]int{5, 2, 613})
	}
	return []tie8{
		{"one leg arrives as early as two", direct(600), [][3]int{{3, 0, 3}}},
		{"one leg arrives later than two", direct(601), [][3]int{{1, 0, 1}, {2, 1, 3}}},
		{"two legs arrive as early as three", more(623), [][3]int{{1, 0, 1}, {4, 1, 3}}},
		{"two legs arrive later than three", more(624), [][3]int{{1, 0, 2}, {2, 2, 4}, {3, 4, 3}}},
		{"two legs arrive earlier than three", more(622), [][3]int{{1, 0, 1}, {4, 1, 3}}},
	}
}

// tripTies8 are ties of journeys with different trips.
func tripTies8() []tie8 {
	lines := [][]int{{0, 10, 1, 10, 2}, {1, 8, 3}, {0, 4, 2}, {2, 9, 3}}
	return []tie8{
		{"equal trips", plan8(lines, [3]int{4, 0, 600}, [3]int{5, 0, 600}, [3]int{8, 1, 620}, [3]int{9, 1, 620}), [][3]int{{4, 0, 1}, {8, 1, 3}}},
		{"the smaller Id departs later", plan8(lines, [3]int{4, 0, 605}, [3]int{5, 0, 600}, [3]int{9, 1, 620}), [][3]int{{4, 0, 1}, {9, 1, 3}}},
		{"the smaller Id departs earlier", plan8(lines, [3]int{4, 0, 600}, [3]int{5, 0, 605}, [3]int{9, 1, 620}), [][3]int{{4, 0, 1}, {9, 1, 3}}},
		{"the smaller Id departs too early", plan8(lines, [3]int{4, 0, 599}, [3]int{5, 0, 605}, [3]int{9, 1, 620}), [][3]int{{5, 0, 1}, {9, 1, 3}}},
		{"the smaller Id is just in time", plan8(lines, [3]int{4, 0, 608}, [3]int{5, 0, 600}, [3]int{9, 1, 620}), [][3]int{{4, 0, 1}, {9, 1, 3}}},
		{"the smaller Id is just missed", plan8(lines, [3]int{4, 0, 609}, [3]int{5, 0, 600}, [3]int{9, 1, 620}), [][3]int{{5, 0, 1}, {9, 1, 3}}},
		{"the trip arrives later and has the smaller Id", plan8(lines, [3]int{1, 1, 621}, [3]int{5, 0, 600}, [3]int{9, 1, 620}), [][3]int{{5, 0, 1}, {9, 1, 3}}},
		// Somebody who comes with trip 3 is there in time for trip 6 already.
		{"the first trip decides", plan8(lines, [3]int{2, 0, 600}, [3]int{3, 2, 603}, [3]int{6, 3, 611}, [3]int{7, 1, 612}), [][3]int{{2, 0, 1}, {7, 1, 3}}},
		{"the first trip decides again", plan8(lines, [3]int{2, 2, 603}, [3]int{3, 0, 600}, [3]int{6, 1, 612}, [3]int{7, 3, 611}), [][3]int{{2, 0, 2}, {7, 2, 3}}},
	}
}

// stopTies8 are ties of journeys with equal trips at the beginning and different stops.
func stopTies8() []tie8 {
	same := [][]int{{0, 10, 1, 10, 2, 10, 4}, {1, 10, 2, 10, 4, 10, 3}}
	turned := [][]int{{0, 10, 4, 10, 2, 10, 1}, {4, 10, 2, 10, 1, 10, 3}}
	parted := [][]int{{0, 10, 1, 10, 2}, {1, 22, 3}, {2, 12, 3}}
	longer := [][]int{{0, 5, 1}, {1, 5, 4, 5, 5, 5, 2}, {4, 5, 5, 5, 2, 5, 3}}
	return []tie8{
		{"several stops to change", plan8(same, [3]int{1, 0, 600}, [3]int{2, 1, 612}), [][3]int{{1, 0, 1}, {2, 1, 3}}},
		{"several stops to change, the last one the smallest", plan8(turned, [3]int{1, 0, 600}, [3]int{2, 1, 612}), [][3]int{{1, 0, 1}, {2, 1, 3}}},
		{"the smaller stop and the smaller trip", plan8(parted, [3]int{1, 0, 600}, [3]int{6, 1, 612}, [3]int{7, 2, 622}), [][3]int{{1, 0, 1}, {6, 1, 3}}},
		{"the stop is ahead of the next trip", plan8(parted, [3]int{1, 0, 600}, [3]int{6, 2, 622}, [3]int{7, 1, 612}), [][3]int{{1, 0, 1}, {7, 1, 3}}},
		{"the stop is just missed", plan8(parted, [3]int{1, 0, 600}, [3]int{6, 2, 622}, [3]int{7, 1, 611}, [3]int{8, 1, 613}), [][3]int{{1, 0, 2}, {6, 2, 3}}},
		{"several stops for the second change", plan8(longer, [3]int{1, 0, 600}, [3]int{2, 1, 607}, [3]int{3, 2, 614}), [][3]int{{1, 0, 1}, {2, 1, 2}, {3, 2, 3}}},
	}
}

func TestEarliestJourneyOfTies(t *testing.T) {
	for _, c := range ties8() {
		for _, at := range []int{600, 599, 598} {
			want := rides8(c.t, c.want...)
			if at < 600 && c.about == "the smaller Id departs too early" {
				want = rides8(c.t, [3]int{4, 0, 1}, [3]int{9, 1, 3})
			}
			if l, ok := impl.EarliestJourney(c.t, 2, 0, 3, at); !ok || !slices.Equal(l, want) {
				t.Error(c.about, "at", at, l, ok, "and not", want)
			}
		}
	}
}

func TestEarliestJourney(t *testing.T) {
	for _, c := range []struct {
		about  string
		t      impl.Timetable
		change int
		at     int
		want   [][3]int
	}{
		{"the whole chain", chain8(), 5, 360, [][3]int{{1, 0, 1}, {2, 1, 2}, {3, 2, 3}, {4, 3, 4}}},
		{"the end of the chain", chain8(), 5, 371, [][3]int{{3, 2, 3}, {4, 3, 4}, {5, 4, 5}}},
		{"a leg that passes stops", town8(), 3, 360, [][3]int{{4, 0, 4}}},
		// Not with trip 4, then trip 7 and then trip 4 again, which is as early.
		{"a trip is not left to board it again", town8(), 0, 360, [][3]int{{4, 0, 4}}},
		{"a trip that overtakes", town8(), 2, 360, [][3]int{{4, 0, 1}, {7, 1, 3}}},
		{"a trip that would overtake, just missed", town8(), 3, 360, [][3]int{{4, 0, 3}}},
		{"in time for another trip", town8(), 6, 360, [][3]int{{4, 0, 2}, {21, 2, 5}}},
		{"just missed", town8(), 7, 360, [][3]int{{4, 0, 2}, {999, 2, 5}}},
		{"the trip before is just missed", town8(), 0, 361, [][3]int{{20, 0, 2}, {999, 2, 5}}},
		{"up to the last minute", town8(), 30, 1500, [][3]int{{999, 2, 1}}},
		{"at the time itself", town8(), 30, 1769, [][3]int{{999, 2, 5}}},
	} {
		want := rides8(c.t, c.want...)
		from, to := want[0].From, want[len(want)-1].To
		if l, ok := impl.EarliestJourney(c.t, c.change, from, to, c.at); !ok || !slices.Equal(l, want) {
			t.Error(c.about, l, ok, "and not", want)
		}
	}
}

func TestEarliestJourneyThatDoesNotExist(t *testing.T) {
	for _, c := range []struct {
		about  string
		t      impl.Timetable
		change int
		from   int
		to     int
		at     int
	}{
		{"too many legs", chain8(), 0, 0, 5, 360},
		{"too many legs, from early on", chain8(), 0, 0, 5, 0},
		{"a change just missed", chain8(), 6, 0, 2, 360},
		{"another change just missed", chain8(), 6, 2, 4, 0},
		{"one minute late", chain8(), 0, 0, 1, 361},
		{"backwards", chain8(), 0, 1, 0, 0},
		{"to a stop that no line serves", chain8(), 0, 0, 7, 0},
		{"from a stop that no line serves", chain8(), 0, 7, 0, 0},
		{"between stops that no line serves", chain8(), 0, 6, 7, 0},
		{"no trips", plan8([][]int{{0, 5, 1}}), 0, 0, 1, 0},
		{"behind the last trip", town8(), 0, 2, 1, 1770},
		{"at the last minute", town8(), 0, 2, 1, impl.MaxTime},
	} {
		if l, ok := impl.EarliestJourney(c.t, c.change, c.from, c.to, c.at); ok || len(l) != 0 {
			t.Error(c.about, l, ok)
		}
	}
}

func TestLatestDeparture(t *testing.T) {
	none := -1
	for _, c := range []struct {
		about  string
		t      impl.Timetable
		change int
		from   int
		to     int
		by     int
		want   int
	}{
		{"at the time by", chain8(), 5, 0, 4, 395, 360},
		{"one minute early", chain8(), 5, 0, 4, 394, none},
		{"a change just missed", chain8(), 6, 0, 4, 395, none},
		{"a long time later", chain8(), 0, 0, 4, impl.MaxTime, 360},
		{"too many legs", chain8(), 0, 0, 5, impl.MaxTime, none},
		{"four legs", chain8(), 0, 1, 5, 405, 370},
		{"the first trip", town8(), 0, 0, 3, 424, 360},
		{"the second trip", town8(), 0, 0, 3, 425, 400},
		{"with a change", town8(), 2, 0, 3, 375, 360},
		{"with a change, one minute early", town8(), 2, 0, 3, 374, none},
		{"without the change, just missed", town8(), 3, 0, 3, 384, none},
		{"without the change", town8(), 3, 0, 3, 385, 360},
		{"one leg later than two", town8(), 0, 1, 3, 385, 367},
		{"in time for another trip", town8(), 6, 0, 1, 425, 400},
		{"behind midnight", town8(), 0, 2, 1, impl.MaxTime, 1769},
		{"ahead of midnight", town8(), 0, 2, 1, impl.MaxTime - 1, 396},
		{"from one day to the next", town8(), 30, 0, 5, 1784, 400},
		{"from one day to the next, just missed", town8(), 0, 0, 5, 1783, 360},
		{"no trips", plan8([][]int{{0, 5, 1}}), 0, 0, 1, impl.MaxTime, none},
		{"no time", chain8(), 0, 0, 1, 0, none},
		{"midnight", plan8([][]int{{0, 5, 1}}, [3]int{1, 0, 0}), 0, 0, 1, 5, 0},
		{"midnight, one minute early", plan8([][]int{{0, 5, 1}}, [3]int{1, 0, 0}), 0, 0, 1, 4, none},
		{"backwards", chain8(), 0, 1, 0, impl.MaxTime, none},
		{"to a stop that no line serves", chain8(), 0, 0, 7, impl.MaxTime, none},
		{"from a stop that no line serves", chain8(), 0, 7, 0, impl.MaxTime, none},
	} {
		d, ok := impl.LatestDeparture(c.t, c.change, c.from, c.to, c.by)
		if ok != (c.want != none) || d != max(c.want, 0) {
			t.Error(c.about, d, ok, "and not", c.want)
		}
	}
}

func TestReachedBy(t *testing.T) {
	for _, c := range []struct {
		about string
		t     impl.Timetable
		from  int
		at    int
		by    int
		want  []int
	}{
		{"one minute before the departure", chain8(), 0, 360, 359, nil},
		{"at the beginning", chain8(), 0, 360, 0, nil},
		{"at once", chain8(), 0, 360, 360, []int{0}},
		{"one minute ahead", chain8(), 0, 360, 364, []int{0}},
		{"at the time by", chain8(), 0, 360, 365, []int{0, 1}},
		{"further on", chain8(), 0, 360, 394, []int{0, 1, 2, 3}},
		{"as far as possible", chain8(), 0, 360, 395, []int{0, 1, 2, 3, 4}},
		{"as late as possible", chain8(), 0, 360, impl.MaxTime, []int{0, 1, 2, 3, 4}},
		{"from the next stop", chain8(), 1, 0, impl.MaxTime, []int{1, 2, 3, 4, 5}},
		{"a stop that no line serves", chain8(), 7, 360, 360, []int{7}},
		{"a stop that no line serves, too early", chain8(), 7, 360, 359, nil},
		{"no trips", plan8([][]int{{0, 5, 1}}), 1, 0, 0, []int{1}},
		{"a town", town8(), 0, 360, 390, []int{0, 1, 2, 3}},
		{"a town, one minute ahead", town8(), 0, 360, 389, []int{0, 1, 3}},
		{"behind midnight", town8(), 2, 1769, impl.MaxTime - 1, []int{2, 5}},
		{"the last minute", town8(), 2, 1769, impl.MaxTime, []int{1, 2, 5}},
		{"from the last minute on", town8(), 2, impl.MaxTime, impl.MaxTime, []int{2}},
	} {
		if l, ok := impl.ReachedBy(c.t, 0, c.from, c.at, c.by); !ok || !slices.Equal(l, c.want) {
			t.Error(c.about, l, ok, "and not", c.want)
		}
	}
}

func TestTimesAndStopsOfJourneys(t *testing.T) {
	chain, town := chain8(), town8()
	for _, c := range []struct {
		about   string
		t       impl.Timetable
		legs    []impl.Leg
		all     int
		between int
		stops   []int
	}{
		{"one leg", chain, rides8(chain, [3]int{1, 0, 1}), 5, 0, []int{0, 1}},
		{"two legs", chain, rides8(chain, [3]int{1, 0, 1}, [3]int{2, 1, 2}), 15, 5, []int{0, 1, 2}},
		{"four legs", chain, rides8(chain, [3]int{2, 1, 2}, [3]int{3, 2, 3}, [3]int{4, 3, 4}, [3]int{5, 4, 5}), 35, 15, []int{1, 2, 3, 4, 5}},
		{"a leg that passes stops", town, rides8(town, [3]int{4, 0, 4}), 40, 0, []int{0, 1, 3, 2, 4}},
		{"a leg from the middle", town, rides8(town, [3]int{4, 1, 2}), 25, 0, []int{1, 3, 2}},
		{"the last part of a line", town, rides8(town, [3]int{20, 2, 4}), 10, 0, []int{2, 4}},
		{"legs that pass stops", town, rides8(town, [3]int{4, 0, 2}, [3]int{21, 2, 1}), 66, 6, []int{0, 1, 3, 2, 5, 1}},
		{"back to the beginning", town, rides8(town, [3]int{4, 0, 3}, [3]int{9, 3, 0}), 36, 5, []int{0, 1, 3, 0}},
		{"on from the beginning", town, rides8(town, [3]int{4, 0, 1}, [3]int{7, 1, 3}, [3]int{9, 3, 0}, [3]int{20, 0, 3}), 65, 21, []int{0, 1, 3, 0, 1, 3}},
		{"across midnight", town, rides8(town, [3]int{4, 0, 2}, [3]int{999, 2, 1}), 1439, 1379, []int{0, 1, 3, 2, 5, 1}},
	} {
		if all, between, ok := impl.JourneyTimes(c.t, 0, c.legs); !ok || all != c.all || between != c.between {
			t.Error(c.about, "takes", all, between, ok)
		}
		if l, ok := impl.ServedStops(c.t, 0, c.legs); !ok || !slices.Equal(l, c.stops) {
			t.Error(c.about, "serves", l, ok)
		}
	}
	missed := rides8(town, [3]int{4, 0, 2}, [3]int{21, 2, 1})
	checkNoLegs8(t, "just missed", town, 7, missed)
	if all, between, ok := impl.JourneyTimes(town, 6, missed); !ok || all != 66 || between != 6 {
		t.Error("just in time", all, between, ok)
	}
}

func TestFillLeg(t *testing.T) {
	for _, x := range []impl.Timetable{chain8(), town8(), day5()} {
		legs := legs8(x)
		for id := range 1001 {
			for from := range impl.MaxStops {
				for to := range impl.MaxStops {
					want := impl.Leg{}
					i := slices.IndexFunc(legs, func(l impl.Leg) bool { return l.Trip == id && l.From == from && l.To == to })
					if i >= 0 {
						want = legs[i]
					}
					if leg, ok := impl.FillLeg(x, id, from, to); ok != (i >= 0) || leg != want {
						t.Fatal("trip", id, "from", from, "to", to, "is", leg, ok, "and not", want)
					}
				}
			}
		}
	}
	want := impl.Leg{Trip: 4, From: 1, To: 2, Depart: 365, Arrive: 390}
	if leg, ok := impl.FillLeg(town8(), 4, 1, 2); !ok || leg != want {
		t.Error(leg, ok, "and not", want)
	}
}

func TestFillLegRejects(t *testing.T) {
	x := town8()
	for _, id := range append([]int{1, 3, 5, 6, 8, 19, 22, 998}, noIds5...) {
		if leg, ok := impl.FillLeg(x, id, 0, 1); ok || leg != (impl.Leg{}) {
			t.Error("trip", id, leg, ok)
		}
	}
	for _, stop := range append([]int{6, 7}, noStops8...) {
		for _, ends := range [][2]int{{0, stop}, {stop, 4}, {stop, stop}} {
			if leg, ok := impl.FillLeg(x, 4, ends[0], ends[1]); ok || leg != (impl.Leg{}) {
				t.Error("stops", ends, leg, ok)
			}
		}
	}
}

// samples8 returns timetables with changes, many of which have several trips within minutes.
func samples8(count int) []sample8 {
	list := []sample8{{town8(), 0}, {town8(), 2}, {town8(), 6}, {chain8(), 5}, {chain8(), 6}, {day5(), 0}, {plan8([][]int{{0, 5, 1}}), 0}}
	for _, c := range ties8() {
		list = append(list, sample8{c.t, 2})
	}
	r := random2(8)
	for i := range count {
		change := []int{0, 1, 2, 5, impl.MaxChange}[r.below(5)]
		t := r.linked8(change)
		switch i % 6 {
		case 0:
			t = r.timetable5()
		case 1:
			t = r.busy7()
		}
		list = append(list, sample8{t, change})
	}
	return list
}

// sample8 is a valid timetable and a valid change.
type sample8 struct {
	t      impl.Timetable
	change int
}

// chain8 returns a valid network with short lines and runs of few minutes, in which lines begin
// where the ones before them end, as far as there are stops left.
func (r *random2) chain8() impl.Network {
	n := impl.Network{Stops: stops2(5 + r.below(impl.MaxStops-4))}
	left := r.shuffled2(len(n.Stops), len(n.Stops))
	for i := range impl.MaxLines - r.below(2) {
		count := 2 + r.below(2)*r.below(2)
		l := impl.Line{Name: fmt.Sprint("l", i), Stops: r.shuffled2(len(n.Stops), count)}
		if count <= len(left) {
			copy(l.Stops, left)
			left = left[count-1:]
		}
		for range count - 1 {
			l.Runs = append(l.Runs, 1+r.below(4))
		}
		n.Lines = append(n.Lines, l)
	}
	return n
}

// linked8 returns a valid timetable whose trips are at the stops of other trips about when one
// can come from these with a change, so that many journeys need several legs, are just made or
// just missed, and arrive at the same time.
func (r *random2) linked8(change int) impl.Timetable {
	return r.linkedFrom8(r.chain8(), []int{20, 600, 1400}[r.below(3)], change)
}

// linkedFrom8 returns such a timetable of n, of which the first trip on line 0 has this Start.
func (r *random2) linkedFrom8(n impl.Network, first int, change int) impl.Timetable {
	t := impl.Timetable{Network: n}
	starts := []impl.Trip{{Start: first}}
	for range 60 {
		x := starts[r.below(len(starts))]
		times := stopTimes5(t.Network, x)
		place := 1 + r.below(len(times)-1)
		next := r.below(len(t.Network.Lines))
		at := slices.Index(t.Network.Lines[next].Stops, t.Network.Lines[x.Line].Stops[place])
		if at >= 0 && at < len(t.Network.Lines[next].Stops)-1 && len(starts) < impl.MaxTrips {
			before := stopTimes5(t.Network, impl.Trip{Line: next})[at]
			starts = append(starts, impl.Trip{Line: next, Start: times[place] + change + r.below(4) - 1 - before})
		}
	}
	for id, i := range r.shuffled2(len(starts), len(starts)) {
		starts[i].Id = id + 1
		t.Trips = append(t.Trips, starts[i])
	}
	return t
}

// times8 returns the times around those at which a trip of t is at a stop, and the limits.
func times8(t impl.Timetable) []int {
	list := []int{0, 1, impl.MaxTime - 1, impl.MaxTime}
	for _, x := range t.Trips {
		for _, at := range stopTimes5(t.Network, x) {
			list = append(list, at-1, at, at+1)
		}
	}
	slices.Sort(list)
	return slices.DeleteFunc(slices.Compact(list), func(at int) bool { return at < 0 || at > impl.MaxTime })
}

func TestJourneysOfRandomTimetables(t *testing.T) {
	several := 0
	for _, x := range samples8(160) {
		best := bestOf8(x.t, x.change)
		stops := len(x.t.Network.Stops)
		for from := range stops {
			for _, at := range times8(x.t) {
				want := best.arrivals(stops, from, at)
				if l, ok := impl.EarliestArrivals(x.t, x.change, from, at); !ok || !slices.Equal(l, want) {
					t.Fatal("from", from, "at", at, "in", x, "one arrives at", l, ok, "and not", want)
				}
				for to := range stops {
					if to == from {
						continue
					}
					want := best.earliest(from, to, at)
					if l, ok := impl.EarliestJourney(x.t, x.change, from, to, at); ok != (want != nil) || !slices.Equal(l, want) {
						t.Fatal("from", from, "to", to, "at", at, "in", x, "one takes", l, ok, "and not", want)
					}
					if len(want) > 2 {
						several++
					}
				}
			}
		}
	}
	if several < 1000 {
		t.Error("only", several, "journeys have three legs or more")
	}
}

func TestLatestAndReachedOfRandomTimetables(t *testing.T) {
	for _, x := range samples8(90) {
		best := bestOf8(x.t, x.change)
		stops, times := len(x.t.Network.Stops), times8(x.t)
		for from := range stops {
			for _, by := range times {
				for to := range stops {
					if to == from {
						continue
					}
					want, wantOk := best.latest(from, to, by)
					if d, ok := impl.LatestDeparture(x.t, x.change, from, to, by); ok != wantOk || d != want {
						t.Fatal("from", from, "to", to, "by", by, "in", x, "one departs at", d, ok, "and not", want, wantOk)
					}
				}
			}
			for i, at := range times {
				by := times[(i*7+3)%len(times)]
				var want []int
				for stop, arrival := range best.arrivals(stops, from, at) {
					if arrival >= 0 && arrival <= by {
						want = append(want, stop)
					}
				}
				if l, ok := impl.ReachedBy(x.t, x.change, from, at, by); !ok || !slices.Equal(l, want) {
					t.Fatal("from", from, "at", at, "in", x, "one reaches", l, ok, "by", by, "and not", want)
				}
			}
		}
	}
}

func TestAllJourneysOfRandomTimetables(t *testing.T) {
	for _, x := range samples8(60) {
		seen := 0
		allJourneys8(x.t, x.change, func(journey []impl.Leg) {
			seen++
			if seen > 4000 {
				return
			}
			if !impl.IsValidJourney(x.t, x.change, journey) {
				t.Fatal("no journey in", x, journey)
			}
			last := len(journey) - 1
			between := 0
			stops := []int{journey[0].From}
			for i, leg := range journey {
				if i > 0 {
					between += leg.Depart - journey[i-1].Arrive
				}
				stops = append(stops, passed8(x.t, leg)...)
			}
			if all, m, ok := impl.JourneyTimes(x.t, x.change, journey); !ok || all != journey[last].Arrive-journey[0].Depart || m != between {
				t.Fatal("times of", journey, "in", x, all, m, ok)
			}
			if l, ok := impl.ServedStops(x.t, x.change, journey); !ok || !slices.Equal(l, stops) {
				t.Fatal("stops of", journey, "in", x, l, ok, "and not", stops)
			}
		})
	}
}

// passed8 returns the stops of a leg behind the first one: those that its trip is at later than
// Depart and not later than Arrive.
func passed8(t impl.Timetable, leg impl.Leg) []int {
	var list []int
	for _, x := range t.Trips {
		for place, at := range stopTimes5(t.Network, x) {
			if x.Id == leg.Trip && at > leg.Depart && at <= leg.Arrive {
				list = append(list, t.Network.Lines[x.Line].Stops[place])
			}
		}
	}
	return list
}

// anyLegs8 returns legs that often, but not always, are a journey.
func (r *random2) anyLegs8(t impl.Timetable) []impl.Leg {
	all := legs8(t)
	legs := []impl.Leg{all[r.below(len(all))]}
	for range r.below(5) {
		var next []impl.Leg
		for _, leg := range all {
			if last := legs[len(legs)-1]; leg.From == last.To && leg.Depart >= last.Arrive-2 {
				next = append(next, leg)
			}
		}
		if len(next) > 0 {
			legs = append(legs, next[r.below(len(next))])
		}
	}
	if r.below(10) == 0 {
		legs[r.below(len(legs))].Arrive++
	}
	return legs
}

func TestIsValidJourneyOfRandomLegs(t *testing.T) {
	r := random2(88)
	count := map[bool]int{}
	for _, x := range samples8(300) {
		if len(x.t.Trips) == 0 {
			continue
		}
		for range 60 {
			legs := r.anyLegs8(x.t)
			want := len(legs) <= 4
			trips := map[int]bool{}
			for i, leg := range legs {
				want = want && leg == ride8(x.t, leg.Trip, leg.From, leg.To) && leg.Depart < leg.Arrive && !trips[leg.Trip]
				want = want && (i == 0 || legs[i-1].To == leg.From && leg.Depart-legs[i-1].Arrive >= x.change)
				trips[leg.Trip] = true
			}
			count[want]++
			if impl.IsValidJourney(x.t, x.change, legs) != want {
				t.Fatal("whether", legs, "is a journey in", x, "is not", want)
			}
			if !want {
				checkNoLegs8(t, "in a random timetable", x.t, x.change, legs)
			}
		}
	}
	if count[true] < 3000 || count[false] < 3000 {
		t.Error("journeys and others:", count)
	}
}

// Promise 8.
func TestTheEarliestJourneyArrivesAtTheEarliestArrival(t *testing.T) {
	found := 0
	for _, x := range samples8(120) {
		for from := range x.t.Network.Stops {
			for _, at := range times8(x.t) {
				arrivals, ok := impl.EarliestArrivals(x.t, x.change, from, at)
				if !ok || len(arrivals) != len(x.t.Network.Stops) || arrivals[from] != at {
					t.Fatal("arrivals from", from, "at", at, "in", x, arrivals, ok)
				}
				for to, arrival := range arrivals {
					legs, ok := impl.EarliestJourney(x.t, x.change, from, to, at)
					if ok != (arrival >= 0 && to != from) {
						t.Fatal("from", from, "to", to, "at", at, "in", x, legs, ok, "but", arrivals)
					}
					if !ok {
						continue
					}
					found++
					last := legs[len(legs)-1]
					if !impl.IsValidJourney(x.t, x.change, legs) || legs[0].From != from || last.To != to || legs[0].Depart < at {
						t.Fatal("no journey from", from, "to", to, "at", at, "in", x, legs)
					}
					if last.Arrive != arrival {
						t.Fatal(legs, "in", x, "does not arrive at", arrival)
					}
					if depart, ok := impl.LatestDeparture(x.t, x.change, from, to, arrival); !ok || depart < legs[0].Depart {
						t.Fatal(legs, "in", x, "departs behind the latest departure", depart, ok)
					}
				}
			}
		}
	}
	if found < 15000 {
		t.Error("only", found, "journeys were found")
	}
}

// results8 returns all results of the functions of the chapter, and changes everything that
// they hold afterwards.
func results8(x sample8) string {
	s := ""
	for from := range x.t.Network.Stops {
		for _, at := range []int{0, 360, 365, 600, 610, impl.MaxTime - 40} {
			arrivals, ok := impl.EarliestArrivals(x.t, x.change, from, at)
			reached, _ := impl.ReachedBy(x.t, x.change, from, at, at+10)
			s += fmt.Sprintln(arrivals, reached, ok)
			fill2(arrivals)
			fill2(reached)
			for to := range x.t.Network.Stops {
				legs, ok := impl.EarliestJourney(x.t, x.change, from, to, at)
				s += fmt.Sprintln(legs, ok)
				s += fmt.Sprintln(impl.LatestDeparture(x.t, x.change, from, to, at))
				s += resultsOfLegs8(x, legs)
				clear(legs[:cap(legs)])
			}
		}
	}
	for _, leg := range legs8(x.t) {
		s += fmt.Sprintln(impl.FillLeg(x.t, leg.Trip, leg.From, leg.To))
		s += resultsOfLegs8(x, []impl.Leg{leg})
	}
	return s
}

// resultsOfLegs8 does the same with the functions that take legs.
func resultsOfLegs8(x sample8, legs []impl.Leg) string {
	s := fmt.Sprintln(impl.IsValidJourney(x.t, x.change, legs))
	s += fmt.Sprintln(impl.JourneyTimes(x.t, x.change, legs))
	stops, ok := impl.ServedStops(x.t, x.change, legs)
	s += fmt.Sprintln(stops, ok)
	fill2(stops)
	return s
}

// checkTimetablesKept8 checks that functions neither modify timetables nor read beyond their ends
// nor keep anything; results calls them and changes what they return.
func checkTimetablesKept8(t *testing.T, list []sample8, results func(sample8) string) {
	t.Helper()
	for _, x := range list {
		roomy := roomy5(x.t)
		before := wide5(roomy)
		got := results(sample8{roomy, x.change})
		if after := wide5(roomy); !reflect.DeepEqual(after, before) {
			t.Fatal("an argument was", before, "and is", after)
		}
		for range 2 {
			if got != results(sample8{clone5(x.t), x.change}) {
				t.Fatal("other results for", x)
			}
		}
	}
}

// checkLegsKept8 checks the same of functions that take legs, with one in step of the first
// journeys of every timetable, and with its beginnings.
func checkLegsKept8(t *testing.T, list []sample8, step int, first int, results func(sample8, []impl.Leg) string) {
	t.Helper()
	for _, x := range list {
		seen := 0
		allJourneys8(x.t, x.change, func(journey []impl.Leg) {
			if seen++; seen%step != 0 || seen > first {
				return
			}
			for count := range len(journey) + 1 {
				list := slices.Clone(journey)
				got := results(x, list[:count])
				if !slices.Equal(list, journey) {
					t.Fatal("an argument was", journey, "and is", list)
				}
				if got != results(x, slices.Clone(journey[:count])) {
					t.Fatal("other results for", journey[:count], "in", x)
				}
			}
		})
	}
}

func TestJourneysDoNotModifyTimetables(t *testing.T) {
	checkTimetablesKept8(t, samples8(25), results8)
}

func TestJourneysAreNotModifiedAndNotReadBeyondTheEnd(t *testing.T) {
	checkLegsKept8(t, samples8(40), 17, 10000, resultsOfLegs8)
}
