package tests

import (
	"fmt"
	"math"
	"reflect"
	"slices"
	"testing"

	"loop.example/g00900/impl"
)

// network5 is town2 with a further line, on which no trip of day5 runs. It goes through stop 0,
// where l1 begins and x9 ends.
func network5() impl.Network {
	n := town2()
	n.Lines = append(n.Lines, impl.Line{Name: "n1", Stops: []int{1, 0, 5}, Runs: []int{2, 3}})
	return n
}

// day5 has trips of equal Start, trips across midnight, a trip behind it and one that arrives
// at MaxTime; its free Ids lie ahead of, between and behind the others.
func day5() impl.Timetable {
	return impl.Timetable{Network: network5(), Trips: []impl.Trip{
		{Id: 2, Line: 0, Start: 360},
		{Id: 5, Line: 1, Start: 1400},
		{Id: 6, Line: 0, Start: 348},
		{Id: 40, Line: 2, Start: 1439},
		{Id: 41, Line: 0, Start: 360},
		{Id: 700, Line: 2, Start: 1768},
		{Id: 998, Line: 0, Start: 1500},
	}}
}

// trips5 returns this number of trips of line 0 with the Ids from 1 on.
func trips5(count int) []impl.Trip {
	var list []impl.Trip
	for i := range count {
		list = append(list, impl.Trip{Id: i + 1, Start: 100 - i})
	}
	return list
}

// with5 returns a timetable of network5 with these trips.
func with5(trips ...impl.Trip) impl.Timetable {
	return impl.Timetable{Network: network5(), Trips: trips}
}

// clone5 returns a timetable that shares nothing with t.
func clone5(t impl.Timetable) impl.Timetable {
	return impl.Timetable{Network: clone2(t.Network), Trips: slices.Clone(t.Trips)}
}

// same5 reports whether two timetables are equal, where a nil slice is an empty one.
func same5(a impl.Timetable, b impl.Timetable) bool {
	sameLine := func(a impl.Line, b impl.Line) bool {
		return a.Name == b.Name && slices.Equal(a.Stops, b.Stops) && slices.Equal(a.Runs, b.Runs)
	}
	return slices.Equal(a.Network.Stops, b.Network.Stops) && slices.EqualFunc(a.Network.Lines, b.Network.Lines, sameLine) && slices.Equal(a.Trips, b.Trips)
}

func isZero5(t impl.Timetable) bool { return same5(t, impl.Timetable{}) }

// noIds5 are numbers that no trip can have as its Id.
var noIds5 = []int{0, -1, -2, impl.MaxId + 1, impl.MaxId + 2, 1 << 32, 1<<32 + 2, math.MaxInt, math.MinInt, math.MinInt + 2}

// noLines5 are numbers that no line of network5 has.
var noLines5 = []int{4, 5, impl.MaxLines, impl.MaxLines + 1, -1, -2, 1 << 32, math.MaxInt, math.MinInt}

// minutes5 are numbers at which overflow could happen, and numbers around the limits of times.
var minutes5 = []int{
	math.MinInt, math.MinInt + 1, math.MinInt + 360, -1 << 32, -1800, -1799, -361, -360, -349, -348, -347, -1, 0, 1, 59, 60, 1427, 1428,
	impl.MaxTime - 1, impl.MaxTime, impl.MaxTime + 1, 1 << 32, math.MaxInt - 1799, math.MaxInt - 360, math.MaxInt - 1, math.MaxInt,
}

// validity5 is one timetable and what IsValidTimetable should say of it.
type validity5 struct {
	about string
	t     impl.Timetable
	valid bool
}

func validities5() []validity5 {
	return slices.Concat(sizes5(), ids5(), tripLines5(), starts5(), networks5())
}

func sizes5() []validity5 {
	list := []validity5{
		{"a day", day5(), true},
		{"nil trips", with5(), true},
		{"empty trips", with5([]impl.Trip{}...), true},
		{"nothing", impl.Timetable{}, false},
	}
	for count := range 30 {
		list = append(list, validity5{fmt.Sprint(count, " trips"), with5(trips5(count)...), count <= impl.MaxTrips})
	}
	return list
}

func ids5() []validity5 {
	var list []validity5
	add := func(valid bool, ids ...int) {
		var trips []impl.Trip
		for _, id := range ids {
			trips = append(trips, impl.Trip{Id: id, Line: 1, Start: 600})
		}
		list = append(list, validity5{fmt.Sprint("the Ids ", ids), with5(trips...), valid})
	}
	add(true, 1)
	add(true, 2)
	add(true, impl.MaxId-1)
	add(true, impl.MaxId)
	add(true, 1, 2)
	add(true, 1, impl.MaxId)
	add(true, impl.MaxId-1, impl.MaxId)
	add(true, 3, 50, 51, 998)
	for _, id := range noIds5 {
		add(false, id)
		add(false, id, 500)
		add(false, 500, id)
		add(false, 1, id, impl.MaxId)
	}
	add(false, 1, 1)
	add(false, impl.MaxId, impl.MaxId)
	add(false, 2, 1)
	add(false, impl.MaxId, 1)
	add(false, 1, 2, 2)
	add(false, 1, 1, 2)
	add(false, 2, 1, 3)
	add(false, 1, 3, 2)
	add(false, 3, 2, 1)
	add(false, 1, 2, 1)
	return list
}

// atEachPlace5 returns day5 once for every trip, with this change of it.
func atEachPlace5(about string, valid bool, change func(x *impl.Trip)) []validity5 {
	var list []validity5
	for i := range day5().Trips {
		t := day5()
		change(&t.Trips[i])
		list = append(list, validity5{fmt.Sprint(about, " at place ", i), t, valid})
	}
	return list
}

func tripLines5() []validity5 {
	var list []validity5
	for line := range 4 {
		change := func(x *impl.Trip) { x.Line, x.Start = line, 600 }
		list = append(list, atEachPlace5(fmt.Sprint("line ", line), true, change)...)
	}
	for _, line := range noLines5 {
		change := func(x *impl.Trip) { x.Line = line }
		list = append(list, atEachPlace5(fmt.Sprint("line ", line), false, change)...)
	}
	return list
}

func starts5() []validity5 {
	var list []validity5
	for line, minutes := range []int{12, 60, 31, 5} {
		latest := impl.MaxTime - minutes
		for start, valid := range map[int]bool{
			0: true, 1: true, 1439: true, 1440: true, 1441: true, latest - 1: true, latest: true,
			latest + 1: false, latest + 2: false, impl.MaxTime - 1: false, impl.MaxTime: false, impl.MaxTime + 1: false,
			-1: false, -2: false, -minutes: false, -minutes - 1: false, -1440: false,
			math.MaxInt: false, math.MaxInt - minutes: false, math.MaxInt - minutes + 1: false, math.MinInt: false, math.MinInt + 1: false, 1 << 32: false,
		} {
			change := func(x *impl.Trip) { x.Line, x.Start = line, start }
			list = append(list, atEachPlace5(fmt.Sprint("line ", line, " at ", start), valid, change)...)
		}
	}
	// A line with the most stops and the longest runs.
	n := impl.Network{Stops: stops2(6), Lines: []impl.Line{{Name: "long", Stops: []int{5, 4, 3, 2, 1, 0}, Runs: []int{60, 60, 60, 60, 60}}}}
	for start, valid := range map[int]bool{0: true, 1439: true, 1499: true, 1500: false, 1739: false} {
		list = append(list, validity5{fmt.Sprint("the long line at ", start), impl.Timetable{Network: n, Trips: []impl.Trip{{Id: 1, Start: start}}}, valid})
	}
	return list
}

// networks5 returns a timetable for every network of chapter 2, with and without a trip.
func networks5() []validity5 {
	var list []validity5
	for _, c := range validities2() {
		list = append(list, validity5{"no trips in " + c.about, impl.Timetable{Network: c.n}, c.valid})
		list = append(list, validity5{"a trip in " + c.about, impl.Timetable{Network: c.n, Trips: []impl.Trip{{Id: 2, Start: 360}}}, c.valid})
	}
	return list
}

func TestLimitsOfTimetables(t *testing.T) {
	if impl.MaxTrips != 12 || impl.MaxId != 999 {
		t.Error(impl.MaxTrips, impl.MaxId)
	}
}

func TestIsValidTimetable(t *testing.T) {
	for _, c := range validities5() {
		if impl.IsValidTimetable(c.t) != c.valid {
			t.Errorf("%s: valid is not %v", c.about, c.valid)
		}
	}
}

func TestInvalidTimetablesGiveZeroValues(t *testing.T) {
	for _, c := range validities5() {
		if c.valid {
			continue
		}
		// All Ids that the trips have, and one that is free.
		ids := []int{1, 777}
		for _, x := range c.t.Trips {
			ids = append(ids, x.Id)
		}
		for _, id := range ids {
			checkInvalid5(t, c.about, c.t, id)
		}
		if l, ok := impl.DeparturesAt(c.t, 0, 0); ok || len(l) != 0 {
			t.Error(c.about, "DeparturesAt", l, ok)
		}
		if l, ok := impl.HeadwaysOf(c.t, 0); ok || len(l) != 0 {
			t.Error(c.about, "HeadwaysOf", l, ok)
		}
		if l, ok := impl.TripsRunning(c.t, 362); ok || len(l) != 0 {
			t.Error(c.about, "TripsRunning", l, ok)
		}
		for _, to := range []int{361, 360, 359} {
			if x, count, ok := impl.RepeatTrips(c.t, 0, 360, to, 10); ok || count != 0 || !isZero5(x) {
				t.Error(c.about, "RepeatTrips", to, x, count, ok)
			}
		}
	}
}

// checkInvalid5 calls the functions that take an Id; some of these calls would mend an invalid
// timetable if they were made.
func checkInvalid5(t *testing.T, about string, x impl.Timetable, id int) {
	t.Helper()
	if i, ok := impl.TripNumber(x, id); ok || i != 0 {
		t.Error(about, "TripNumber", id, i, ok)
	}
	if l, ok := impl.StopTimes(x, id); ok || len(l) != 0 {
		t.Error(about, "StopTimes", id, l, ok)
	}
	if y, ok := impl.AddTrip(x, impl.Trip{Id: id, Start: 360}); ok || !isZero5(y) {
		t.Error(about, "AddTrip", id, y, ok)
	}
	if y, ok := impl.RemoveTrip(x, id); ok || !isZero5(y) {
		t.Error(about, "RemoveTrip", id, y, ok)
	}
	for _, minutes := range minutes5 {
		if y, ok := impl.ShiftTrip(x, id, minutes); ok || !isZero5(y) {
			t.Error(about, "ShiftTrip", id, minutes, y, ok)
		}
	}
}

func TestTripsThatDoNotExist(t *testing.T) {
	for _, x := range []impl.Timetable{day5(), with5(), with5(trips5(impl.MaxTrips)...)} {
		for _, id := range append([]int{13, 14, 39, 42, 699, 701, 997, 999}, noIds5...) {
			if i, ok := impl.TripNumber(x, id); ok || i != 0 {
				t.Error("TripNumber", id, i, ok)
			}
			if l, ok := impl.StopTimes(x, id); ok || len(l) != 0 {
				t.Error("StopTimes", id, l, ok)
			}
			if y, ok := impl.RemoveTrip(x, id); ok || !isZero5(y) {
				t.Error("RemoveTrip", id, y, ok)
			}
			if y, ok := impl.ShiftTrip(x, id, 0); ok || !isZero5(y) {
				t.Error("ShiftTrip", id, y, ok)
			}
		}
	}
}

func TestTripNumber(t *testing.T) {
	for _, x := range []impl.Timetable{day5(), with5(), with5(trips5(1)...), with5(trips5(impl.MaxTrips)...)} {
		for id := -2; id <= impl.MaxId+2; id++ {
			want := slices.IndexFunc(x.Trips, func(x impl.Trip) bool { return x.Id == id })
			if i, ok := impl.TripNumber(x, id); ok != (want >= 0) || i != max(want, 0) {
				t.Error("trip", id, "is number", i, ok)
			}
		}
	}
}

func TestStopTimes(t *testing.T) {
	for id, want := range map[int][]int{
		2: {360, 365, 372}, 5: {1400, 1460}, 6: {348, 353, 360}, 40: {1439, 1440, 1470}, 41: {360, 365, 372},
		700: {1768, 1769, 1799}, 998: {1500, 1505, 1512},
	} {
		if l, ok := impl.StopTimes(day5(), id); !ok || !slices.Equal(l, want) {
			t.Error("trip", id, "is at its stops at", l, ok)
		}
	}
	for start, want := range map[int][]int{0: {0, 2, 5}, 1439: {1439, 1441, 1444}, 1794: {1794, 1796, 1799}} {
		if l, ok := impl.StopTimes(with5(impl.Trip{Id: 1, Line: 3, Start: start}), 1); !ok || !slices.Equal(l, want) {
			t.Error("from", start, "the stop times are", l, ok)
		}
	}
}

// stopTimes5 returns the stop times of a trip, counted minute by minute.
func stopTimes5(n impl.Network, x impl.Trip) []int {
	times := []int{x.Start}
	run := 0
	for at := x.Start + 1; run < len(n.Lines[x.Line].Runs); at++ {
		if at-times[run] == n.Lines[x.Line].Runs[run] {
			times = append(times, at)
			run++
		}
	}
	return times
}

// timetable5 returns a valid timetable with a random number of trips.
func (r *random2) timetable5() impl.Timetable {
	t := impl.Timetable{Network: r.network2()}
	highest := []int{impl.MaxTrips + 2, 60, impl.MaxId}[r.below(3)]
	for range r.below(impl.MaxTrips + 1) {
		x := r.trip5(t.Network, highest)
		place := 0
		for place < len(t.Trips) && t.Trips[place].Id < x.Id {
			place++
		}
		if place == len(t.Trips) || t.Trips[place].Id > x.Id {
			t.Trips = slices.Insert(t.Trips, place, x)
		}
	}
	return t
}

// trip5 returns a valid trip with an Id in 1..highest; often it begins or ends at a limit, or
// at a time of which there are few, so that several trips have it.
func (r *random2) trip5(n impl.Network, highest int) impl.Trip {
	x := impl.Trip{Id: 1 + r.below(highest), Line: r.below(len(n.Lines))}
	times := stopTimes5(n, x)
	latest := impl.MaxTime - times[len(times)-1]
	switch r.below(4) {
	case 0:
		x.Start = r.below(latest + 1)
	case 1:
		x.Start = 1380 + r.below(5)
	case 2:
		x.Start = r.below(3)
	case 3:
		x.Start = latest - r.below(3)
	}
	return x
}

// many5 returns day5, timetables with no trips and with MaxTrips trips, and random ones.
func many5(count int) []impl.Timetable {
	list := []impl.Timetable{day5(), with5(), with5(trips5(impl.MaxTrips)...)}
	r := random2(55)
	for range count {
		list = append(list, r.timetable5())
	}
	return list
}

func TestStopTimesOfRandomTimetables(t *testing.T) {
	for _, x := range many5(300) {
		for i, trip := range x.Trips {
			if number, ok := impl.TripNumber(x, trip.Id); !ok || number != i {
				t.Fatal("trip", trip, "is number", number, ok)
			}
			if l, ok := impl.StopTimes(x, trip.Id); !ok || !slices.Equal(l, stopTimes5(x.Network, trip)) {
				t.Fatal("trip", trip, "is at its stops at", l, ok)
			}
		}
	}
}

func TestAddTrip(t *testing.T) {
	for _, c := range []struct {
		x     impl.Trip
		place int
	}{
		{impl.Trip{Id: 1, Line: 0, Start: 0}, 0},
		{impl.Trip{Id: 3, Line: 1, Start: 1400}, 1},
		{impl.Trip{Id: 4, Line: 2, Start: 900}, 1},
		{impl.Trip{Id: 7, Line: 3, Start: 1794}, 3},
		{impl.Trip{Id: 39, Line: 0, Start: 1787}, 3},
		{impl.Trip{Id: 42, Line: 0, Start: 360}, 5},
		{impl.Trip{Id: 699, Line: 1, Start: 1739}, 5},
		{impl.Trip{Id: 701, Line: 2, Start: 1439}, 6},
		{impl.Trip{Id: 999, Line: 2, Start: 1440}, 7},
	} {
		want := day5()
		want.Trips = slices.Insert(want.Trips, c.place, c.x)
		if y, ok := impl.AddTrip(day5(), c.x); !ok || !same5(y, want) {
			t.Error("with", c.x, "there are", y, ok)
		}
		if y, ok := impl.AddTrip(with5(), c.x); !ok || !same5(y, with5(c.x)) {
			t.Error("only", c.x, "gives", y, ok)
		}
	}
}

func TestAddTripRejects(t *testing.T) {
	good := impl.Trip{Id: 500, Line: 2, Start: 700}
	if _, ok := impl.AddTrip(day5(), good); !ok {
		t.Fatal("not added", good)
	}
	var list []impl.Trip
	for _, taken := range day5().Trips {
		list = append(list, taken, impl.Trip{Id: taken.Id, Line: 3, Start: 700})
	}
	for _, id := range noIds5 {
		list = append(list, impl.Trip{Id: id, Line: 2, Start: 700})
	}
	for _, line := range noLines5 {
		list = append(list, impl.Trip{Id: 500, Line: line, Start: 700})
	}
	for line, start := range []int{1788, 1740, 1769, 1795} {
		for _, start := range []int{start, impl.MaxTime, impl.MaxTime + 1, -1, -60, math.MaxInt, math.MaxInt - 11, math.MinInt} {
			list = append(list, impl.Trip{Id: 500, Line: line, Start: start})
		}
	}
	for _, x := range list {
		if y, ok := impl.AddTrip(day5(), x); ok || !isZero5(y) {
			t.Error("added", x, y, ok)
		}
	}
}

func TestAddTripUpToMaxTrips(t *testing.T) {
	for count := range impl.MaxTrips + 1 {
		x := with5()
		for i := range count {
			x.Trips = append(x.Trips, impl.Trip{Id: 100 + 50*i, Line: 1, Start: 60 * i})
		}
		for _, id := range []int{1, 125, 999} {
			y, ok := impl.AddTrip(x, impl.Trip{Id: id, Line: 1, Start: 60})
			if ok != (count < impl.MaxTrips) || ok && len(y.Trips) != count+1 || !ok && !isZero5(y) {
				t.Error("trip", id, "beside", count, "others", y, ok)
			}
		}
	}
}

func TestAddTripInDescendingOrder(t *testing.T) {
	x := with5()
	var want []impl.Trip
	for i := range impl.MaxTrips {
		trip := impl.Trip{Id: impl.MaxId - i, Start: i}
		want = append([]impl.Trip{trip}, want...)
		y, ok := impl.AddTrip(x, trip)
		if !ok || !same5(y, with5(want...)) {
			t.Fatal("after", trip, y, ok)
		}
		x = y
	}
}

func TestRemoveTrip(t *testing.T) {
	for i, x := range day5().Trips {
		want := day5()
		want.Trips = append(want.Trips[:i], want.Trips[i+1:]...)
		if y, ok := impl.RemoveTrip(day5(), x.Id); !ok || !same5(y, want) {
			t.Error("without", x.Id, "there are", y.Trips, ok)
		}
		if y, ok := impl.RemoveTrip(with5(x), x.Id); !ok || !same5(y, with5()) {
			t.Error("without the only trip there are", y.Trips, ok)
		}
	}
	full := with5(trips5(impl.MaxTrips)...)
	for id := 1; id <= impl.MaxTrips; id++ {
		want := slices.DeleteFunc(trips5(impl.MaxTrips), func(x impl.Trip) bool { return x.Id == id })
		if y, ok := impl.RemoveTrip(full, id); !ok || !same5(y, with5(want...)) {
			t.Error("without", id, "there are", y.Trips, ok)
		}
	}
}

func TestAnAddedTripCanBeRemovedAgain(t *testing.T) {
	r := random2(5)
	added := 0
	for _, x := range many5(200) {
		var list []impl.Trip
		for id := -1; id <= impl.MaxTrips+3; id++ {
			list = append(list, impl.Trip{Id: id, Line: r.below(len(x.Network.Lines)+2) - 1, Start: r.below(impl.MaxTime + 2)})
		}
		for range 30 {
			list = append(list, r.trip5(x.Network, impl.MaxId))
		}
		for _, id := range []int{impl.MaxId - 1, impl.MaxId, impl.MaxId + 1} {
			list = append(list, impl.Trip{Id: id, Line: 0, Start: 1439})
		}
		for _, trip := range list {
			if checkAdded5(t, x, trip) {
				added++
			}
		}
	}
	if added < 3000 {
		t.Error("only", added, "trips were added")
	}
}

// checkAdded5 adds a trip, if that is possible, and removes it again.
func checkAdded5(t *testing.T, x impl.Timetable, trip impl.Trip) bool {
	t.Helper()
	kept := clone5(x)
	y, ok := impl.AddTrip(x, trip)
	if want := canAdd5(x, trip); ok != want {
		t.Fatal("adding", trip, "to", x, "is", ok)
	}
	if !ok {
		if !isZero5(y) {
			t.Fatal("adding", trip, "fails with", y)
		}
		return false
	}
	i, found := impl.TripNumber(y, trip.Id)
	if !impl.IsValidTimetable(y) || !found || y.Trips[i] != trip || len(y.Trips) != len(x.Trips)+1 {
		t.Fatal("with", trip, "there are", y.Trips)
	}
	back, ok := impl.RemoveTrip(y, trip.Id)
	if !ok || !same5(back, kept) || !same5(x, kept) {
		t.Fatal("without", trip, "again there are", back, ok)
	}
	return true
}

// canAdd5 reports whether a trip can be added to a valid timetable.
func canAdd5(t impl.Timetable, x impl.Trip) bool {
	if len(t.Trips) >= 12 || x.Id < 1 || x.Id > 999 || x.Line < 0 || x.Line >= len(t.Network.Lines) {
		return false
	}
	for _, other := range t.Trips {
		if other.Id == x.Id {
			return false
		}
	}
	times := stopTimes5(t.Network, x)
	return x.Start >= 0 && times[len(times)-1] <= 1799
}

func TestARemovedTripCanBeAddedAgain(t *testing.T) {
	for _, x := range many5(200) {
		for _, trip := range x.Trips {
			y, ok := impl.RemoveTrip(x, trip.Id)
			if !ok || len(y.Trips) != len(x.Trips)-1 {
				t.Fatal("not removed", trip, y, ok)
			}
			if _, ok := impl.TripNumber(y, trip.Id); ok {
				t.Fatal("still there", trip)
			}
			if back, ok := impl.AddTrip(y, trip); !ok || !same5(back, x) {
				t.Fatal("not added again", trip, back, ok)
			}
		}
	}
}

func TestRepeatTrips(t *testing.T) {
	for _, c := range []struct {
		about                   string
		line, from, to, headway int
		want                    []impl.Trip
	}{
		{"to is passed", 0, 420, 445, 10, []impl.Trip{{Id: 1, Start: 420}, {Id: 3, Start: 430}, {Id: 4, Start: 440}}},
		{"to is met", 1, 420, 440, 10, []impl.Trip{{Id: 1, Line: 1, Start: 420}, {Id: 3, Line: 1, Start: 430}, {Id: 4, Line: 1, Start: 440}}},
		{"to is just missed", 1, 420, 439, 10, []impl.Trip{{Id: 1, Line: 1, Start: 420}, {Id: 3, Line: 1, Start: 430}}},
		{"every minute", 3, 0, 4, 1, []impl.Trip{{Id: 1, Line: 3, Start: 0}, {Id: 3, Line: 3, Start: 1}, {Id: 4, Line: 3, Start: 2}, {Id: 7, Line: 3, Start: 3}, {Id: 8, Line: 3, Start: 4}}},
		{"only one, as from is to", 2, 700, 700, 1, []impl.Trip{{Id: 1, Line: 2, Start: 700}}},
		{"only one, as the headway is long", 2, 700, 1799, 1100, []impl.Trip{{Id: 1, Line: 2, Start: 700}}},
		{"only one, with the greatest headway", 2, 700, 1799, math.MaxInt, []impl.Trip{{Id: 1, Line: 2, Start: 700}}},
		{"only one, to the greatest integer", 2, 700, math.MaxInt, math.MaxInt, []impl.Trip{{Id: 1, Line: 2, Start: 700}}},
		{"only one, to the greatest integer just missed", 2, 700, math.MaxInt, math.MaxInt - 699, []impl.Trip{{Id: 1, Line: 2, Start: 700}}},
		{"only one, although to is no time", 2, 700, 5000, 4301, []impl.Trip{{Id: 1, Line: 2, Start: 700}}},
		{"beside trips of equal Start", 0, 348, 360, 12, []impl.Trip{{Id: 1, Start: 348}, {Id: 3, Start: 360}}},
		{"across midnight", 2, 1408, 1468, 30, []impl.Trip{{Id: 1, Line: 2, Start: 1408}, {Id: 3, Line: 2, Start: 1438}, {Id: 4, Line: 2, Start: 1468}}},
		{"an arrival at MaxTime", 0, 1786, 1787, 1, []impl.Trip{{Id: 1, Start: 1786}, {Id: 3, Start: 1787}}},
		{"none, as to is just ahead of from", 0, 420, 419, 1, nil},
		{"none, as to is far ahead of from", 0, 420, 0, 10, nil},
		{"none, as to is negative", 0, 0, -1, 1, nil},
		{"none, as to is the smallest integer", 0, 420, math.MinInt, math.MaxInt, nil},
		{"none, to just behind the smallest integer", 0, 1799, math.MinInt + 1, 1, nil},
		{"none, although from would be too late", 1, 1799, 1798, 1, nil},
	} {
		want := day5()
		for _, x := range c.want {
			place := 0
			for place < len(want.Trips) && want.Trips[place].Id < x.Id {
				place++
			}
			want.Trips = slices.Insert(want.Trips, place, x)
		}
		if y, count, ok := impl.RepeatTrips(day5(), c.line, c.from, c.to, c.headway); !ok || count != len(c.want) || !same5(y, want) {
			t.Error(c.about, y.Trips, count, ok)
		}
	}
}

func TestRepeatTripsRejects(t *testing.T) {
	type call struct{ line, from, to, headway int }
	list := []call{
		{0, 1787, 1788, 1}, {0, 1788, 1788, 1}, {1, 1720, 1740, 20}, {2, 1768, 1799, 1}, {0, 1799, 1799, 1}, {3, 1794, 1796, 2},
		// There is no room for all of them.
		{0, 420, 425, 1}, {0, 420, 470, 10}, {0, 0, 1799, 1}, {0, 0, math.MaxInt, 1}, {3, 0, math.MaxInt, 300},
		// There is room, but the later ones start at no time.
		{0, 0, math.MaxInt, 1800}, {0, 700, 2500, 1800}, {0, 0, math.MaxInt, math.MaxInt}, {0, 700, math.MaxInt, math.MaxInt - 700}, {0, 0, 1 << 62, 1 << 62},
	}
	for _, to := range []int{math.MinInt, -1, 0, 419, 420, 500, 1799, math.MaxInt} {
		for _, headway := range []int{0, -1, -10, math.MinInt, math.MinInt + 1} {
			list = append(list, call{0, 420, to, headway})
		}
		for _, line := range noLines5 {
			list = append(list, call{line, 420, to, 100})
		}
		for _, from := range noTimes4() {
			list = append(list, call{0, from, to, 100})
		}
	}
	for _, c := range list {
		if y, count, ok := impl.RepeatTrips(day5(), c.line, c.from, c.to, c.headway); ok || count != 0 || !isZero5(y) {
			t.Error("repeated", c, y.Trips, count, ok)
		}
	}
}

func TestRepeatTripsUpToMaxTrips(t *testing.T) {
	for there := range impl.MaxTrips + 1 {
		for more := range impl.MaxTrips + 2 {
			y, count, ok := impl.RepeatTrips(with5(trips5(there)...), 1, 600, 600+7*more-1, 7)
			if want := there+more <= impl.MaxTrips; ok != want {
				t.Error(more, "trips behind", there, "are", ok)
			}
			if !ok {
				if count != 0 || !isZero5(y) {
					t.Error("failed with", y, count)
				}
				continue
			}
			want := trips5(there)
			for i := range more {
				want = append(want, impl.Trip{Id: there + i + 1, Line: 1, Start: 600 + 7*i})
			}
			if count != more || !same5(y, with5(want...)) {
				t.Error(more, "trips behind", there, "are", y.Trips, count)
			}
		}
	}
}

// repeated5 does what RepeatTrips does: it looks at every minute from from on and adds the
// trips one by one, by the rules of canAdd5.
func repeated5(t impl.Timetable, line int, from int, to int, headway int) (impl.Timetable, int, bool) {
	y, count := clone5(t), 0
	for start := from; start <= min(to, impl.MaxTime+1+headway); start++ {
		if (start-from)%headway != 0 {
			continue
		}
		x := impl.Trip{Id: 1, Line: line, Start: start}
		place := 0
		for place < len(y.Trips) && y.Trips[place].Id == x.Id {
			x.Id++
			place++
		}
		if !canAdd5(y, x) {
			return impl.Timetable{}, 0, false
		}
		y.Trips = slices.Insert(y.Trips, place, x)
		count++
	}
	return y, count, true
}

func TestRepeatTripsOfRandomTimetables(t *testing.T) {
	r := random2(505)
	done, failed := 0, 0
	for _, x := range many5(400) {
		for range 10 {
			line, from := r.below(len(x.Network.Lines)), r.below(impl.MaxTime+1)
			headway := 1 + r.below([]int{5, 100, 2000}[r.below(3)])
			to := from + r.below(3*headway+2) - 1
			want, wantCount, wantOk := repeated5(x, line, from, to, headway)
			y, count, ok := impl.RepeatTrips(x, line, from, to, headway)
			if ok != wantOk || count != wantCount || !same5(y, want) {
				t.Fatal("repeated", x, line, from, to, headway, "is", y, count, ok)
			}
			if ok && count > 0 {
				done++
			}
			if !ok {
				failed++
			}
		}
	}
	if done < 500 || failed < 500 {
		t.Error("too few trips", done, failed)
	}
}

func TestDeparturesAt(t *testing.T) {
	for _, c := range []struct {
		stop, from int
		want       [][2]int
	}{
		// l1 begins here, x9 ends here.
		{0, 0, [][2]int{{348, 6}, {360, 2}, {360, 41}, {1500, 998}}},
		{0, 348, [][2]int{{348, 6}, {360, 2}, {360, 41}, {1500, 998}}},
		{0, 349, [][2]int{{360, 2}, {360, 41}, {1500, 998}}},
		{0, 360, [][2]int{{360, 2}, {360, 41}, {1500, 998}}},
		{0, 361, [][2]int{{1500, 998}}},
		{0, 1500, [][2]int{{1500, 998}}},
		{0, 1501, nil},
		{0, 1799, nil},
		{1, 0, [][2]int{{353, 6}, {365, 2}, {365, 41}, {1505, 998}}},
		{1, 365, [][2]int{{365, 2}, {365, 41}, {1505, 998}}},
		{1, 366, [][2]int{{1505, 998}}},
		// l1 ends here, r1 begins here.
		{2, 0, [][2]int{{1400, 5}}},
		{2, 1400, [][2]int{{1400, 5}}},
		{2, 1401, nil},
		// r1 ends here, x9 passes here.
		{3, 0, [][2]int{{1440, 40}, {1769, 700}}},
		{3, 1440, [][2]int{{1440, 40}, {1769, 700}}},
		{3, 1441, [][2]int{{1769, 700}}},
		{3, 1769, [][2]int{{1769, 700}}},
		{3, 1770, nil},
		// No line serves this one.
		{4, 0, nil},
		{5, 0, [][2]int{{1439, 40}, {1768, 700}}},
		{6, 0, nil},
	} {
		if l, ok := impl.DeparturesAt(day5(), c.stop, c.from); !ok || !slices.Equal(l, c.want) {
			t.Error("from stop", c.stop, "at", c.from, "depart", l, ok)
		}
	}
}

func TestDeparturesOfSeveralLines(t *testing.T) {
	// At stop 0, l1 departs at its Start, and n1 2 minutes later.
	x := with5(
		impl.Trip{Id: 1, Line: 0, Start: 700}, impl.Trip{Id: 2, Line: 3, Start: 700}, impl.Trip{Id: 3, Line: 3, Start: 698},
		impl.Trip{Id: 4, Line: 2, Start: 669}, impl.Trip{Id: 5, Line: 0, Start: 702}, impl.Trip{Id: 9, Line: 3, Start: 600},
	)
	want := [][2]int{{602, 9}, {700, 1}, {700, 3}, {702, 2}, {702, 5}}
	if l, ok := impl.DeparturesAt(x, 0, 0); !ok || !slices.Equal(l, want) {
		t.Error("departures", l, ok)
	}
	for _, stop := range []int{0, 3} {
		if l, ok := impl.DeparturesAt(with5(), stop, 0); !ok || len(l) != 0 {
			t.Error("without trips", l, ok)
		}
	}
}

func TestDeparturesAtRejects(t *testing.T) {
	for _, stop := range outside2 {
		if l, ok := impl.DeparturesAt(day5(), stop, 0); ok || len(l) != 0 {
			t.Error("stop", stop, l, ok)
		}
	}
	for _, from := range noTimes4() {
		if l, ok := impl.DeparturesAt(day5(), 0, from); ok || len(l) != 0 {
			t.Error("from", from, l, ok)
		}
	}
}

// departures5 looks for departures minute by minute.
func departures5(t impl.Timetable, stop int, from int) [][2]int {
	var list [][2]int
	for at := from; at <= impl.MaxTime; at++ {
		for _, x := range t.Trips {
			times := stopTimes5(t.Network, x)
			for place, other := range t.Network.Lines[x.Line].Stops {
				if other == stop && times[place] == at && place < len(times)-1 {
					list = append(list, [2]int{at, x.Id})
				}
			}
		}
	}
	return list
}

func TestDeparturesOfRandomTimetables(t *testing.T) {
	for _, x := range many5(40) {
		for stop := range x.Network.Stops {
			all := departures5(x, stop, 0)
			froms := []int{0, impl.MaxTime}
			for _, departure := range all {
				froms = append(froms, departure[0], departure[0]+1)
			}
			for _, from := range froms {
				if l, ok := impl.DeparturesAt(x, stop, from); !ok || !slices.Equal(l, departures5(x, stop, from)) {
					t.Fatal("departures of", x, stop, from, "are", l, ok)
				}
			}
		}
	}
}

func TestHeadwaysOf(t *testing.T) {
	for line, want := range [][]int{{12, 0, 1140}, {}, {329}, {}} {
		if l, ok := impl.HeadwaysOf(day5(), line); !ok || !slices.Equal(l, want) {
			t.Error("the headways of line", line, "are", l, ok)
		}
		if l, ok := impl.HeadwaysOf(with5(), line); !ok || len(l) != 0 {
			t.Error("headways without trips", line, l, ok)
		}
	}
	// The Starts are in descending order.
	if l, ok := impl.HeadwaysOf(with5(trips5(impl.MaxTrips)...), 0); !ok || !slices.Equal(l, slices.Repeat([]int{1}, 11)) {
		t.Error("headways of a minute", l, ok)
	}
	equal := with5(impl.Trip{Id: 1, Line: 3, Start: 9}, impl.Trip{Id: 2, Line: 3, Start: 9}, impl.Trip{Id: 3, Line: 3, Start: 9})
	if l, ok := impl.HeadwaysOf(equal, 3); !ok || !slices.Equal(l, []int{0, 0}) {
		t.Error("headways of equal Starts", l, ok)
	}
	for _, line := range noLines5 {
		if l, ok := impl.HeadwaysOf(day5(), line); ok || len(l) != 0 {
			t.Error("line", line, l, ok)
		}
	}
}

// headways5 counts the minutes between Starts one by one.
func headways5(t impl.Timetable, line int) []int {
	var list []int
	last := -1
	for at := range impl.MaxTime + 1 {
		for _, x := range t.Trips {
			if x.Line == line && x.Start == at {
				if last >= 0 {
					list = append(list, at-last)
				}
				last = at
			}
		}
	}
	return list
}

func TestHeadwaysOfRandomTimetables(t *testing.T) {
	for _, x := range many5(200) {
		for line := range x.Network.Lines {
			if l, ok := impl.HeadwaysOf(x, line); !ok || !slices.Equal(l, headways5(x, line)) {
				t.Fatal("headways of", x, line, "are", l, ok)
			}
		}
	}
}

func TestTripsRunning(t *testing.T) {
	for at, want := range map[int][]int{
		0: {}, 347: {}, 348: {6}, 349: {6}, 359: {6}, 360: {2, 41}, 361: {2, 41}, 371: {2, 41}, 372: {}, 373: {},
		1399: {}, 1400: {5}, 1438: {5}, 1439: {5, 40}, 1440: {5, 40}, 1459: {5, 40}, 1460: {40}, 1469: {40}, 1470: {}, 1471: {},
		1499: {}, 1500: {998}, 1511: {998}, 1512: {}, 1767: {}, 1768: {700}, 1798: {700}, 1799: {},
	} {
		if l, ok := impl.TripsRunning(day5(), at); !ok || !slices.Equal(l, want) {
			t.Error("at", at, "there run", l, ok)
		}
	}
	for _, at := range noTimes4() {
		if l, ok := impl.TripsRunning(day5(), at); ok || len(l) != 0 {
			t.Error("at", at, l, ok)
		}
	}
	if l, ok := impl.TripsRunning(with5(trips5(impl.MaxTrips)...), 100); !ok || !slices.Equal(l, []int{1, 2, 3, 4, 5, 6, 7, 8, 9, 10, 11, 12}) {
		t.Error("all trips", l, ok)
	}
	// They are in order of Id and not of Start.
	if l, ok := impl.TripsRunning(with5(trips5(impl.MaxTrips)...), 99); !ok || !slices.Equal(l, []int{2, 3, 4, 5, 6, 7, 8, 9, 10, 11, 12}) {
		t.Error("all trips but one", l, ok)
	}
}

func TestTripsRunningOfRandomTimetables(t *testing.T) {
	for _, x := range many5(20) {
		for at := range impl.MaxTime + 1 {
			var want []int
			for _, trip := range x.Trips {
				times := stopTimes5(x.Network, trip)
				if trip.Start <= at && at < times[len(times)-1] {
					want = append(want, trip.Id)
				}
			}
			if l, ok := impl.TripsRunning(x, at); !ok || !slices.Equal(l, want) {
				t.Fatal("at", at, "there run", l, ok)
			}
		}
	}
}

func TestShiftTrip(t *testing.T) {
	for _, c := range []struct {
		id, minutes int
		want        int
		ok          bool
	}{
		{2, 0, 360, true}, {2, 1, 361, true}, {2, -1, 359, true}, {2, -12, 348, true}, {2, 1080, 1440, true},
		{2, -360, 0, true}, {2, -361, 0, false}, {2, 1427, 1787, true}, {2, 1428, 0, false}, {2, 1439, 0, false}, {2, 1440, 0, false},
		{5, 40, 1440, true}, {5, 339, 1739, true}, {5, 340, 0, false}, {5, -1400, 0, true}, {5, -1401, 0, false},
		{6, -348, 0, true}, {6, -349, 0, false}, {40, -1440, 0, false}, {41, 1000, 1360, true},
		{700, 0, 1768, true}, {700, 1, 0, false}, {700, 31, 0, false}, {700, 32, 0, false}, {700, -1768, 0, true}, {700, -1769, 0, false},
		{998, 287, 1787, true}, {998, 288, 0, false}, {998, -100, 1400, true},
	} {
		want := impl.Timetable{}
		if c.ok {
			want = day5()
			want.Trips[slices.IndexFunc(want.Trips, func(x impl.Trip) bool { return x.Id == c.id })].Start = c.want
		}
		if y, ok := impl.ShiftTrip(day5(), c.id, c.minutes); ok != c.ok || !same5(y, want) {
			t.Error("trip", c.id, "shifted by", c.minutes, y.Trips, ok)
		}
	}
}

func TestShiftTripByManyMinutes(t *testing.T) {
	for _, x := range many5(60) {
		for i, trip := range x.Trips {
			times := stopTimes5(x.Network, trip)
			earliest, latest := -trip.Start, impl.MaxTime-times[len(times)-1]
			for _, minutes := range append([]int{earliest - 1, earliest, earliest + 1, latest - 1, latest, latest + 1}, minutes5...) {
				y, ok := impl.ShiftTrip(x, trip.Id, minutes)
				want := impl.Timetable{}
				if wantOk := minutes >= earliest && minutes <= latest; wantOk != ok {
					t.Fatal("trip", trip, "shifted by", minutes, "is", ok)
				}
				if ok {
					want = clone5(x)
					want.Trips[i].Start += minutes
				}
				if !same5(y, want) {
					t.Fatal("trip", trip, "shifted by", minutes, "gives", y)
				}
				if back, ok := impl.ShiftTrip(y, trip.Id, -minutes); ok != (len(want.Trips) > 0) || ok && !same5(back, x) {
					t.Fatal("trip", trip, "shifted by", minutes, "and back gives", back, ok)
				}
			}
		}
	}
}

// spoil5 changes everything that a timetable holds and what may lie beyond its ends.
func spoil5(t impl.Timetable) {
	for _, l := range t.Network.Lines[:cap(t.Network.Lines)] {
		fill2(l.Stops)
		fill2(l.Runs)
	}
	clear(t.Network.Lines[:cap(t.Network.Lines)])
	clear(t.Network.Stops[:cap(t.Network.Stops)])
	clear(t.Trips[:cap(t.Trips)])
}

// results5 returns what the functions that return a timetable give for t, whether or not they
// succeed.
func results5(t impl.Timetable) []impl.Timetable {
	var list []impl.Timetable
	keep := func(x impl.Timetable, ok bool) {
		if ok {
			list = append(list, x)
		}
	}
	for _, id := range []int{1, 3, 500, 999} {
		keep(impl.AddTrip(t, impl.Trip{Id: id, Start: 5}))
	}
	for _, x := range t.Trips {
		keep(impl.RemoveTrip(t, x.Id))
		keep(impl.ShiftTrip(t, x.Id, 0))
		keep(impl.ShiftTrip(t, x.Id, -1))
	}
	for more := range 3 {
		x, _, ok := impl.RepeatTrips(t, 0, 100, 99+more, 1)
		keep(x, ok)
	}
	return list
}

// callAll5 calls every function of the chapter and changes everything that the results hold.
func callAll5(t impl.Timetable) {
	impl.IsValidTimetable(t)
	for _, x := range t.Trips {
		impl.TripNumber(t, x.Id)
		times, _ := impl.StopTimes(t, x.Id)
		fill2(times)
	}
	for stop := range t.Network.Stops {
		departures, _ := impl.DeparturesAt(t, stop, 0)
		clear(departures[:cap(departures)])
	}
	for line := range t.Network.Lines {
		headways, _ := impl.HeadwaysOf(t, line)
		fill2(headways)
	}
	running, _ := impl.TripsRunning(t, 360)
	fill2(running)
	for _, x := range results5(t) {
		spoil5(x)
	}
}

// roomy5 returns a copy of t in which every slice has an element beyond its end; the trip there
// would be valid.
func roomy5(t impl.Timetable) impl.Timetable {
	beyond := impl.Trip{Id: impl.MaxId, Start: 360}
	return impl.Timetable{Network: roomy2(t.Network), Trips: append(slices.Clone(t.Trips), beyond)[:len(t.Trips)]}
}

// wide5 returns a copy of a timetable of roomy5 together with the elements beyond the ends.
func wide5(t impl.Timetable) impl.Timetable {
	return impl.Timetable{Network: wide2(t.Network), Trips: slices.Clone(t.Trips[:len(t.Trips)+1])}
}

func TestTimetablesAreNotModified(t *testing.T) {
	for _, x := range many5(60) {
		roomy := roomy5(x)
		before := wide5(roomy)
		callAll5(roomy)
		if after := wide5(roomy); !reflect.DeepEqual(after, before) {
			t.Fatal("an argument was", before, "and is", after)
		}
	}
}

func TestTripsBeyondTheEndAreNotRead(t *testing.T) {
	for _, x := range many5(60) {
		roomy := roomy5(x)
		if !reflect.DeepEqual(results5(roomy), results5(clone5(x))) {
			t.Fatal("other results for", x)
		}
		if _, ok := impl.TripNumber(roomy, impl.MaxId); ok != slices.ContainsFunc(x.Trips, func(x impl.Trip) bool { return x.Id == impl.MaxId }) {
			t.Fatal("a trip beyond the end is found", x)
		}
	}
}

func TestTimetablesHaveNewMemory(t *testing.T) {
	for _, x := range many5(20) {
		count := len(results5(x))
		for i := range count {
			list := results5(x)
			want := clone5(list[i])
			for j := range list {
				if j != i {
					spoil5(list[j])
				}
			}
			if !same5(list[i], want) {
				t.Fatal("results share memory", x, i)
			}
			for line := range list[i].Network.Lines {
				fill2(list[i].Network.Lines[line].Stops)
				if !slices.Equal(list[i].Network.Lines[line].Runs, want.Network.Lines[line].Runs) {
					t.Fatal("stops and runs share memory", x, i, line)
				}
			}
		}
	}
}

func TestListsOfTripsHaveNewMemory(t *testing.T) {
	x := day5()
	for about, call := range map[string]func() []int{
		"StopTimes":    func() []int { l, _ := impl.StopTimes(x, 2); return l },
		"HeadwaysOf":   func() []int { l, _ := impl.HeadwaysOf(x, 0); return l },
		"TripsRunning": func() []int { l, _ := impl.TripsRunning(x, 1439); return l },
	} {
		first, second := call(), call()
		want := slices.Clone(second)
		fill2(first)
		if len(want) < 2 || !slices.Equal(second, want) || !slices.Equal(call(), want) {
			t.Error(about, "shares memory", second)
		}
	}
	first, _ := impl.DeparturesAt(x, 0, 0)
	second, _ := impl.DeparturesAt(x, 0, 0)
	clear(first)
	if len(second) != 4 || second[0] != [2]int{348, 6} {
		t.Error("DeparturesAt shares memory", second)
	}
}
