package tests

import (
	"fmt"
	"math"
	"reflect"
	"slices"
	"testing"

	"loop.example/g00900/impl"
)

// walks7 are walks in network5, to and from which no walks lead for the stops 2 and 6. Two of
// them are longer than a way over other stops.
func walks7() []impl.Walk {
	return []impl.Walk{
		{A: 0, B: 1, Minutes: 5},
		{A: 0, B: 3, Minutes: 20},
		{A: 1, B: 3, Minutes: 6},
		{A: 1, B: 4, Minutes: 120},
		{A: 3, B: 5, Minutes: 9},
		{A: 4, B: 5, Minutes: 100},
	}
}

// large7 is a network with the most stops.
func large7() impl.Network { return impl.Network{Stops: stops2(impl.MaxStops), Lines: lines2(1)} }

// pairs7 returns a walk of one minute for every two of this number of stops, in order.
func pairs7(stops int) []impl.Walk {
	var list []impl.Walk
	for a := range stops {
		for b := a + 1; b < stops; b++ {
			list = append(list, impl.Walk{A: a, B: b, Minutes: 1})
		}
	}
	return list
}

// chain7 returns walks between consecutive stops from a first one on.
func chain7(first int, minutes ...int) []impl.Walk {
	var list []impl.Walk
	for i, m := range minutes {
		list = append(list, impl.Walk{A: first + i, B: first + i + 1, Minutes: m})
	}
	return list
}

// validity7 is one list of walks in a network and what IsValidWalks should say of it.
type validity7 struct {
	about string
	n     impl.Network
	list  []impl.Walk
	valid bool
}

func validities7() []validity7 {
	list := slices.Concat(sizes7(), ends7(), minutes7(), orders7())
	for _, c := range validities2() {
		list = append(list, validity7{"no walks in " + c.about, c.n, nil, c.valid})
		list = append(list, validity7{"a walk in " + c.about, c.n, chain7(0, 5), c.valid})
	}
	return list
}

func sizes7() []validity7 {
	list := []validity7{
		{"some walks", network5(), walks7(), true},
		{"no walks", network5(), nil, true},
		{"empty walks", network5(), []impl.Walk{}, true},
		{"no walks and no network", impl.Network{}, nil, false},
		{"many walks", network5(), make([]impl.Walk, 100000), false},
	}
	for count := range len(pairs7(impl.MaxStops)) {
		about := fmt.Sprint(count, " walks")
		list = append(list, validity7{about, large7(), pairs7(impl.MaxStops)[:count], count <= impl.MaxWalks})
		list = append(list, validity7{about + " at the end", large7(), pairs7(impl.MaxStops)[28-count:], count <= impl.MaxWalks})
	}
	return list
}

func ends7() []validity7 {
	var list []validity7
	add := func(a int, b int) {
		valid := 0 <= a && a < b && b < 7
		about := fmt.Sprint("from ", a, " to ", b)
		x := impl.Walk{A: a, B: b, Minutes: 5}
		list = append(list, validity7{about, network5(), []impl.Walk{x}, valid})
		if !valid {
			list = append(list, validity7{about + " ahead of others", network5(), append([]impl.Walk{x}, walks7()...), false})
			list = append(list, validity7{about + " behind others", network5(), append(walks7(), x), false})
		}
	}
	for a := -2; a < 10; a++ {
		for b := -2; b < 10; b++ {
			add(a, b)
		}
	}
	for _, far := range []int{math.MinInt, math.MaxInt, 1 << 32, -1 << 32} {
		add(far, 3)
		add(3, far)
		add(far, far)
	}
	return list
}

func minutes7() []validity7 {
	var list []validity7
	for minutes, valid := range map[int]bool{
		0: false, 1: true, 2: true, 60: true, impl.MaxWalk - 1: true, impl.MaxWalk: true, impl.MaxWalk + 1: false,
		impl.MaxWalk + 2: false, -1: false, -5: false, math.MaxInt: false, math.MinInt: false, 1 << 32: false, 1<<32 + 5: false,
	} {
		for i := range walks7() {
			walks := walks7()
			walks[i].Minutes = minutes
			list = append(list, validity7{fmt.Sprint(minutes, " minutes at place ", i), network5(), walks, valid})
		}
	}
	return list
}

func orders7() []validity7 {
	var list []validity7
	add := func(valid bool, ends ...[2]int) {
		var walks []impl.Walk
		for i, x := range ends {
			walks = append(walks, impl.Walk{A: x[0], B: x[1], Minutes: 7 + i})
		}
		list = append(list, validity7{fmt.Sprint("in the order ", ends), network5(), walks, valid})
	}
	x, y, z := [2]int{0, 4}, [2]int{0, 5}, [2]int{1, 2}
	add(true, x, y)
	add(true, x, z)
	add(true, y, z)
	add(true, x, y, z)
	add(false, x, x)
	add(false, z, z)
	add(false, y, x)
	add(false, z, x)
	add(false, z, y)
	add(false, x, x, z)
	add(false, x, z, z)
	add(false, x, z, x)
	add(false, x, z, y)
	add(false, y, x, z)
	add(false, y, z, x)
	add(false, z, x, y)
	add(false, z, y, x)
	return list
}

func TestLimitsOfWalks(t *testing.T) {
	if impl.MaxWalks != 12 || impl.MaxWalk != 120 {
		t.Error(impl.MaxWalks, impl.MaxWalk)
	}
}

func TestIsValidWalks(t *testing.T) {
	for _, c := range validities7() {
		if impl.IsValidWalks(c.n, c.list) != c.valid {
			t.Errorf("%s: valid is not %v", c.about, c.valid)
		}
	}
}

func TestInvalidWalksGiveZeroValues(t *testing.T) {
	for _, c := range validities7() {
		if c.valid {
			continue
		}
		checkInvalid7(t, c.about, c.n, c.list)
		trips := []impl.Trip{{Id: 1, Start: 360}, {Id: 2, Start: 400}}
		checkInvalidTimetable7(t, c.about, impl.Timetable{Network: c.n, Trips: trips}, c.list)
	}
	for _, c := range validities5() {
		if !c.valid {
			checkInvalidTimetable7(t, c.about, c.t, nil)
			checkInvalidTimetable7(t, c.about, c.t, chain7(0, 5))
		}
	}
}

// checkInvalid7 calls the functions that take a network with values that would otherwise do.
func checkInvalid7(t *testing.T, about string, n impl.Network, list []impl.Walk) {
	t.Helper()
	for stop := range 3 {
		if l, ok := impl.WalkingTimes(n, list, stop); ok || len(l) != 0 {
			t.Error(about, "WalkingTimes", stop, l, ok)
		}
		if l, ok := impl.ShortestWalk(n, list, 0, stop); ok || len(l) != 0 {
			t.Error(about, "ShortestWalk", stop, l, ok)
		}
	}
	if l, ok := impl.CloseWalks(n, list); ok || len(l) != 0 {
		t.Error(about, "CloseWalks", l, ok)
	}
	for _, limit := range []int{0, 5, impl.MaxWalk} {
		if l, ok := impl.WalkGroups(n, list, limit); ok || len(l) != 0 {
			t.Error(about, "WalkGroups", limit, l, ok)
		}
	}
	if l, ok := impl.UselessWalks(n, list); ok || len(l) != 0 {
		t.Error(about, "UselessWalks", l, ok)
	}
}

// checkInvalidTimetable7 does the same with the functions that take a timetable.
func checkInvalidTimetable7(t *testing.T, about string, x impl.Timetable, list []impl.Walk) {
	t.Helper()
	for stop := range 2 {
		if l, ok := impl.CatchTrips(x, list, stop, 0); ok || len(l) != 0 {
			t.Error(about, "CatchTrips", stop, l, ok)
		}
	}
	ids := []int{1, 2}
	for _, trip := range x.Trips[:min(len(x.Trips), 13)] {
		ids = append(ids, trip.Id)
	}
	for _, from := range ids {
		for _, to := range ids {
			if m, stop, ok := impl.ChangeTime(x, list, from, to); ok || m != 0 || stop != 0 {
				t.Error(about, "ChangeTime", from, to, m, stop, ok)
			}
		}
	}
}

func TestWalksOfStopsThatDoNotExist(t *testing.T) {
	n := network5()
	for _, stop := range outside2 {
		if l, ok := impl.WalkingTimes(n, walks7(), stop); ok || len(l) != 0 {
			t.Error("WalkingTimes", stop, l, ok)
		}
		for _, other := range append([]int{0, 6}, outside2...) {
			if l, ok := impl.ShortestWalk(n, walks7(), stop, other); ok || len(l) != 0 {
				t.Error("ShortestWalk", stop, other, l, ok)
			}
			if l, ok := impl.ShortestWalk(n, walks7(), other, stop); ok || len(l) != 0 {
				t.Error("ShortestWalk", other, stop, l, ok)
			}
		}
		if l, ok := impl.CatchTrips(day5(), walks7(), stop, 0); ok || len(l) != 0 {
			t.Error("CatchTrips", stop, l, ok)
		}
	}
}

func TestWalkingTimes(t *testing.T) {
	for stop, want := range [][]int{
		{0, 5, -1, 11, 120, 20, -1},
		{5, 0, -1, 6, 115, 15, -1},
		{-1, -1, 0, -1, -1, -1, -1},
		{11, 6, -1, 0, 109, 9, -1},
		{120, 115, -1, 109, 0, 100, -1},
		{20, 15, -1, 9, 100, 0, -1},
		{-1, -1, -1, -1, -1, -1, 0},
	} {
		if l, ok := impl.WalkingTimes(network5(), walks7(), stop); !ok || !slices.Equal(l, want) {
			t.Error("from", stop, "it takes", l, ok)
		}
	}
	for stop := range 7 {
		want := slices.Repeat([]int{-1}, 7)
		want[stop] = 0
		if l, ok := impl.WalkingTimes(network5(), nil, stop); !ok || !slices.Equal(l, want) {
			t.Error("without walks it takes", l, ok, "from", stop)
		}
	}
	long := chain7(0, slices.Repeat([]int{impl.MaxWalk}, impl.MaxStops-1)...)
	if l, ok := impl.WalkingTimes(large7(), long, 0); !ok || !slices.Equal(l, []int{0, 120, 240, 360, 480, 600, 720, 840}) {
		t.Error("over the longest walks it takes", l, ok)
	}
}

// walk7 is a list of walks and a way that ShortestWalk should find between its ends.
type walk7 struct {
	about string
	list  []impl.Walk
	want  []int
}

func TestShortestWalk(t *testing.T) {
	// Both ways take 7 minutes; the larger stop is the one before the last on the first way.
	crossing := []impl.Walk{{A: 0, B: 1, Minutes: 2}, {A: 0, B: 2, Minutes: 1}, {A: 1, B: 4, Minutes: 3}, {A: 2, B: 3, Minutes: 4}, {A: 3, B: 6, Minutes: 2}, {A: 4, B: 6, Minutes: 2}}
	// The way over stop 1 has more stops than the one over stop 3.
	fewer := []impl.Walk{{A: 0, B: 1, Minutes: 2}, {A: 0, B: 3, Minutes: 3}, {A: 1, B: 2, Minutes: 2}, {A: 2, B: 5, Minutes: 3}, {A: 3, B: 5, Minutes: 4}}
	square := []impl.Walk{{A: 0, B: 1, Minutes: 3}, {A: 0, B: 2, Minutes: 4}, {A: 1, B: 5, Minutes: 4}, {A: 2, B: 5, Minutes: 3}}
	for _, c := range []walk7{
		{"to the stop itself", walks7(), []int{0}},
		{"to the stop itself without walks", nil, []int{6}},
		{"one walk", walks7(), []int{0, 1}},
		{"one walk back", walks7(), []int{1, 0}},
		{"a way shorter than the walk", walks7(), []int{0, 1, 3}},
		{"a way shorter than the walk, and back", walks7(), []int{3, 1, 0}},
		{"a long way", walks7(), []int{0, 1, 3, 5, 4}},
		{"a long way back", walks7(), []int{4, 5, 3, 1, 0}},
		{"a way behind others", walks7(), []int{1, 3, 5, 4}},
		{"the walk as long as the way", []impl.Walk{{A: 0, B: 1, Minutes: 5}, {A: 0, B: 3, Minutes: 11}, {A: 1, B: 3, Minutes: 6}}, []int{0, 3}},
		{"the way shorter by a minute", []impl.Walk{{A: 0, B: 1, Minutes: 5}, {A: 0, B: 3, Minutes: 12}, {A: 1, B: 3, Minutes: 6}}, []int{0, 1, 3}},
		{"fewer stops", fewer, []int{0, 3, 5}},
		{"fewer stops back", fewer, []int{5, 3, 0}},
		{"smaller stops", square, []int{0, 1, 5}},
		{"smaller stops back", square, []int{5, 1, 0}},
		{"smaller stops on the other side", square, []int{1, 0, 2}},
		{"the first difference", crossing, []int{0, 1, 4, 6}},
		{"the first difference back", crossing, []int{6, 3, 2, 0}},
	} {
		if l, ok := impl.ShortestWalk(network5(), c.list, c.want[0], c.want[len(c.want)-1]); !ok || !slices.Equal(l, c.want) {
			t.Error(c.about, l, ok, "and not", c.want)
		}
	}
}

func TestShortestWalkWithoutAWay(t *testing.T) {
	for _, c := range []struct {
		list []impl.Walk
		ends [2]int
	}{
		{walks7(), [2]int{0, 2}}, {walks7(), [2]int{2, 0}}, {walks7(), [2]int{2, 6}}, {walks7(), [2]int{6, 5}},
		{nil, [2]int{0, 1}}, {chain7(0, 1, 1), [2]int{0, 3}}, {append(chain7(0, 1, 1), chain7(3, 1, 1)...), [2]int{2, 3}},
	} {
		if l, ok := impl.ShortestWalk(network5(), c.list, c.ends[0], c.ends[1]); ok || len(l) != 0 {
			t.Error("a way over", c.list, "is", l, ok)
		}
	}
}

func TestCloseWalks(t *testing.T) {
	want := []impl.Walk{
		{A: 0, B: 1, Minutes: 5}, {A: 0, B: 3, Minutes: 11}, {A: 0, B: 4, Minutes: 120}, {A: 0, B: 5, Minutes: 20},
		{A: 1, B: 3, Minutes: 6}, {A: 1, B: 4, Minutes: 115}, {A: 1, B: 5, Minutes: 15},
		{A: 3, B: 4, Minutes: 109}, {A: 3, B: 5, Minutes: 9}, {A: 4, B: 5, Minutes: 100},
	}
	for _, list := range [][]impl.Walk{walks7(), want} {
		if l, ok := impl.CloseWalks(network5(), list); !ok || !slices.Equal(l, want) {
			t.Error("closed", list, l, ok)
		}
	}
	if l, ok := impl.CloseWalks(network5(), nil); !ok || len(l) != 0 {
		t.Error("closed nothing", l, ok)
	}
}

func TestCloseWalksOfSizes(t *testing.T) {
	for _, c := range []struct {
		about string
		list  []impl.Walk
		count int
	}{
		{"five stops", chain7(0, 1, 1, 1, 1), 10},
		{"five stops and two", append(chain7(0, 1, 1, 1, 1), chain7(5, 1)...), 11},
		{"twice four stops", append(chain7(0, 1, 1, 1), chain7(4, 1, 1, 1)...), impl.MaxWalks},
		{"five stops and three", append(chain7(0, 1, 1, 1, 1), chain7(5, 1, 1)...), 0},
		{"six stops", chain7(2, 1, 1, 1, 1, 1), 0},
		{"all stops", chain7(0, 1, 1, 1, 1, 1, 1, 1), 0},
		{"just not too long", chain7(0, 60, 60), 3},
		{"too long", chain7(0, 60, 61), 0},
		{"too long for the first stop only", chain7(0, 30, 60, 31), 0},
		{"too long for the last stop only", chain7(4, 1, 119, 1), 0},
		{"the longest walks", append(chain7(0, 120), append(chain7(2, 120), chain7(4, 120)...)...), 3},
		{"as many walks as possible", pairs7(5), 10},
	} {
		l, ok := impl.CloseWalks(large7(), c.list)
		if ok != (c.count > 0) || len(l) != c.count {
			t.Error(c.about, l, ok)
		}
	}
}

func TestWalkGroups(t *testing.T) {
	alone := [][]int{{0}, {1}, {2}, {3}, {4}, {5}, {6}}
	several := []impl.Walk{{A: 0, B: 6, Minutes: 10}, {A: 1, B: 2, Minutes: 10}, {A: 2, B: 5, Minutes: 11}, {A: 3, B: 4, Minutes: 10}}
	// Every two of these stops are connected by short walks, but not by a short walk each.
	chain := chain7(0, 1, 1, 1, 1, 1, 1)
	for _, c := range []struct {
		list  []impl.Walk
		limit int
		want  [][]int
	}{
		{walks7(), 0, alone},
		{walks7(), 4, alone},
		{walks7(), 5, [][]int{{0, 1}, {2}, {3}, {4}, {5}, {6}}},
		{walks7(), 6, [][]int{{0, 1, 3}, {2}, {4}, {5}, {6}}},
		{walks7(), 8, [][]int{{0, 1, 3}, {2}, {4}, {5}, {6}}},
		{walks7(), 9, [][]int{{0, 1, 3, 5}, {2}, {4}, {6}}},
		{walks7(), 99, [][]int{{0, 1, 3, 5}, {2}, {4}, {6}}},
		{walks7(), 100, [][]int{{0, 1, 3, 4, 5}, {2}, {6}}},
		{walks7(), impl.MaxWalk, [][]int{{0, 1, 3, 4, 5}, {2}, {6}}},
		{several, 9, alone},
		{several, 10, [][]int{{0, 6}, {1, 2}, {3, 4}, {5}}},
		{several, 11, [][]int{{0, 6}, {1, 2, 5}, {3, 4}}},
		{chain7(0, 120), 119, alone},
		{chain7(0, 120), 120, [][]int{{0, 1}, {2}, {3}, {4}, {5}, {6}}},
		{chain, 0, alone},
		{chain, 1, [][]int{{0, 1, 2, 3, 4, 5, 6}}},
		{nil, 0, alone},
		{nil, impl.MaxWalk, alone},
	} {
		if l, ok := impl.WalkGroups(network5(), c.list, c.limit); !ok || !reflect.DeepEqual(l, c.want) {
			t.Error("with the limit", c.limit, "the groups are", l, ok, "and not", c.want)
		}
	}
}

func TestWalkGroupsRejectsLimits(t *testing.T) {
	for _, limit := range []int{-1, -2, impl.MaxWalk + 1, impl.MaxWalk + 2, 1 << 32, 1<<32 + 5, math.MaxInt, math.MinInt} {
		for _, list := range [][]impl.Walk{nil, walks7()} {
			if l, ok := impl.WalkGroups(network5(), list, limit); ok || len(l) != 0 {
				t.Error("with the limit", limit, "the groups are", l, ok)
			}
		}
	}
}

func TestUselessWalks(t *testing.T) {
	for _, c := range []struct {
		list []impl.Walk
		want []int
	}{
		{walks7(), []int{1, 3}},
		{nil, nil},
		{pairs7(5), nil},
		{[]impl.Walk{{A: 0, B: 1, Minutes: 5}, {A: 0, B: 3, Minutes: 11}, {A: 1, B: 3, Minutes: 6}}, nil},
		{[]impl.Walk{{A: 0, B: 1, Minutes: 5}, {A: 0, B: 3, Minutes: 12}, {A: 1, B: 3, Minutes: 6}}, []int{1}},
		{[]impl.Walk{{A: 0, B: 1, Minutes: 120}, {A: 0, B: 3, Minutes: 1}, {A: 1, B: 3, Minutes: 1}}, []int{0}},
		{[]impl.Walk{{A: 0, B: 1, Minutes: 1}, {A: 0, B: 3, Minutes: 1}, {A: 1, B: 3, Minutes: 3}}, []int{2}},
		{[]impl.Walk{{A: 0, B: 1, Minutes: 1}, {A: 0, B: 2, Minutes: 3}, {A: 0, B: 3, Minutes: 4}, {A: 1, B: 2, Minutes: 1}, {A: 2, B: 3, Minutes: 1}}, []int{1, 2}},
	} {
		if l, ok := impl.UselessWalks(network5(), c.list); !ok || !slices.Equal(l, c.want) {
			t.Error("useless of", c.list, "are", l, ok)
		}
	}
}

// catches7 returns connections, each of an Id, a stop, a place and a time.
func catches7(list [][4]int) []impl.Connection {
	var connections []impl.Connection
	for _, x := range list {
		connections = append(connections, impl.Connection{Id: x[0], Stop: x[1], Place: x[2], Time: x[3]})
	}
	return connections
}

func TestCatchTrips(t *testing.T) {
	for _, c := range []struct {
		about string
		stop  int
		time  int
		want  [][4]int
	}{
		{"just caught at once", 0, 360, [][4]int{{2, 0, 0, 360}, {41, 0, 0, 360}, {40, 5, 0, 1439}, {998, 0, 0, 1500}, {700, 5, 0, 1768}}},
		{"just missed", 0, 361, [][4]int{{40, 5, 0, 1439}, {998, 0, 0, 1500}, {700, 5, 0, 1768}}},
		{"all but the one without a way", 0, 0, [][4]int{{6, 0, 0, 348}, {2, 0, 0, 360}, {41, 0, 0, 360}, {40, 5, 0, 1439}, {998, 0, 0, 1500}, {700, 5, 0, 1768}}},
		{"just caught on foot at the first place", 3, 349, [][4]int{{2, 0, 0, 360}, {41, 0, 0, 360}, {40, 5, 0, 1439}, {998, 0, 0, 1500}, {700, 5, 0, 1768}}},
		{"caught at the next place", 3, 350, [][4]int{{2, 1, 1, 365}, {41, 1, 1, 365}, {40, 5, 0, 1439}, {998, 0, 0, 1500}, {700, 5, 0, 1768}}},
		{"just caught at the next place", 3, 359, [][4]int{{2, 1, 1, 365}, {41, 1, 1, 365}, {40, 5, 0, 1439}, {998, 0, 0, 1500}, {700, 5, 0, 1768}}},
		{"missed on foot", 3, 360, [][4]int{{40, 5, 0, 1439}, {998, 0, 0, 1500}, {700, 5, 0, 1768}}},
		{"only on without a walk", 2, 1400, [][4]int{{5, 2, 0, 1400}}},
		{"not at the last stop", 2, 0, [][4]int{{5, 2, 0, 1400}}},
		{"behind midnight", 4, 1440, [][4]int{{700, 5, 0, 1768}}},
		{"just caught behind midnight", 1, 1753, [][4]int{{700, 5, 0, 1768}}},
		{"at the next place behind midnight", 1, 1754, [][4]int{{700, 3, 1, 1769}}},
		{"just caught at the next place behind midnight", 1, 1763, [][4]int{{700, 3, 1, 1769}}},
		{"missed behind midnight", 1, 1764, nil},
		{"a stop without lines and walks", 6, 0, nil},
		{"the last time", 0, impl.MaxTime, nil},
	} {
		if l, ok := impl.CatchTrips(day5(), walks7(), c.stop, c.time); !ok || !slices.Equal(l, catches7(c.want)) {
			t.Error(c.about, l, ok, "and not", c.want)
		}
	}
}

func TestCatchTripsWithoutTripsAndWithoutWalks(t *testing.T) {
	if l, ok := impl.CatchTrips(with5(), walks7(), 0, 0); !ok || len(l) != 0 {
		t.Error("without trips", l, ok)
	}
	if l, ok := impl.CatchTrips(day5(), nil, 2, 361); !ok || !slices.Equal(l, catches7([][4]int{{5, 2, 0, 1400}})) {
		t.Error("without walks", l, ok)
	}
}

func TestCatchTripsIsInOrder(t *testing.T) {
	trips := []impl.Trip{{Id: 1, Line: 0, Start: 20}, {Id: 2, Line: 3, Start: 18}, {Id: 3, Line: 0, Start: 15}, {Id: 4, Line: 0, Start: 10}}
	list := []impl.Walk{{A: 0, B: 3, Minutes: 6}, {A: 1, B: 3, Minutes: 5}}
	if l, ok := impl.CatchTrips(with5(trips...), list, 3, 14); !ok || !slices.Equal(l, catches7([][4]int{{1, 0, 0, 20}, {2, 0, 1, 20}, {3, 1, 1, 20}})) {
		t.Error("in order", l, ok)
	}
	if l, ok := impl.CatchTrips(with5(trips...), list, 3, 15); !ok || !slices.Equal(l, catches7([][4]int{{3, 1, 1, 20}, {1, 1, 1, 25}})) {
		t.Error("in order a minute later", l, ok)
	}
}

func TestCatchTripsRejectsTimes(t *testing.T) {
	for _, time := range noTimes4() {
		for _, x := range []impl.Timetable{day5(), with5()} {
			if l, ok := impl.CatchTrips(x, walks7(), 0, time); ok || len(l) != 0 {
				t.Error("at", time, l, ok)
			}
		}
	}
}

// crossing7 has two lines that serve the stops 2 and 1 in this order, one that begins at stop 0
// and one that ends at stop 1. From one of these two stops to the other one, the first line
// takes 7 minutes and the second one this number of minutes.
func crossing7(between int) impl.Network {
	return impl.Network{Stops: stops2(7), Lines: []impl.Line{
		{Name: "a", Stops: []int{0, 2, 1, 3}, Runs: []int{5, 7, 4}},
		{Name: "b", Stops: []int{4, 2, 1, 5}, Runs: []int{3, between, 2}},
		{Name: "c", Stops: []int{0, 6}, Runs: []int{9}},
		{Name: "d", Stops: []int{5, 1}, Runs: []int{1}},
	}}
}

// change7 is a change from a trip of line a of crossing7, which is at the stops 0, 2, 1 and 3
// at the times 100, 105, 112 and 116, to a trip of this line at this Start.
type change7 struct {
	about   string
	line    int
	start   int
	list    []impl.Walk
	minutes int
	stop    int
	ok      bool
}

func changes7() []change7 {
	walk := func(a int, b int, minutes int) []impl.Walk { return []impl.Walk{{A: a, B: b, Minutes: minutes}} }
	return []change7{
		{"no time to wait", 1, 102, nil, 0, 2, true},
		{"a minute to wait", 1, 103, nil, 1, 2, true},
		{"missed at both stops", 1, 101, nil, 0, 0, false},
		{"long to wait", 1, 1000, nil, 898, 2, true},
		{"from a trip's first stop", 2, 100, nil, 0, 0, false},
		{"from a trip's first stop later", 2, 1000, nil, 0, 0, false},
		{"to a trip's last stop", 3, 111, nil, 0, 0, false},
		{"to a trip's last stop later", 3, 1000, nil, 0, 0, false},
		{"back to the first stop", 2, 108, walk(0, 2, 3), 3, 2, true},
		{"back to the first stop and waiting", 2, 109, walk(0, 2, 3), 4, 2, true},
		{"back to the first stop too late", 2, 107, walk(0, 2, 3), 0, 0, false},
		{"back to the first stop from the last one", 2, 120, walk(0, 3, 4), 4, 3, true},
		{"back to the first stop from the last one too late", 2, 119, walk(0, 3, 4), 0, 0, false},
		{"to the first stop of a line on foot", 3, 118, walk(3, 5, 2), 2, 3, true},
		{"no way to the first stop of a line", 3, 118, walk(2, 4, 2), 0, 0, false},
		{"two walks", 2, 125, append(walk(0, 4, 2), impl.Walk{A: 1, B: 4, Minutes: 3}), 13, 1, true},
		{"two walks without enough time", 2, 116, append(walk(0, 4, 2), impl.Walk{A: 1, B: 4, Minutes: 3}), 0, 0, false},
		{"the same line", 0, 101, nil, 1, 2, true},
		{"the same trip again", 0, 100, nil, 0, 2, true},
		{"the same line, ahead", 0, 99, nil, 0, 0, false},
		{"the same line, ahead, on foot", 0, 98, walk(1, 2, 1), 5, 2, true},
	}
}

func TestChangeTime(t *testing.T) {
	for _, c := range changes7() {
		x := impl.Timetable{Network: crossing7(7), Trips: []impl.Trip{{Id: 3, Line: 0, Start: 100}, {Id: 8, Line: c.line, Start: c.start}}}
		if m, stop, ok := impl.ChangeTime(x, c.list, 3, 8); ok != c.ok || m != c.minutes || stop != c.stop {
			t.Error(c.about, m, stop, ok)
		}
		// The order of the trips in the timetable does not matter.
		x.Trips[0], x.Trips[1] = impl.Trip{Id: 3, Line: c.line, Start: c.start}, impl.Trip{Id: 8, Line: 0, Start: 100}
		if m, stop, ok := impl.ChangeTime(x, c.list, 8, 3); ok != c.ok || m != c.minutes || stop != c.stop {
			t.Error(c.about, "to the other trip", m, stop, ok)
		}
	}
}

func TestChangeTimeAtSeveralStops(t *testing.T) {
	for _, c := range []struct {
		between int
		start   int
		list    []impl.Walk
		minutes int
		stop    int
	}{
		{7, 110, nil, 8, 2},
		{8, 110, nil, 8, 2},
		{6, 110, nil, 7, 1},
		{7, 110, []impl.Walk{{A: 1, B: 2, Minutes: 2}}, 8, 2},
		{7, 111, []impl.Walk{{A: 1, B: 2, Minutes: 2}}, 2, 1},
		{7, 109, []impl.Walk{{A: 1, B: 2, Minutes: 1}}, 7, 2},
		{7, 110, []impl.Walk{{A: 1, B: 2, Minutes: 1}}, 1, 1},
		{9, 110, []impl.Walk{{A: 2, B: 4, Minutes: 5}, {A: 3, B: 4, Minutes: 1}}, 5, 2},
		{9, 116, []impl.Walk{{A: 2, B: 4, Minutes: 5}, {A: 3, B: 4, Minutes: 1}}, 11, 2},
		{60, 117, []impl.Walk{{A: 2, B: 4, Minutes: 5}, {A: 3, B: 4, Minutes: 1}}, 1, 3},
	} {
		x := impl.Timetable{Network: crossing7(c.between), Trips: []impl.Trip{{Id: 3, Line: 0, Start: 100}, {Id: 8, Line: 1, Start: c.start}}}
		if m, stop, ok := impl.ChangeTime(x, c.list, 3, 8); !ok || m != c.minutes || stop != c.stop {
			t.Error("with", c.between, "minutes, from", c.start, "on and over", c.list, "it takes", m, "at", stop, ok)
		}
	}
}

func TestChangeTimeBehindMidnight(t *testing.T) {
	x := impl.Timetable{Network: crossing7(7), Trips: []impl.Trip{{Id: 3, Line: 0, Start: 1438}, {Id: 8, Line: 1, Start: 1440}}}
	if m, stop, ok := impl.ChangeTime(x, nil, 3, 8); !ok || m != 0 || stop != 2 {
		t.Error("around midnight it takes", m, "at", stop, ok)
	}
	x.Trips[1].Start = impl.MaxTime - 12
	if m, stop, ok := impl.ChangeTime(x, nil, 3, 8); !ok || m != 347 || stop != 2 {
		t.Error("behind midnight it takes", m, "at", stop, ok)
	}
}

func TestChangeTimeRejectsIds(t *testing.T) {
	// Somebody could leave trip 41 where and when trip 2 departs, which runs at the same times.
	if m, stop, ok := impl.ChangeTime(day5(), walks7(), 41, 2); !ok || m != 0 || stop != 1 {
		t.Error("no change", m, stop, ok)
	}
	for _, x := range day5().Trips {
		if m, stop, ok := impl.ChangeTime(day5(), walks7(), x.Id, x.Id); ok || m != 0 || stop != 0 {
			t.Error("between", x.Id, "and itself", m, stop, ok)
		}
		for _, id := range append([]int{1, 3, 39, 42, 699, 701, 997, 999}, noIds5...) {
			if m, stop, ok := impl.ChangeTime(day5(), walks7(), x.Id, id); ok || m != 0 || stop != 0 {
				t.Error("from", x.Id, "to", id, m, stop, ok)
			}
			if m, stop, ok := impl.ChangeTime(day5(), walks7(), id, x.Id); ok || m != 0 || stop != 0 {
				t.Error("from", id, "to", x.Id, m, stop, ok)
			}
			if m, stop, ok := impl.ChangeTime(day5(), walks7(), id, id); ok || m != 0 || stop != 0 {
				t.Error("from", id, "to itself", m, stop, ok)
			}
		}
	}
	if m, stop, ok := impl.ChangeTime(with5(), walks7(), 1, 2); ok || m != 0 || stop != 0 {
		t.Error("without trips", m, stop, ok)
	}
}

// walks7 returns a valid list of walks between this number of stops. Often there are few
// different Minutes, so that several ways take the same time.
func (r *random2) walks7(stops int) []impl.Walk {
	var list []impl.Walk
	shortest, longest := 1, []int{1, 3, 9, impl.MaxWalk}[r.below(4)]
	if r.below(6) == 0 {
		shortest, longest = impl.MaxWalk-2, impl.MaxWalk
	}
	all := pairs7(stops)
	for wanted, i := r.below(impl.MaxWalks+1), 0; i < len(all); i++ {
		if r.below(len(all)-i) < wanted-len(list) {
			list = append(list, impl.Walk{A: all[i].A, B: all[i].B, Minutes: shortest + r.below(longest-shortest+1)})
		}
	}
	return list
}

// busy7 returns a valid timetable whose trips run close to each other.
func (r *random2) busy7() impl.Timetable {
	t := impl.Timetable{Network: r.network2()}
	first, longest := []int{0, 600, 1380, 1600}[r.below(4)], []int{5, 60, 200}[r.below(3)]
	for i := range r.below(impl.MaxTrips + 1) {
		x := impl.Trip{Id: 1 + i*(1+r.below(80)), Line: r.below(len(t.Network.Lines))}
		if i > 0 && x.Id <= t.Trips[i-1].Id {
			x.Id = t.Trips[i-1].Id + 1
		}
		times := stopTimes5(t.Network, x)
		x.Start = min(first+r.below(longest), impl.MaxTime-times[len(times)-1])
		t.Trips = append(t.Trips, x)
	}
	return t
}

// sample7 is a valid timetable with valid walks.
type sample7 struct {
	t    impl.Timetable
	list []impl.Walk
}

// samples7 returns day5 and random timetables with walks.
func samples7(count int) []sample7 {
	list := []sample7{{day5(), walks7()}, {day5(), nil}, {with5(), walks7()}}
	r := random2(77)
	for i := range count {
		t := r.busy7()
		if i%5 == 0 {
			t = r.timetable5()
		}
		list = append(list, sample7{t, r.walks7(len(t.Network.Stops))})
	}
	return list
}

// far7 is greater than all walking times.
const far7 = 100000

// between7 returns the walking times between all stops, far7 where there is no way.
func between7(stops int, list []impl.Walk) [][]int {
	times := make([][]int, stops)
	for a := range times {
		times[a] = slices.Repeat([]int{far7}, stops)
		times[a][a] = 0
	}
	for _, x := range list {
		times[x.A][x.B], times[x.B][x.A] = x.Minutes, x.Minutes
	}
	for over := range stops {
		for a := range stops {
			for b := range stops {
				times[a][b] = min(times[a][b], times[a][over]+times[over][b])
			}
		}
	}
	return times
}

// ways7 returns all ways without a stop twice that begin with these stops and lead to a stop,
// each behind its minutes and the number of its stops, so that the first one is the smallest.
func ways7(list []impl.Walk, minutes int, stops []int, to int) [][]int {
	last := stops[len(stops)-1]
	if last == to {
		return [][]int{append([]int{minutes, len(stops)}, stops...)}
	}
	var ways [][]int
	for _, x := range list {
		for _, ends := range [][2]int{{x.A, x.B}, {x.B, x.A}} {
			if ends[0] == last && !slices.Contains(stops, ends[1]) {
				ways = append(ways, ways7(list, minutes+x.Minutes, append(slices.Clone(stops), ends[1]), to)...)
			}
		}
	}
	return ways
}

// groups7 returns the groups by giving all stops of a group the smallest number among them.
func groups7(stops int, list []impl.Walk, limit int) [][]int {
	var numbers []int
	for stop := range stops {
		numbers = append(numbers, stop)
	}
	for range stops {
		for _, x := range list {
			if x.Minutes <= limit {
				smallest := min(numbers[x.A], numbers[x.B])
				numbers[x.A], numbers[x.B] = smallest, smallest
			}
		}
	}
	var groups [][]int
	for number := range stops {
		var group []int
		for stop := range stops {
			if numbers[stop] == number {
				group = append(group, stop)
			}
		}
		if group != nil {
			groups = append(groups, group)
		}
	}
	return groups
}

// departures7 returns all departures of all trips as connections, in order.
func departures7(t impl.Timetable) []impl.Connection {
	var list []impl.Connection
	for _, x := range t.Trips {
		stops := t.Network.Lines[x.Line].Stops
		for place, at := range stopTimes5(t.Network, x)[:len(stops)-1] {
			list = append(list, impl.Connection{Id: x.Id, Stop: stops[place], Place: place, Time: at})
		}
	}
	slices.SortFunc(list, func(a impl.Connection, b impl.Connection) int {
		return slices.Compare([]int{a.Time, a.Id}, []int{b.Time, b.Id})
	})
	return list
}

// caught7 returns the first one of the departures of every trip for which there is time.
func caught7(t impl.Timetable, walking []int, time int) []impl.Connection {
	var list []impl.Connection
	has := map[int]bool{}
	for _, c := range departures7(t) {
		if !has[c.Id] && time+walking[c.Stop] <= c.Time {
			has[c.Id] = true
			list = append(list, c)
		}
	}
	return list
}

// changed7 returns the first one of the pairs of the time and the place of all changes between
// two trips.
func changed7(t impl.Timetable, walking [][]int, from impl.Trip, to impl.Trip) ([2]int, bool) {
	var list [][2]int
	stops := t.Network.Lines[from.Line].Stops
	for place, at := range stopTimes5(t.Network, from) {
		for _, c := range departures7(t) {
			if place > 0 && c.Id == to.Id && c.Time-at >= walking[stops[place]][c.Stop] {
				list = append(list, [2]int{c.Time - at, place})
			}
		}
	}
	if len(list) == 0 {
		return [2]int{}, false
	}
	return slices.MinFunc(list, func(a [2]int, b [2]int) int { return slices.Compare(a[:], b[:]) }), true
}

func TestWaysOfRandomWalks(t *testing.T) {
	for _, x := range samples7(400) {
		n := x.t.Network
		times := between7(len(n.Stops), x.list)
		for a := range n.Stops {
			l, ok := impl.WalkingTimes(n, x.list, a)
			if !ok || len(l) != len(n.Stops) {
				t.Fatal("times from", a, "over", x.list, l, ok)
			}
			for b := range n.Stops {
				if l[b] != times[a][b] && (l[b] != -1 || times[a][b] < far7) {
					t.Fatal("from", a, "to", b, "over", x.list, l)
				}
				ways := ways7(x.list, 0, []int{a}, b)
				var want []int
				if len(ways) > 0 {
					want = slices.MinFunc(ways, slices.Compare[[]int])[2:]
				}
				if l, ok := impl.ShortestWalk(n, x.list, a, b); ok != (want != nil) || !slices.Equal(l, want) {
					t.Fatal("the way from", a, "to", b, "over", x.list, "is", l, ok, "and not", want)
				}
			}
		}
	}
}

func TestRandomWalksTogether(t *testing.T) {
	for _, x := range samples7(600) {
		n := x.t.Network
		times := between7(len(n.Stops), x.list)
		var closed []impl.Walk
		for _, pair := range pairs7(len(n.Stops)) {
			if m := times[pair.A][pair.B]; m < far7 {
				closed = append(closed, impl.Walk{A: pair.A, B: pair.B, Minutes: m})
			}
		}
		tooLong := func(x impl.Walk) bool { return x.Minutes > impl.MaxWalk }
		canClose := len(closed) <= impl.MaxWalks && !slices.ContainsFunc(closed, tooLong)
		if !canClose {
			closed = nil
		}
		if l, ok := impl.CloseWalks(n, x.list); ok != canClose || !slices.Equal(l, closed) {
			t.Fatal("closed", x.list, l, ok)
		}
		var useless []int
		for i, w := range x.list {
			if times[w.A][w.B] < w.Minutes {
				useless = append(useless, i)
			}
		}
		if l, ok := impl.UselessWalks(n, x.list); !ok || !slices.Equal(l, useless) {
			t.Fatal("useless of", x.list, l, ok)
		}
		for _, limit := range []int{0, 1, 2, 3, 6, 60, 119, impl.MaxWalk} {
			if l, ok := impl.WalkGroups(n, x.list, limit); !ok || !reflect.DeepEqual(l, groups7(len(n.Stops), x.list, limit)) {
				t.Fatal("groups of", x.list, "with", limit, l, ok)
			}
		}
	}
}

// times7 returns times around those at which a trip of t is just caught, and the limits.
func times7(t impl.Timetable, walking []int) []int {
	list := []int{0, impl.MaxTime}
	for _, c := range departures7(t) {
		list = append(list, c.Time, c.Time-1, c.Time-walking[c.Stop], c.Time-walking[c.Stop]+1)
	}
	return slices.DeleteFunc(list, func(at int) bool { return at < 0 || at > impl.MaxTime })
}

func TestRandomCatchesAndChanges(t *testing.T) {
	for _, x := range samples7(300) {
		walking := between7(len(x.t.Network.Stops), x.list)
		for stop := range x.t.Network.Stops {
			for _, time := range times7(x.t, walking[stop]) {
				if l, ok := impl.CatchTrips(x.t, x.list, stop, time); !ok || !slices.Equal(l, caught7(x.t, walking[stop], time)) {
					t.Fatal("from", stop, "at", time, "over", x.list, "there are", l, ok)
				}
			}
		}
		for _, from := range x.t.Trips {
			for _, to := range x.t.Trips {
				if from.Id == to.Id {
					continue
				}
				want, wantOk := changed7(x.t, walking, from, to)
				stop := 0
				if wantOk {
					stop = x.t.Network.Lines[from.Line].Stops[want[1]]
				}
				if m, left, ok := impl.ChangeTime(x.t, x.list, from.Id, to.Id); ok != wantOk || m != want[0] || left != stop {
					t.Fatal("from", from, "to", to, "over", x.list, "it takes", m, "at", left, ok, "and not", want, stop)
				}
			}
		}
	}
}

// Promise 7.
func TestWalkingTimesKeepToTheTriangleInequality(t *testing.T) {
	for _, x := range samples7(400) {
		var times [][]int
		for stop := range x.t.Network.Stops {
			l, ok := impl.WalkingTimes(x.t.Network, x.list, stop)
			if !ok || len(l) != len(x.t.Network.Stops) || l[stop] != 0 {
				t.Fatal("times from", stop, "over", x.list, l, ok)
			}
			times = append(times, l)
		}
		for _, w := range x.list {
			if m := times[w.A][w.B]; m < 1 || m > w.Minutes {
				t.Fatal("it takes", m, "over", x.list, "and not", w)
			}
		}
		for a := range times {
			for b := range times {
				if times[a][b] != times[b][a] {
					t.Fatal("another time back", a, b, times, x.list)
				}
				for over := range times {
					if times[a][over] >= 0 && times[over][b] >= 0 && (times[a][b] < 0 || times[a][b] > times[a][over]+times[over][b]) {
						t.Fatal("from", a, "over", over, "to", b, times, x.list)
					}
				}
			}
		}
	}
}

// Promise 7.
func TestCaughtTripsLeaveTimeForTheWalk(t *testing.T) {
	caught := 0
	for _, x := range samples7(150) {
		for stop := range x.t.Network.Stops {
			walking, _ := impl.WalkingTimes(x.t.Network, x.list, stop)
			for time := range impl.MaxTime + 1 {
				if time%97 != 0 && (time < 600 || time > 640) && (time < 1380 || time > 1400) {
					continue
				}
				l, ok := impl.CatchTrips(x.t, x.list, stop, time)
				if !ok {
					t.Fatal("failed", x.t, x.list, stop, time)
				}
				caught += len(l)
				for _, c := range l {
					number, _ := impl.TripNumber(x.t, c.Id)
					times, _ := impl.StopTimes(x.t, c.Id)
					stops := x.t.Network.Lines[x.t.Trips[number].Line].Stops
					if c.Place < 0 || c.Place >= len(stops)-1 || stops[c.Place] != c.Stop || times[c.Place] != c.Time {
						t.Fatal("no departure", c, x.t)
					}
					if walking[c.Stop] < 0 || time+walking[c.Stop] > c.Time {
						t.Fatal("no time for the walk", c, "from", stop, "at", time, "over", x.list)
					}
				}
			}
		}
	}
	if caught < 1000 {
		t.Error("only", caught, "trips were caught")
	}
}

// callAll7 calls every function of the chapter and changes everything that the results hold.
func callAll7(t impl.Timetable, list []impl.Walk) {
	n := t.Network
	impl.IsValidWalks(n, list)
	for a := range n.Stops {
		times, _ := impl.WalkingTimes(n, list, a)
		fill2(times)
		for b := range n.Stops {
			stops, _ := impl.ShortestWalk(n, list, a, b)
			fill2(stops)
		}
		caught, _ := impl.CatchTrips(t, list, a, 0)
		clear(caught[:cap(caught)])
	}
	closed, _ := impl.CloseWalks(n, list)
	clear(closed[:cap(closed)])
	for _, limit := range []int{0, 3, impl.MaxWalk} {
		groups, _ := impl.WalkGroups(n, list, limit)
		for _, group := range groups {
			fill2(group)
		}
		clear(groups[:cap(groups)])
	}
	useless, _ := impl.UselessWalks(n, list)
	fill2(useless)
	for _, from := range t.Trips {
		for _, to := range t.Trips {
			impl.ChangeTime(t, list, from.Id, to.Id)
		}
	}
}

// results7 returns all results of the functions of the chapter.
func results7(t impl.Timetable, list []impl.Walk) string {
	n := t.Network
	s := fmt.Sprintln(impl.IsValidWalks(n, list))
	for a := range n.Stops {
		s += fmt.Sprintln(impl.WalkingTimes(n, list, a))
		for b := range n.Stops {
			s += fmt.Sprintln(impl.ShortestWalk(n, list, a, b))
		}
		s += fmt.Sprintln(impl.CatchTrips(t, list, a, 0))
	}
	s += fmt.Sprintln(impl.CloseWalks(n, list))
	s += fmt.Sprintln(impl.WalkGroups(n, list, impl.MaxWalk))
	s += fmt.Sprintln(impl.UselessWalks(n, list))
	for _, from := range t.Trips {
		for _, to := range t.Trips {
			s += fmt.Sprintln(impl.ChangeTime(t, list, from.Id, to.Id))
		}
	}
	return s
}

func TestWalksAreNotModifiedAndNotReadBeyondTheEnd(t *testing.T) {
	for _, x := range samples7(100) {
		roomy := roomy5(x.t)
		stops := len(x.t.Network.Stops)
		// A walk that would be valid, and shorter than any way.
		list := append(slices.Clone(x.list), impl.Walk{A: stops - 2, B: stops - 1, Minutes: 1})
		before, walks := wide5(roomy), slices.Clone(list)
		callAll7(roomy, list[:len(x.list)])
		if after := wide5(roomy); !reflect.DeepEqual(after, before) || !slices.Equal(list, walks) {
			t.Fatal("arguments were", before, walks, "and are", after, list)
		}
		if results7(roomy, list[:len(x.list)]) != results7(clone5(x.t), slices.Clone(x.list)) {
			t.Fatal("other results for", x)
		}
	}
}

func TestWalkGroupsHaveNewMemory(t *testing.T) {
	for _, x := range samples7(100) {
		for _, limit := range []int{0, 2, impl.MaxWalk} {
			groups, _ := impl.WalkGroups(x.t.Network, x.list, limit)
			again, _ := impl.WalkGroups(x.t.Network, x.list, limit)
			want := groups7(len(x.t.Network.Stops), x.list, limit)
			for i := range groups {
				fill2(groups[i])
				if !reflect.DeepEqual(groups[i+1:], want[i+1:]) || !reflect.DeepEqual(again, want) {
					t.Fatal("groups share memory", x.list, limit)
				}
			}
		}
	}
}

func TestListsOfWalksHaveNewMemory(t *testing.T) {
	for range 3 {
		callAll7(day5(), walks7())
		want := results7(day5(), walks7())
		callAll7(day5(), walks7())
		if results7(day5(), walks7()) != want {
			t.Fatal("results share memory with later ones")
		}
	}
	first, _ := impl.CatchTrips(day5(), walks7(), 0, 360)
	second, _ := impl.CatchTrips(day5(), walks7(), 0, 360)
	clear(first[:cap(first)])
	if !slices.Equal(second, caught7(day5(), between7(7, walks7())[0], 360)) {
		t.Error("CatchTrips shares memory", second)
	}
}
