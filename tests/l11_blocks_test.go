package tests

import (
	"fmt"
	"math"
	"reflect"
	"slices"
	"testing"

	"loop.example/g00900/impl"
)

// even11 returns a fleet in which all vehicles take the same minutes between different stops,
// but for these: from a stop, to a stop, minutes.
func even11(stops int, turn int, dead int, others ...[3]int) impl.Fleet {
	f := impl.Fleet{Turn: turn, Dead: [][]int{}}
	for a := range stops {
		row := slices.Repeat([]int{dead}, stops)
		row[a] = 0
		f.Dead = append(f.Dead, row)
	}
	for _, x := range others {
		f.Dead[x[0]][x[1]] = x[2]
	}
	return f
}

// fleet11 returns such a fleet for the most stops.
func fleet11(turn int, dead int, others ...[3]int) impl.Fleet {
	return even11(impl.MaxStops, turn, dead, others...)
}

// town11 has lines of 10 minutes: from stop 0 to 1, back from 1 to 0, from 2 to 3, and from 4
// over 5 to 6. No line serves stop 7. A trip is its Id, its line and its Start.
func town11(trips ...[3]int) impl.Timetable {
	return plan8([][]int{{0, 10, 1}, {1, 10, 0}, {2, 10, 3}, {4, 5, 5, 5, 6}}, trips...)
}

// day11 has a fleet and trips of which 1, 2, 3 and 7 can follow each other in this order, as
// 4 and 6 can; 5 starts at the same minute as 1.
func day11() (impl.Timetable, impl.Fleet) {
	t := town11([3]int{1, 0, 360}, [3]int{2, 1, 375}, [3]int{3, 0, 390}, [3]int{4, 2, 361}, [3]int{5, 3, 360}, [3]int{6, 1, 381}, [3]int{7, 3, 425})
	return t, fleet11(5, 20, [3]int{3, 1, 5})
}

// blocks11 returns blocks of which each is written as its Ids.
func blocks11(blocks ...[]int) [][]int { return blocks }

// cloneBlocks11 returns blocks that share nothing with these.
func cloneBlocks11(blocks [][]int) [][]int {
	list := [][]int{}
	for _, block := range blocks {
		list = append(list, slices.Clone(block))
	}
	return list
}

// sameBlocks11 reports whether blocks are equal.
func sameBlocks11(a [][]int, b [][]int) bool { return slices.EqualFunc(a, b, slices.Equal) }

// span11 returns the times of a trip.
func span11(n impl.Network, x impl.Trip) impl.Span {
	times := stopTimes5(n, x)
	return impl.Span{From: times[0], To: times[len(times)-1]}
}

// dead11 returns the dead minutes between two trips.
func dead11(n impl.Network, f impl.Fleet, a impl.Trip, b impl.Trip) int {
	from, to := slices.Clone(n.Lines[a.Line].Stops), n.Lines[b.Line].Stops
	slices.Reverse(from)
	return f.Dead[from[0]][to[0]]
}

// ready11 returns the first minute at which trip b can follow trip a.
func ready11(n impl.Network, f impl.Fleet, a impl.Trip, b impl.Trip) int {
	return span11(n, a).To + f.Turn + dead11(n, f, a, b)
}

// sample11 is a timetable with a fleet.
type sample11 struct {
	t impl.Timetable
	f impl.Fleet
}

// can returns what CanFollow should, for the indices of trips.
func (x sample11) can(a int, b int) bool {
	return x.t.Trips[b].Start >= ready11(x.t.Network, x.f, x.t.Trips[a], x.t.Trips[b])
}

// dead returns the dead minutes between the trips with two indices.
func (x sample11) dead(a int, b int) int {
	return dead11(x.t.Network, x.f, x.t.Trips[a], x.t.Trips[b])
}

// trip returns the trip with an Id.
func (x sample11) trip(id int) impl.Trip {
	for _, trip := range x.t.Trips {
		if trip.Id == id {
			return trip
		}
	}
	return impl.Trip{}
}

// ids returns the Ids of all trips.
func (x sample11) ids() []int {
	var list []int
	for _, trip := range x.t.Trips {
		list = append(list, trip.Id)
	}
	return list
}

// blocks returns the blocks in which the trips with these indices, or none for -1, are before
// the trips.
func (x sample11) blocks(before []int) [][]int {
	list := [][]int{}
	for i, trip := range x.t.Trips {
		if before[i] >= 0 {
			continue
		}
		block := []int{trip.Id}
		for next := 0; next < len(before); next++ {
			if before[next] == i {
				block = append(block, x.t.Trips[next].Id)
				i, next = next, -1
			}
		}
		list = append(list, block)
	}
	return list
}

// total returns the dead minutes of the same blocks.
func (x sample11) total(before []int) int {
	sum := 0
	for i, a := range before {
		if a >= 0 {
			sum += x.dead(a, i)
		}
	}
	return sum
}

// all calls see with the trips before all trips of all blocks that there are, in lexicographic
// order.
func (x sample11) all(before []int, see func(before []int)) {
	i := len(before)
	if i == len(x.t.Trips) {
		see(before)
		return
	}
	for a := -1; a < len(x.t.Trips); a++ {
		if a < 0 || a != i && x.can(a, i) && !slices.Contains(before, a) {
			x.all(append(slices.Clone(before), a), see)
		}
	}
}

// key returns a list that is smaller for better blocks.
func (x sample11) key(before []int) []int {
	return append([]int{len(x.blocks(before)), x.total(before)}, before...)
}

// first returns the trips before all trips in the blocks that MakeBlocks should return, found
// by trying all of them.
func (x sample11) first() []int {
	var first []int
	x.all(nil, func(before []int) {
		if first == nil || slices.Compare(x.key(before), x.key(first)) < 0 {
			first = before
		}
	})
	return first
}

// never11 is a cost that is not taken.
const never11 = math.MaxInt / 2

// costs returns the costs at which a row takes a column, such that the least sum of them is that
// of the blocks that MakeBlocks should return: rows are trips, and columns are the trips before
// them and, behind these, the beginnings of blocks. The trips before others count least, as the
// digits of one number.
func (x sample11) costs() [][]int {
	count, unit, digit := len(x.t.Trips), 1, 1
	for range count {
		unit *= count + 1
	}
	costs := make([][]int, count)
	for i := count - 1; i >= 0; i-- {
		costs[i] = slices.Repeat([]int{never11}, 2*count)
		costs[i][count+i] = (impl.MaxTrips*impl.MaxDead + 1) * unit
		for a := range count {
			if a != i && x.can(a, i) {
				costs[i][a] = x.dead(a, i)*unit + (a+1)*digit
			}
		}
		digit *= count + 1
	}
	return costs
}

// assigned11 returns a different column for every row such that the sum of the costs is least.
// It is the Hungarian method: rows are added one by one, each along the cheapest way on which
// others change their columns.
func assigned11(costs [][]int) []int {
	rows, columns := len(costs), 0
	if rows > 0 {
		columns = len(costs[0])
	}
	ofRow, ofColumn, taker := make([]int, rows+1), make([]int, columns+1), make([]int, columns+1)
	for row := 1; row <= rows; row++ {
		taker[0] = row
		way, least, seen := make([]int, columns+1), slices.Repeat([]int{never11}, columns+1), make([]bool, columns+1)
		at := 0
		for taker[at] != 0 {
			seen[at] = true
			by, next, step := taker[at], 0, never11
			for j := 1; j <= columns; j++ {
				if cost := costs[by-1][j-1]; !seen[j] && cost != never11 && cost-ofRow[by]-ofColumn[j] < least[j] {
					least[j], way[j] = cost-ofRow[by]-ofColumn[j], at
				}
				if !seen[j] && least[j] < step {
					next, step = j, least[j]
				}
			}
			for j := range seen {
				if seen[j] {
					ofRow[taker[j]] += step
					ofColumn[j] -= step
				} else if least[j] != never11 {
					least[j] -= step
				}
			}
			at = next
		}
		for at != 0 {
			taker[at] = taker[way[at]]
			at = way[at]
		}
	}
	taken := make([]int, rows)
	for j := 1; j <= columns; j++ {
		if taker[j] > 0 {
			taken[taker[j]-1] = j - 1
		}
	}
	return taken
}

// made returns the same as first, also for many trips.
func (x sample11) made() []int {
	before := assigned11(x.costs())
	for i := range before {
		if before[i] >= len(before) {
			before[i] = -1
		}
	}
	return before
}

// fleet11 returns a random valid fleet. Often there are few different Dead, so that several
// blocks have as many dead minutes.
func (r *random2) fleet11(stops int) impl.Fleet {
	f := even11(stops, []int{0, 1 + r.below(impl.MaxTurn-1), impl.MaxTurn}[r.below(3)], 0)
	step, count := []int{1, 1, 10, 60}[r.below(4)], 1+r.below(4)
	if step == 60 {
		count = 3
	}
	for a := range stops {
		for b := range stops {
			if a != b {
				f.Dead[a][b] = step * r.below(count)
			}
		}
	}
	return f
}

// sample11 returns a random timetable with a fleet, in which trips often start at the minute at
// which they can follow another one or a minute apart from it, or at the same minute as others.
func (r *random2) sample11(most int) sample11 {
	n := r.network2()
	if r.below(2) == 0 {
		n = r.chain8()
	}
	x := sample11{impl.Timetable{Network: n}, r.fleet11(len(n.Stops))}
	var trips []impl.Trip
	for range r.below(most + 1) {
		trip := impl.Trip{Line: r.below(len(n.Lines)), Start: 300 + r.below(5)}
		if len(trips) > 0 {
			other := trips[r.below(len(trips))]
			trip.Start = other.Start
			if r.below(6) > 0 {
				trip.Start = ready11(n, x.f, other, trip) + []int{0, 0, -1, 1, 10}[r.below(5)]
			}
		}
		trip.Start = min(trip.Start, impl.MaxTime-span11(n, impl.Trip{Line: trip.Line}).To)
		trips = append(trips, trip)
	}
	step := 1 + r.below(impl.MaxId/impl.MaxTrips)
	for i, place := range r.shuffled2(len(trips), len(trips)) {
		trips[place].Id = (i + 1) * step
		x.t.Trips = append(x.t.Trips, trips[place])
	}
	return x
}

// samples11 returns day11, timetables with no trips and with MaxTrips trips, and random ones.
func samples11(count int, most int) []sample11 {
	t, f := day11()
	list := []sample11{{t, f}, {town11(), f}, {with5(trips5(impl.MaxTrips)...), even11(7, 0, 0)}, {day5(), even11(7, 2, 3)}}
	r := random2(11)
	for range count {
		list = append(list, r.sample11(most))
	}
	return list
}

// someBlocks11 returns random valid blocks.
func (r *random2) someBlocks11(x sample11) [][]int {
	before := make([]int, len(x.t.Trips))
	for i := range before {
		before[i] = -1
	}
	for _, i := range r.shuffled2(len(before), len(before)) {
		for _, a := range r.shuffled2(len(before), r.below(len(before)+1)) {
			if a != i && x.can(a, i) && !slices.Contains(before, a) {
				before[i] = a
				break
			}
		}
	}
	return x.blocks(before)
}

func TestLimitsOfFleets(t *testing.T) {
	if impl.MaxDead != 120 || impl.MaxTurn != 30 {
		t.Error(impl.MaxDead, impl.MaxTurn)
	}
}

// validity11 is one fleet and what IsValidFleet should say of it.
type validity11 struct {
	about string
	n     impl.Network
	f     impl.Fleet
	valid bool
}

func validities11() []validity11 {
	return slices.Concat(fleetNetworks11(), turns11(), deads11(), sizes11())
}

// fitting11 returns a fleet of the right size for a network, unless this has far too many stops.
func fitting11(n impl.Network) impl.Fleet { return even11(min(len(n.Stops), 100), 5, 10) }

// fleetNetworks11 returns fleets of the right size for all networks of chapter 2.
func fleetNetworks11() []validity11 {
	var list []validity11
	for _, c := range validities2() {
		list = append(list, validity11{c.about, c.n, fitting11(c.n), c.valid})
	}
	for stops := 2; stops <= impl.MaxStops; stops++ {
		n := impl.Network{Stops: stops2(stops), Lines: lines2(1)}
		for rows := range impl.MaxStops + 3 {
			list = append(list, validity11{fmt.Sprint(rows, " rows for ", stops, " stops"), n, even11(rows, 5, 10), rows == stops})
		}
	}
	return list
}

func turns11() []validity11 {
	var list []validity11
	for turn := range 31 {
		list = append(list, validity11{fmt.Sprint("the Turn ", turn), town11().Network, fleet11(turn, 10), true})
	}
	for _, turn := range []int{-1, -2, -30, 31, 32, 60, 120, 1 << 32, 1<<32 + 5, -1 << 32, math.MaxInt, math.MinInt} {
		list = append(list, validity11{fmt.Sprint("the Turn ", turn), town11().Network, fleet11(turn, 10), false})
	}
	return list
}

// deads11 returns fleets in which one Dead is different from all others.
func deads11() []validity11 {
	var list []validity11
	add := func(a int, b int, dead int, valid bool) {
		f := fleet11(5, 10, [3]int{a, b, dead})
		list = append(list, validity11{fmt.Sprint("the Dead ", dead, " from ", a, " to ", b), town11().Network, f, valid})
	}
	for a := range impl.MaxStops {
		for b := range impl.MaxStops {
			for _, dead := range []int{1, 2, 119, 120} {
				add(a, b, dead, a != b)
			}
			for _, dead := range []int{-1, -2, -120, 121, 122, 1 << 32, 1<<32 + 5, -1 << 32, math.MaxInt, math.MinInt} {
				add(a, b, dead, false)
			}
			add(a, b, 0, true)
		}
	}
	for _, dead := range []int{0, 1, 120} {
		list = append(list, validity11{fmt.Sprint("every Dead ", dead), town11().Network, fleet11(0, dead), true})
	}
	return list
}

// sizes11 returns fleets without rows, and such of which one row has another length.
func sizes11() []validity11 {
	n, full := town11().Network, fleet11(5, 10).Dead
	list := []validity11{
		{"nothing", n, impl.Fleet{}, false},
		{"empty rows", n, impl.Fleet{Dead: make([][]int, impl.MaxStops)}, false},
		{"no network", impl.Network{}, impl.Fleet{}, false},
		{"the last row is missing", n, impl.Fleet{Dead: full[:7]}, false},
		{"the first row is missing", n, impl.Fleet{Dead: full[1:]}, false},
		{"a further row", n, impl.Fleet{Dead: append(fleet11(5, 10).Dead, full[7])}, false},
		{"many further rows", n, impl.Fleet{Dead: slices.Repeat(full, 100)}, false},
		{"a further empty row", n, impl.Fleet{Dead: append(fleet11(5, 10).Dead, nil)}, false},
	}
	for a := range impl.MaxStops {
		for _, length := range []int{0, 1, a, 7, 9, 16} {
			if length == impl.MaxStops {
				continue
			}
			f := fleet11(5, 10)
			f.Dead[a] = make([]int, length)
			list = append(list, validity11{fmt.Sprint("row ", a, " with the length ", length), n, f, false})
		}
		f := fleet11(5, 10)
		f.Dead[a] = nil
		list = append(list, validity11{fmt.Sprint("no row ", a), n, f, false})
	}
	return list
}

func TestIsValidFleet(t *testing.T) {
	for _, c := range validities11() {
		if valid := impl.IsValidFleet(c.n, c.f); valid != c.valid {
			t.Error(c.about, valid)
		}
	}
}

// checkFails11 calls all functions that take a fleet with arguments of which at least one is
// invalid, whatever the Ids and blocks.
func checkFails11(t *testing.T, about string, x sample11, ids []int, blocks [][]int) {
	t.Helper()
	for _, a := range ids {
		for _, b := range ids {
			if yes, ok := impl.CanFollow(x.t, x.f, a, b); ok || yes {
				t.Error(about, "CanFollow", a, b, yes, ok)
			}
		}
	}
	if l, dead, ok := impl.MakeBlocks(x.t, x.f); ok || dead != 0 || len(l) != 0 {
		t.Error(about, "MakeBlocks", l, dead, ok)
	}
	checkNoBlocks11(t, about, x, ids, blocks)
}

// checkNoBlocks11 calls all functions that take blocks with invalid ones.
func checkNoBlocks11(t *testing.T, about string, x sample11, ids []int, blocks [][]int) {
	t.Helper()
	if impl.IsValidBlocks(x.t, x.f, blocks) {
		t.Error(about, "are blocks", blocks)
	}
	if dead, ok := impl.DeadMinutes(x.t, x.f, blocks); ok || dead != 0 {
		t.Error(about, "DeadMinutes", blocks, dead, ok)
	}
	if l, ok := impl.BlockSpans(x.t, x.f, blocks); ok || len(l) != 0 {
		t.Error(about, "BlockSpans", blocks, l, ok)
	}
	for _, a := range ids {
		if i, place, ok := impl.BlockOf(x.t, x.f, blocks, a); ok || i != 0 || place != 0 {
			t.Error(about, "BlockOf", blocks, a, i, place, ok)
		}
		for _, b := range ids {
			if l, ok := impl.SwapTails(x.t, x.f, blocks, a, b); ok || len(l) != 0 {
				t.Error(about, "SwapTails", blocks, a, b, l, ok)
			}
		}
	}
}

func TestInvalidTimetablesHaveNoBlocks(t *testing.T) {
	for _, c := range validities5() {
		if c.valid {
			continue
		}
		if at, count, ok := impl.PeakTrips(c.t); ok || at != 0 || count != 0 {
			t.Error(c.about, "PeakTrips", at, count, ok)
		}
		x := sample11{c.t, fitting11(c.t.Network)}
		ids, single := []int{1, 777}, [][]int{}
		for _, trip := range c.t.Trips {
			if len(ids) < 15 {
				ids = append(ids, trip.Id)
			}
			single = append(single, []int{trip.Id})
		}
		checkFails11(t, c.about, x, ids, single)
		checkFails11(t, c.about, x, ids, nil)
	}
}

func TestInvalidFleetsHaveNoBlocks(t *testing.T) {
	for _, c := range validities11() {
		if c.valid {
			continue
		}
		empty := sample11{impl.Timetable{Network: c.n}, c.f}
		checkFails11(t, c.about, empty, []int{1, 2}, nil)
		two := sample11{impl.Timetable{Network: c.n, Trips: []impl.Trip{{Id: 1, Start: 100}, {Id: 2, Start: 1000}}}, c.f}
		checkFails11(t, c.about, two, []int{1, 2, 3}, blocks11([]int{1}, []int{2}))
		checkFails11(t, c.about, two, []int{1, 2, 3}, blocks11([]int{1, 2}))
	}
}

func TestPeakTripsNeedsNoFleet(t *testing.T) {
	x, _ := day11()
	if at, count, ok := impl.PeakTrips(x); !ok || at != 361 || count != 3 {
		t.Error(at, count, ok)
	}
}

func TestCanFollow(t *testing.T) {
	cases := []struct {
		about string
		f     impl.Fleet
		a     [2]int // its line and its Start
		b     [2]int
		want  bool
	}{
		{"at the minute of the arrival", fleet11(0, 0), [2]int{0, 360}, [2]int{1, 370}, true},
		{"one minute before the arrival", fleet11(0, 0), [2]int{0, 360}, [2]int{1, 369}, false},
		{"at the same minute", fleet11(0, 0), [2]int{0, 360}, [2]int{1, 360}, false},
		{"at the same minute on the same line", fleet11(0, 0), [2]int{0, 360}, [2]int{0, 360}, false},
		{"earlier", fleet11(0, 0), [2]int{0, 370}, [2]int{1, 360}, false},
		{"much later", fleet11(30, 120), [2]int{0, 0}, [2]int{1, 1789}, true},
		{"with a Turn", fleet11(5, 0), [2]int{0, 360}, [2]int{1, 375}, true},
		{"one minute before a Turn", fleet11(5, 0), [2]int{0, 360}, [2]int{1, 374}, false},
		{"with the longest Turn", fleet11(30, 0), [2]int{0, 360}, [2]int{1, 400}, true},
		{"one minute before the longest Turn", fleet11(30, 0), [2]int{0, 360}, [2]int{1, 399}, false},
		{"at the same stop with Dead to the others", fleet11(0, 120), [2]int{0, 360}, [2]int{1, 370}, true},
		{"back on the same line", fleet11(0, 7), [2]int{0, 360}, [2]int{0, 377}, true},
		{"back on the same line, one minute before", fleet11(0, 7), [2]int{0, 360}, [2]int{0, 376}, false},
		{"with Turn and Dead", fleet11(5, 7), [2]int{0, 360}, [2]int{2, 382}, true},
		{"one minute before Turn and Dead", fleet11(5, 7), [2]int{0, 360}, [2]int{2, 381}, false},
		{"with the longest Turn and Dead", fleet11(30, 120), [2]int{0, 360}, [2]int{2, 520}, true},
		{"one minute before the longest Turn and Dead", fleet11(30, 120), [2]int{0, 360}, [2]int{2, 519}, false},
		{"with a shorter Dead in this direction", fleet11(0, 50, [3]int{1, 2, 4}), [2]int{0, 360}, [2]int{2, 374}, true},
		{"one minute before a shorter Dead", fleet11(0, 50, [3]int{1, 2, 4}), [2]int{0, 360}, [2]int{2, 373}, false},
		{"with a shorter Dead in the other direction", fleet11(0, 50, [3]int{2, 1, 4}), [2]int{0, 360}, [2]int{2, 420}, true},
		{"one minute before a longer Dead", fleet11(0, 50, [3]int{2, 1, 4}), [2]int{0, 360}, [2]int{2, 419}, false},
		{"from the last of three stops", fleet11(0, 50, [3]int{6, 2, 4}), [2]int{3, 360}, [2]int{2, 374}, true},
		{"from the last of three stops, one minute before", fleet11(0, 2, [3]int{6, 2, 4}), [2]int{3, 360}, [2]int{2, 373}, false},
		{"to the first of three stops", fleet11(0, 50, [3]int{1, 4, 3}), [2]int{0, 360}, [2]int{3, 373}, true},
		{"to the first of three stops, one minute before", fleet11(0, 2, [3]int{1, 4, 3}), [2]int{0, 360}, [2]int{3, 372}, false},
		{"around midnight", fleet11(5, 7), [2]int{0, 1430}, [2]int{2, 1452}, true},
		{"around midnight, one minute before", fleet11(5, 7), [2]int{0, 1430}, [2]int{2, 1451}, false},
		{"at the end of the day", fleet11(0, 0), [2]int{0, 1789}, [2]int{1, 1789}, false},
	}
	for _, c := range cases {
		for _, ids := range [][2]int{{3, 8}, {8, 3}} {
			trips := [][3]int{{ids[0], c.a[0], c.a[1]}, {ids[1], c.b[0], c.b[1]}}
			slices.SortFunc(trips, func(a [3]int, b [3]int) int { return a[0] - b[0] })
			if yes, ok := impl.CanFollow(town11(trips...), c.f, ids[0], ids[1]); !ok || yes != c.want {
				t.Error(c.about, ids, yes, ok)
			}
		}
	}
}

func TestCanFollowOfRandomTrips(t *testing.T) {
	can, cannot := 0, 0
	for _, x := range samples11(1500, impl.MaxTrips) {
		for i, a := range x.t.Trips {
			for k, b := range x.t.Trips {
				want := i != k && x.can(i, k)
				if yes, ok := impl.CanFollow(x.t, x.f, a.Id, b.Id); ok != (i != k) || yes != want {
					t.Fatal(x, a.Id, b.Id, yes, ok)
				}
				if want {
					can++
				} else {
					cannot++
				}
			}
		}
	}
	if can < 3000 || cannot < 3000 {
		t.Error("only", can, "and", cannot)
	}
}

func TestCanFollowRejects(t *testing.T) {
	x, f := day11()
	for _, a := range append([]int{1, 2, 7, 8, 100, 999}, noIds5...) {
		for _, b := range append([]int{1, 2, 7, 8, 100, 999}, noIds5...) {
			yes, ok := impl.CanFollow(x, f, a, b)
			exist := a >= 1 && a <= 7 && b >= 1 && b <= 7
			if ok != (exist && a != b) || yes != (exist && a < b) {
				t.Error(a, b, yes, ok)
			}
		}
	}
	if yes, ok := impl.CanFollow(town11(), f, 1, 2); ok || yes {
		t.Error("without trips", yes, ok)
	}
}

func TestIsValidBlocks(t *testing.T) {
	x, f := day11()
	cases := []struct {
		about  string
		blocks [][]int
		valid  bool
	}{
		{"single trips", blocks11([]int{1}, []int{2}, []int{3}, []int{4}, []int{5}, []int{6}, []int{7}), true},
		{"blocks", blocks11([]int{1, 2, 3, 7}, []int{4, 6}, []int{5}), true},
		{"other blocks", blocks11([]int{1, 7}, []int{2, 3}, []int{4, 6}, []int{5}), true},
		{"an empty block at the beginning", blocks11([]int{}, []int{1, 2, 3, 7}, []int{4, 6}, []int{5}), false},
		{"an empty block in the middle", blocks11([]int{1, 2, 3, 7}, []int{}, []int{4, 6}, []int{5}), false},
		{"an empty block at the end", blocks11([]int{1, 2, 3, 7}, []int{4, 6}, []int{5}, []int{}), false},
		{"a nil block", blocks11([]int{1, 2, 3, 7}, nil, []int{4, 6}, []int{5}), false},
		{"no blocks", nil, false},
		{"only an empty block", blocks11([]int{}), false},
		{"the first Id is missing", blocks11([]int{2, 3, 7}, []int{4, 6}, []int{5}), false},
		{"an Id is missing", blocks11([]int{1, 3, 7}, []int{4, 6}, []int{5}), false},
		{"the last Id is missing", blocks11([]int{1, 2, 3}, []int{4, 6}, []int{5}), false},
		{"a block is missing", blocks11([]int{1, 2, 3, 7}, []int{4, 6}), false},
		{"an Id twice in its block", blocks11([]int{1, 2, 2, 3, 7}, []int{4, 6}, []int{5}), false},
		{"a single Id twice in its block", blocks11([]int{1, 2, 3, 7}, []int{4, 6}, []int{5, 5}), false},
		{"an Id again in another block", blocks11([]int{1, 2, 3, 7}, []int{4, 6}, []int{5, 7}), false},
		{"an Id twice instead of another one", blocks11([]int{1, 3, 7}, []int{4, 6}, []int{5, 7}), false},
		{"a block twice", blocks11([]int{1, 2, 3, 7}, []int{4, 6}, []int{5}, []int{5}), false},
		{"the first Id again", blocks11([]int{1, 2, 3, 7}, []int{1}, []int{4, 6}, []int{5}), false},
		{"an Id that does not exist at the beginning", blocks11([]int{0, 2, 3, 7}, []int{1}, []int{4, 6}, []int{5}), false},
		{"an Id that does not exist at the end", blocks11([]int{1, 2, 3, 7}, []int{4, 6}, []int{5, 8}), false},
		{"a block of an Id that does not exist", blocks11([]int{1, 2, 3, 7}, []int{4, 6}, []int{5}, []int{8}), false},
		{"an Id that does not exist in between", blocks11([]int{1, 2, 99, 3, 7}, []int{4, 6}, []int{5}), false},
		{"another order", blocks11([]int{4, 6}, []int{1, 2, 3, 7}, []int{5}), false},
		{"another order at the end", blocks11([]int{1, 2, 3, 7}, []int{5}, []int{4, 6}), false},
		{"the opposite order", blocks11([]int{5}, []int{4, 6}, []int{1, 2, 3, 7}), false},
		{"the opposite order in a block", blocks11([]int{1, 2, 3, 7}, []int{5}, []int{6, 4}), false},
		{"a trip too early", blocks11([]int{1, 3, 7}, []int{2, 6}, []int{4}, []int{5}), false},
		{"a trip of the same minute", blocks11([]int{1, 5}, []int{2, 3, 7}, []int{4, 6}), false},
		{"the last trip too early", blocks11([]int{1, 2, 3, 7}, []int{4}, []int{5, 6}), false},
		{"the last trip of the last block too early", blocks11([]int{1, 2, 7}, []int{4, 6, 3}, []int{5}), false},
	}
	for _, c := range cases {
		if c.valid {
			if !impl.IsValidBlocks(x, f, c.blocks) {
				t.Error(c.about, "are no blocks", c.blocks)
			}
			continue
		}
		checkNoBlocks11(t, c.about, sample11{x, f}, []int{0, 1, 2, 3, 4, 5, 6, 7, 8, 99}, c.blocks)
	}
}

// night11 has the trips of day11 without two of them, with Ids in another order than that of
// their times.
func night11() (impl.Timetable, impl.Fleet) {
	_, f := day11()
	return town11([3]int{2, 1, 375}, [3]int{3, 0, 390}, [3]int{5, 0, 360}, [3]int{6, 1, 381}, [3]int{7, 2, 361}), f
}

func TestBlocksAreInTheOrderOfTheirFirstIds(t *testing.T) {
	x, f := night11()
	for _, c := range []struct {
		blocks [][]int
		valid  bool
	}{
		{blocks11([]int{5, 2, 3}, []int{7, 6}), true},
		{blocks11([]int{7, 6}, []int{5, 2, 3}), false},
		{blocks11([]int{3}, []int{5, 2}, []int{7, 6}), true},
		{blocks11([]int{5, 2}, []int{3}, []int{7, 6}), false},
		{blocks11([]int{5, 2, 3}, []int{6}, []int{7}), true},
		{blocks11([]int{2, 3}, []int{5, 6}, []int{7}), true},
		{blocks11([]int{5, 6}, []int{2, 3}, []int{7}), false},
		{blocks11([]int{2, 5, 3}, []int{7, 6}), false},
		{blocks11([]int{2, 3, 5}, []int{7, 6}), false},
	} {
		if impl.IsValidBlocks(x, f, c.blocks) != c.valid {
			t.Errorf("%v: valid is not %v", c.blocks, c.valid)
		}
	}
}

func TestTimetablesWithoutTripsHaveNoBlocks(t *testing.T) {
	x, f := town11(), fleet11(5, 10)
	for _, blocks := range [][][]int{nil, {}} {
		if !impl.IsValidBlocks(x, f, blocks) {
			t.Error("no blocks are invalid")
		}
		if dead, ok := impl.DeadMinutes(x, f, blocks); !ok || dead != 0 {
			t.Error("DeadMinutes", dead, ok)
		}
		if l, ok := impl.BlockSpans(x, f, blocks); !ok || len(l) != 0 {
			t.Error("BlockSpans", l, ok)
		}
		if i, place, ok := impl.BlockOf(x, f, blocks, 1); ok || i != 0 || place != 0 {
			t.Error("BlockOf", i, place, ok)
		}
		if l, ok := impl.SwapTails(x, f, blocks, 1, 2); ok || len(l) != 0 {
			t.Error("SwapTails", l, ok)
		}
	}
	if at, count, ok := impl.PeakTrips(x); !ok || at != 0 || count != 0 {
		t.Error("PeakTrips", at, count, ok)
	}
	if l, dead, ok := impl.MakeBlocks(x, f); !ok || dead != 0 || len(l) != 0 {
		t.Error("MakeBlocks", l, dead, ok)
	}
	for _, blocks := range [][][]int{{{}}, {nil}, {{1}}, {{0}}} {
		checkNoBlocks11(t, "without trips", sample11{x, f}, []int{0, 1}, blocks)
	}
}

func TestPeakTrips(t *testing.T) {
	cases := []struct {
		about string
		t     impl.Timetable
		at    int
		count int
	}{
		{"one trip", town11([3]int{1, 0, 360}), 360, 1},
		{"one trip at midnight", town11([3]int{1, 0, 0}), 0, 1},
		{"one trip at the end of the day", town11([3]int{1, 0, 1789}), 1789, 1},
		{"two trips apart", town11([3]int{1, 0, 400}, [3]int{2, 0, 360}), 360, 1},
		{"one trip arrives when the other one starts", town11([3]int{1, 0, 360}, [3]int{2, 1, 370}), 360, 1},
		{"one trip arrives a minute later", town11([3]int{1, 0, 360}, [3]int{2, 1, 369}), 369, 2},
		{"two trips at the same minute", town11([3]int{1, 0, 360}, [3]int{2, 1, 360}), 360, 2},
		{"the later peak is greater", town11([3]int{1, 0, 360}, [3]int{2, 0, 361}, [3]int{3, 0, 600}, [3]int{4, 0, 605}, [3]int{5, 0, 609}), 609, 3},
		{"the earlier peak is greater", town11([3]int{1, 0, 600}, [3]int{2, 0, 601}, [3]int{3, 0, 360}, [3]int{4, 0, 365}, [3]int{5, 0, 369}), 369, 3},
		{"equal peaks", town11([3]int{1, 0, 360}, [3]int{2, 0, 365}, [3]int{3, 0, 600}, [3]int{4, 0, 605}), 365, 2},
		{"equal peaks, the earlier one of later Ids", town11([3]int{1, 0, 600}, [3]int{2, 0, 605}, [3]int{3, 0, 360}, [3]int{4, 0, 365}), 365, 2},
		{"equal peaks next to each other", town11([3]int{1, 0, 360}, [3]int{2, 0, 365}, [3]int{3, 0, 370}, [3]int{4, 0, 375}), 365, 2},
		{"most trips at the same minute", town11(many11(0)...), 360, 12},
		{"most trips minute by minute", town11(many11(1)...), 369, 10},
		{"most trips one after the other", town11(many11(10)...), 360, 1},
		{"a trip over three stops", town11([3]int{1, 3, 360}, [3]int{2, 0, 367}), 367, 2},
	}
	for _, c := range cases {
		if at, count, ok := impl.PeakTrips(c.t); !ok || at != c.at || count != c.count {
			t.Error(c.about, at, count, ok)
		}
	}
}

// many11 returns MaxTrips trips on line 0 that start so many minutes apart.
func many11(apart int) [][3]int {
	var list [][3]int
	for i := range impl.MaxTrips {
		list = append(list, [3]int{i + 1, 0, 360 + i*apart})
	}
	return list
}

func TestPeakTripsOfRandomTimetables(t *testing.T) {
	list := many5(500)
	for _, x := range samples11(1000, impl.MaxTrips) {
		list = append(list, x.t)
	}
	for _, x := range list {
		var spans []impl.Span
		for _, trip := range x.Trips {
			spans = append(spans, span11(x.Network, trip))
		}
		counts := countsOf4(spans)
		most := slices.Max(counts[:])
		at, count, ok := impl.PeakTrips(x)
		if !ok || count != most || at != slices.Index(counts[:], most) {
			t.Fatal(x, at, count, ok)
		}
		running, ok := impl.TripsRunning(x, at)
		if !ok || len(running) != count {
			t.Fatal(x, at, count, "and not", running, ok)
		}
	}
}

// made11 is what MakeBlocks should return.
type made11 struct {
	about string
	x     sample11
	want  [][]int
	dead  int
}

func madeCases11() []made11 {
	return slices.Concat(fewest11(), cheapest11(), ties11())
}

// fewest11 returns cases in which only some blocks are the fewest.
func fewest11() []made11 {
	day, fleet := day11()
	night, _ := night11()
	shared := town11([3]int{1, 0, 360}, [3]int{2, 2, 360}, [3]int{3, 1, 380}, [3]int{4, 0, 380})
	back := town11([3]int{1, 1, 380}, [3]int{2, 0, 380}, [3]int{3, 2, 360}, [3]int{4, 0, 360})
	long := town11([3]int{1, 0, 360}, [3]int{2, 0, 362}, [3]int{3, 1, 500}, [3]int{4, 1, 371})
	return []made11{
		{"one trip", sample11{town11([3]int{7, 0, 360}), fleet}, blocks11([]int{7}), 0},
		{"a day", sample11{day, fleet}, blocks11([]int{1, 2, 3, 7}, []int{4, 6}, []int{5}), 25},
		{"Ids in another order than the times", sample11{night, fleet}, blocks11([]int{5, 2, 3}, []int{7, 6}), 5},
		{"at the minute at which it can follow", sample11{town11([3]int{1, 0, 360}, [3]int{2, 2, 380}), fleet11(5, 5)}, blocks11([]int{1, 2}), 5},
		{"one minute earlier", sample11{town11([3]int{1, 0, 360}, [3]int{2, 2, 379}), fleet11(5, 5)}, blocks11([]int{1}, []int{2}), 0},
		{"the later Id first", sample11{town11([3]int{1, 2, 380}, [3]int{2, 0, 360}), fleet11(5, 5)}, blocks11([]int{2, 1}), 5},
		{"all at the same minute", sample11{town11(many11(0)...), fleet11(0, 0)}, blocks11([]int{1}, []int{2}, []int{3}, []int{4}, []int{5}, []int{6}, []int{7}, []int{8}, []int{9}, []int{10}, []int{11}, []int{12}), 0},
		{"one after the other", sample11{town11(many11(10)...), fleet11(0, 0)}, blocks11([]int{1, 2, 3, 4, 5, 6, 7, 8, 9, 10, 11, 12}), 0},
		{"the longest Turn and Dead", sample11{town11(many11(80)...), fleet11(30, 120)}, blocks11([]int{1, 3, 5, 7, 9, 11}, []int{2, 4, 6, 8, 10, 12}), 1200},
		{"only trip 1 can be ahead of trip 4", sample11{shared, fleet11(0, 10, [3]int{3, 0, 11}, [3]int{1, 0, 10})}, blocks11([]int{1, 4}, []int{2, 3}), 20},
		{"only trip 4 can be ahead of trip 2", sample11{back, fleet11(0, 10, [3]int{3, 0, 11}, [3]int{1, 0, 10})}, blocks11([]int{3, 1}, []int{4, 2}), 20},
		{"only trip 1 can be ahead of the first trip that comes", sample11{long, fleet11(0, 0)}, blocks11([]int{1, 4}, []int{2, 3}), 0},
		{"trips would be ahead of each other in turns", sample11{town11(many11(5)...), fleet11(0, 5)}, blocks11([]int{1, 4, 7, 10}, []int{2, 5, 8, 11}, []int{3, 6, 9, 12}), 45},
	}
}

// cheapest11 returns cases in which the fewest blocks have different dead minutes.
func cheapest11() []made11 {
	pairs := town11([3]int{1, 0, 360}, [3]int{2, 2, 360}, [3]int{3, 0, 500}, [3]int{4, 2, 500})
	return []made11{
		{"less dead minutes for the first pairs", sample11{pairs, fleet11(0, 10, [3]int{1, 0, 3}, [3]int{3, 2, 3})}, blocks11([]int{1, 3}, []int{2, 4}), 6},
		{"less dead minutes for the other pairs", sample11{pairs, fleet11(0, 10, [3]int{1, 2, 3}, [3]int{3, 0, 3})}, blocks11([]int{1, 4}, []int{2, 3}), 6},
		{"one minute less for the other pairs", sample11{pairs, fleet11(0, 10, [3]int{1, 2, 9})}, blocks11([]int{1, 4}, []int{2, 3}), 19},
		{"the shortest Dead is in the longer pairs", sample11{pairs, fleet11(0, 10, [3]int{1, 0, 0}, [3]int{3, 2, 120})}, blocks11([]int{1, 4}, []int{2, 3}), 20},
		{"more blocks would have none", sample11{pairs, fleet11(0, 120)}, blocks11([]int{1, 3}, []int{2, 4}), 240},
		{"the nearer one of two trips", sample11{town11([3]int{1, 0, 360}, [3]int{2, 2, 360}, [3]int{3, 1, 500}), fleet11(0, 10)}, blocks11([]int{1, 3}, []int{2}), 0},
		{"the nearer one of two trips, of the later Id", sample11{town11([3]int{1, 2, 360}, [3]int{2, 0, 360}, [3]int{3, 1, 500}), fleet11(0, 10)}, blocks11([]int{1}, []int{2, 3}), 0},
		{"on to the nearer one of two trips", sample11{town11([3]int{1, 0, 360}, [3]int{2, 1, 500}, [3]int{3, 2, 500}), fleet11(0, 10)}, blocks11([]int{1, 2}, []int{3}), 0},
		{"on to the nearer one of two trips, of the later Id", sample11{town11([3]int{1, 0, 360}, [3]int{2, 2, 500}, [3]int{3, 1, 500}), fleet11(0, 10)}, blocks11([]int{1, 3}, []int{2}), 0},
		{"Dead that differs between the directions", sample11{town11([3]int{1, 0, 360}, [3]int{2, 2, 400}, [3]int{3, 0, 440}), fleet11(0, 1, [3]int{1, 2, 30}, [3]int{2, 1, 7}, [3]int{3, 0, 30}, [3]int{0, 3, 8})}, blocks11([]int{1, 2, 3}), 60},
		{"a way round would be shorter", sample11{town11([3]int{1, 0, 360}, [3]int{2, 2, 500}), fleet11(0, 1, [3]int{1, 2, 50})}, blocks11([]int{1, 2}), 50},
	}
}

// ties11 returns cases in which several of the fewest blocks have as few dead minutes.
func ties11() []made11 {
	return []made11{
		{"two pairs", sample11{town11([3]int{1, 0, 360}, [3]int{2, 0, 360}, [3]int{3, 1, 380}, [3]int{4, 1, 380}), fleet11(0, 10)}, blocks11([]int{1, 3}, []int{2, 4}), 0},
		{"two pairs with later trips first", sample11{town11([3]int{1, 1, 380}, [3]int{2, 1, 380}, [3]int{3, 0, 360}, [3]int{4, 0, 360}), fleet11(0, 10)}, blocks11([]int{3, 1}, []int{4, 2}), 0},
		{"two trips behind one", sample11{town11([3]int{1, 0, 360}, [3]int{2, 1, 380}, [3]int{3, 1, 380}), fleet11(0, 10)}, blocks11([]int{1, 3}, []int{2}), 0},
		{"two trips behind one, which is the last one", sample11{town11([3]int{1, 1, 380}, [3]int{2, 1, 380}, [3]int{3, 0, 360}), fleet11(0, 10)}, blocks11([]int{1}, []int{3, 2}), 0},
		{"two trips behind one, which is in the middle", sample11{town11([3]int{1, 1, 380}, [3]int{2, 0, 360}, [3]int{3, 1, 380}), fleet11(0, 10)}, blocks11([]int{1}, []int{2, 3}), 0},
		{"two trips ahead of one", sample11{town11([3]int{1, 0, 360}, [3]int{2, 0, 360}, [3]int{3, 1, 380}), fleet11(0, 10)}, blocks11([]int{1, 3}, []int{2}), 0},
		{"two trips ahead of one, which is the first one", sample11{town11([3]int{1, 1, 380}, [3]int{2, 0, 360}, [3]int{3, 0, 360}), fleet11(0, 10)}, blocks11([]int{2, 1}, []int{3}), 0},
		{"two trips ahead of one, which is in the middle", sample11{town11([3]int{1, 0, 360}, [3]int{2, 1, 380}, [3]int{3, 0, 360}), fleet11(0, 10)}, blocks11([]int{1, 2}, []int{3}), 0},
		{"the same sum in other parts", sample11{town11([3]int{1, 0, 360}, [3]int{2, 2, 360}, [3]int{3, 0, 500}, [3]int{4, 2, 500}), fleet11(0, 10, [3]int{1, 0, 1}, [3]int{3, 2, 9}, [3]int{1, 2, 4}, [3]int{3, 0, 6})}, blocks11([]int{1, 3}, []int{2, 4}), 10},
		{"three trips behind three", sample11{town11([3]int{1, 0, 360}, [3]int{2, 1, 400}, [3]int{3, 0, 360}, [3]int{4, 1, 400}, [3]int{5, 0, 360}, [3]int{6, 1, 400}), fleet11(0, 10)}, blocks11([]int{1, 2}, []int{3, 4}, []int{5, 6}), 0},
		{"three trips behind two", sample11{town11([3]int{1, 0, 360}, [3]int{2, 0, 360}, [3]int{3, 1, 400}, [3]int{4, 1, 400}, [3]int{5, 1, 400}), fleet11(0, 10)}, blocks11([]int{1, 4}, []int{2, 5}, []int{3}), 0},
		{"two chains of three", sample11{town11([3]int{1, 0, 360}, [3]int{2, 0, 360}, [3]int{3, 1, 400}, [3]int{4, 1, 400}, [3]int{5, 0, 440}, [3]int{6, 0, 440}), fleet11(0, 10)}, blocks11([]int{1, 3, 5}, []int{2, 4, 6}), 0},
		{"two chains of three in another order", sample11{town11([3]int{1, 0, 440}, [3]int{2, 0, 440}, [3]int{3, 1, 400}, [3]int{4, 1, 400}, [3]int{5, 0, 360}, [3]int{6, 0, 360}), fleet11(0, 10)}, blocks11([]int{5, 3, 1}, []int{6, 4, 2}), 0},
	}
}

func TestMakeBlocks(t *testing.T) {
	for _, c := range madeCases11() {
		l, dead, ok := impl.MakeBlocks(c.x.t, c.x.f)
		if !ok || dead != c.dead || !sameBlocks11(l, c.want) {
			t.Error(c.about, l, dead, ok)
		}
		if first := c.x.made(); !sameBlocks11(c.x.blocks(first), c.want) || c.x.total(first) != c.dead {
			t.Error(c.about, "the test expects", c.x.blocks(first), c.x.total(first))
		}
	}
}

// checkMade11 compares the blocks that are made with those in which these trips are before all
// trips.
func checkMade11(t *testing.T, x sample11, before []int) {
	t.Helper()
	want := x.blocks(before)
	l, dead, ok := impl.MakeBlocks(x.t, x.f)
	if !ok || dead != x.total(before) || !sameBlocks11(l, want) {
		t.Fatal(x, l, dead, ok, "and not", want, x.total(before))
	}
	if !impl.IsValidBlocks(x.t, x.f, l) {
		t.Fatal(x, l, "are no blocks")
	}
}

func TestMakeBlocksOfFewTrips(t *testing.T) {
	for _, x := range samples11(1500, 6) {
		if len(x.t.Trips) <= 7 {
			checkMade11(t, x, x.first())
		}
	}
}

func TestMakeBlocksOfManyTrips(t *testing.T) {
	most, several := 0, 0
	for _, x := range samples11(1500, impl.MaxTrips) {
		checkMade11(t, x, x.made())
		if len(x.t.Trips) == impl.MaxTrips {
			most++
		}
		if before := x.made(); len(x.blocks(before)) > 1 && len(x.blocks(before)) < len(before)-1 {
			several++
		}
	}
	if most < 50 || several < 500 {
		t.Error("only", most, "and", several)
	}
}

// Promise 11.
func TestNoBlocksAreFewerThanThoseThatAreMade(t *testing.T) {
	compared := 0
	for _, x := range samples11(300, 6) {
		made, least, ok := impl.MakeBlocks(x.t, x.f)
		if !ok {
			t.Fatal(x, made)
		}
		x.all(nil, func(before []int) {
			compared++
			blocks := x.blocks(before)
			if !impl.IsValidBlocks(x.t, x.f, blocks) {
				t.Fatal(x, blocks, "are no blocks")
			}
			dead, ok := impl.DeadMinutes(x.t, x.f, blocks)
			if !ok || len(blocks) < len(made) || len(blocks) == len(made) && dead < least {
				t.Fatal(x, blocks, dead, ok, "are better than", made, least)
			}
		})
	}
	if compared < 3000 {
		t.Error("only", compared, "blocks")
	}
}

// Promise 11.
func TestNoBlocksOfManyTripsAreFewer(t *testing.T) {
	r := random2(111)
	for _, x := range samples11(800, impl.MaxTrips) {
		made, least, ok := impl.MakeBlocks(x.t, x.f)
		if dead, valid := impl.DeadMinutes(x.t, x.f, made); !ok || !valid || dead != least {
			t.Fatal(x, made, ok, dead, valid)
		}
		for range 10 {
			blocks := r.someBlocks11(x)
			dead, ok := impl.DeadMinutes(x.t, x.f, blocks)
			if !ok || len(blocks) < len(made) || len(blocks) == len(made) && dead < least {
				t.Fatal(x, blocks, dead, ok, "are better than", made, least)
			}
		}
		if _, count, ok := impl.PeakTrips(x.t); !ok || count > len(made) {
			t.Fatal(x, made, "are fewer than the peak", count, ok)
		}
	}
}

// Promise 11: no vehicle is in two places.
func TestVehiclesArriveBeforeTheyGoOn(t *testing.T) {
	for _, x := range samples11(800, impl.MaxTrips) {
		made, _, _ := impl.MakeBlocks(x.t, x.f)
		var ids []int
		for i, block := range made {
			if i > 0 && block[0] <= made[i-1][0] {
				t.Fatal(x, made, "are in another order")
			}
			ids = append(ids, block...)
			for k := 1; k < len(block); k++ {
				if x.trip(block[k]).Start < ready11(x.t.Network, x.f, x.trip(block[k-1]), x.trip(block[k])) {
					t.Fatal(x, block, "is too fast at", k)
				}
			}
		}
		slices.Sort(ids)
		if !slices.Equal(ids, x.ids()) {
			t.Fatal(x, made, "do not have all trips once")
		}
	}
}

func TestDeadMinutes(t *testing.T) {
	x, f := day11()
	for _, c := range []struct {
		about  string
		blocks [][]int
		want   int
	}{
		{"single trips", blocks11([]int{1}, []int{2}, []int{3}, []int{4}, []int{5}, []int{6}, []int{7}), 0},
		{"blocks", blocks11([]int{1, 2, 3, 7}, []int{4, 6}, []int{5}), 25},
		{"no dead minutes", blocks11([]int{1, 2, 3}, []int{4}, []int{5}, []int{6}, []int{7}), 0},
		{"one block with dead minutes", blocks11([]int{1}, []int{2}, []int{3}, []int{4, 6}, []int{5}, []int{7}), 5},
		{"two blocks with dead minutes", blocks11([]int{1, 2, 3}, []int{4, 6}, []int{5, 7}), 25},
		{"dead minutes twice in a block", blocks11([]int{1}, []int{2, 3}, []int{4, 6, 7}, []int{5}), 25},
		{"dead minutes over stops left out", blocks11([]int{1, 7}, []int{2, 3}, []int{4, 6}, []int{5}), 25},
	} {
		if dead, ok := impl.DeadMinutes(x, f, c.blocks); !ok || dead != c.want {
			t.Error(c.about, dead, ok)
		}
	}
	single := town11([3]int{4, 0, 360})
	if dead, ok := impl.DeadMinutes(single, fleet11(30, 120), blocks11([]int{4})); !ok || dead != 0 {
		t.Error("a single trip", dead, ok)
	}
	// Only the direction from the last stop of trip 1 to the first stop of trip 2 counts.
	pair := town11([3]int{1, 3, 360}, [3]int{2, 2, 600})
	for dead := range impl.MaxDead + 1 {
		f := fleet11(5, 77, [3]int{6, 2, dead})
		if d, ok := impl.DeadMinutes(pair, f, blocks11([]int{1, 2})); !ok || d != dead {
			t.Error("not", dead, d, ok)
		}
	}
}

func TestBlockSpans(t *testing.T) {
	x, f := day11()
	for _, c := range []struct {
		blocks [][]int
		want   []impl.Span
	}{
		{blocks11([]int{1}, []int{2}, []int{3}, []int{4}, []int{5}, []int{6}, []int{7}), spans4(360, 370, 375, 385, 390, 400, 361, 371, 360, 370, 381, 391, 425, 435)},
		{blocks11([]int{1, 2, 3, 7}, []int{4, 6}, []int{5}), spans4(360, 435, 361, 391, 360, 370)},
		{blocks11([]int{1, 7}, []int{2, 3}, []int{4, 6}, []int{5}), spans4(360, 435, 375, 400, 361, 391, 360, 370)},
	} {
		if l, ok := impl.BlockSpans(x, f, c.blocks); !ok || !slices.Equal(l, c.want) {
			t.Error(c.blocks, l, ok)
		}
	}
	for _, start := range []int{0, 1, 1439, 1440, 1789} {
		single := town11([3]int{4, 3, start})
		if l, ok := impl.BlockSpans(single, f, blocks11([]int{4})); !ok || !slices.Equal(l, spans4(start, start+10)) {
			t.Error("a single trip", l, ok)
		}
	}
	night, f := night11()
	if l, ok := impl.BlockSpans(night, f, blocks11([]int{5, 2, 3}, []int{7, 6})); !ok || !slices.Equal(l, spans4(360, 400, 361, 391)) {
		t.Error("Ids in another order", l, ok)
	}
}

func TestBlockOf(t *testing.T) {
	x, f := day11()
	blocks := blocks11([]int{1, 2, 3, 7}, []int{4, 6}, []int{5})
	for id, want := range map[int][2]int{1: {0, 0}, 2: {0, 1}, 3: {0, 2}, 7: {0, 3}, 4: {1, 0}, 6: {1, 1}, 5: {2, 0}} {
		if i, place, ok := impl.BlockOf(x, f, blocks, id); !ok || i != want[0] || place != want[1] {
			t.Error("trip", id, i, place, ok)
		}
	}
	for _, id := range append([]int{8, 9, 100, 999}, noIds5...) {
		if i, place, ok := impl.BlockOf(x, f, blocks, id); ok || i != 0 || place != 0 {
			t.Error("trip", id, i, place, ok)
		}
	}
	single := blocks11([]int{1}, []int{2}, []int{3}, []int{4}, []int{5}, []int{6}, []int{7})
	for id := 1; id <= 7; id++ {
		if i, place, ok := impl.BlockOf(x, f, single, id); !ok || i != id-1 || place != 0 {
			t.Error("single trip", id, i, place, ok)
		}
	}
}

func TestSwapTails(t *testing.T) {
	x, f := day11()
	cases := []struct {
		about  string
		blocks [][]int
		a      int
		b      int
		want   [][]int
	}{
		{"both tails", blocks11([]int{1, 2, 3, 7}, []int{4, 6}, []int{5}), 1, 4, nil},
		{"both tails where they can follow", blocks11([]int{1, 2, 3}, []int{4}, []int{5, 7}, []int{6}), 3, 5, blocks11([]int{1, 2, 3, 7}, []int{4}, []int{5}, []int{6})},
		{"tails of several trips", blocks11([]int{1, 6, 7}, []int{2, 3}, []int{4}, []int{5}), 1, 2, nil},
		{"the tail of a goes to a single trip", blocks11([]int{1, 6, 7}, []int{2, 3}, []int{4}, []int{5}), 1, 4, blocks11([]int{1}, []int{2, 3}, []int{4, 6, 7}, []int{5})},
		{"the tail of b goes to a single trip", blocks11([]int{1, 6, 7}, []int{2, 3}, []int{4}, []int{5}), 4, 1, blocks11([]int{1}, []int{2, 3}, []int{4, 6, 7}, []int{5})},
		{"the tail of b goes behind the last trip", blocks11([]int{1, 2}, []int{3, 7}, []int{4, 6}, []int{5}), 2, 3, blocks11([]int{1, 2, 7}, []int{3}, []int{4, 6}, []int{5})},
		{"both tails are empty", blocks11([]int{1, 2, 3, 7}, []int{4, 6}, []int{5}), 7, 6, blocks11([]int{1, 2, 3, 7}, []int{4, 6}, []int{5})},
		{"both tails of single trips are empty", blocks11([]int{1}, []int{2}, []int{3}, []int{4}, []int{5}, []int{6}, []int{7}), 1, 2, blocks11([]int{1}, []int{2}, []int{3}, []int{4}, []int{5}, []int{6}, []int{7})},
		{"the tail of a would come too early", blocks11([]int{1, 2, 3, 7}, []int{4, 6}, []int{5}), 1, 6, nil},
		{"the tail of b would come too early", blocks11([]int{1, 2, 3, 7}, []int{4, 6}, []int{5}), 5, 4, nil},
		{"only one of the tails would come too early", blocks11([]int{1, 2, 3, 7}, []int{4, 6}, []int{5}), 4, 2, nil},
		{"the same trip", blocks11([]int{1, 2, 3, 7}, []int{4, 6}, []int{5}), 1, 1, nil},
		{"the last trip twice", blocks11([]int{1, 2, 3, 7}, []int{4, 6}, []int{5}), 7, 7, nil},
		{"a single trip twice", blocks11([]int{1, 2, 3, 7}, []int{4, 6}, []int{5}), 5, 5, nil},
		{"the same block", blocks11([]int{1, 2, 3, 7}, []int{4, 6}, []int{5}), 1, 3, nil},
		{"the same block in the other order", blocks11([]int{1, 2, 3, 7}, []int{4, 6}, []int{5}), 3, 1, nil},
		{"a does not exist", blocks11([]int{1, 2, 3, 7}, []int{4, 6}, []int{5}), 8, 5, nil},
		{"b does not exist", blocks11([]int{1, 2, 3, 7}, []int{4, 6}, []int{5}), 7, 8, nil},
		{"neither exists", blocks11([]int{1, 2, 3, 7}, []int{4, 6}, []int{5}), 8, 9, nil},
		{"a is 0", blocks11([]int{1, 2, 3, 7}, []int{4, 6}, []int{5}), 0, 5, nil},
		{"b is -1", blocks11([]int{1, 2, 3, 7}, []int{4, 6}, []int{5}), 7, -1, nil},
	}
	for _, c := range cases {
		l, ok := impl.SwapTails(x, f, c.blocks, c.a, c.b)
		if ok != (c.want != nil) || !sameBlocks11(l, c.want) {
			t.Error(c.about, l, ok)
		}
	}
}

// The first trips remain in their blocks, and so do the blocks in their order, also where a block
// has a smaller Id than the one ahead of it afterwards.
func TestSwapTailsKeepsTheOrderOfFirstIds(t *testing.T) {
	x := town11([3]int{1, 1, 400}, [3]int{2, 0, 360}, [3]int{3, 0, 360}, [3]int{4, 1, 400}, [3]int{5, 0, 440}, [3]int{6, 2, 360})
	f := fleet11(0, 10)
	for _, c := range []struct {
		blocks [][]int
		a      int
		b      int
		want   [][]int
	}{
		{blocks11([]int{2, 1}, []int{3, 4}, []int{6, 5}), 2, 3, blocks11([]int{2, 4}, []int{3, 1}, []int{6, 5})},
		{blocks11([]int{2, 4, 5}, []int{3, 1}, []int{6}), 3, 2, blocks11([]int{2, 1}, []int{3, 4, 5}, []int{6})},
		{blocks11([]int{2, 4, 5}, []int{3, 1}, []int{6}), 4, 1, blocks11([]int{2, 4}, []int{3, 1, 5}, []int{6})},
		{blocks11([]int{2}, []int{3, 4, 5}, []int{6, 1}), 2, 6, blocks11([]int{2, 1}, []int{3, 4, 5}, []int{6})},
		{blocks11([]int{2, 1, 5}, []int{3, 4}, []int{6}), 6, 2, blocks11([]int{2}, []int{3, 4}, []int{6, 1, 5})},
	} {
		if l, ok := impl.SwapTails(x, f, c.blocks, c.a, c.b); !ok || !sameBlocks11(l, c.want) {
			t.Error(c.blocks, c.a, c.b, l, ok)
		}
	}
}

// swapped returns what SwapTails should for different trips.
func (x sample11) swapped(blocks [][]int, a int, b int) ([][]int, bool) {
	var first, second []int
	list := cloneBlocks11(blocks)
	for _, block := range list {
		if slices.Contains(block, a) {
			first = block
		}
		if slices.Contains(block, b) {
			second = block
		}
	}
	if first == nil || second == nil || first[0] == second[0] {
		return nil, false
	}
	after := map[int]int{}
	for _, block := range list {
		for i := 1; i < len(block); i++ {
			after[block[i-1]] = block[i]
		}
	}
	after[a], after[b] = after[b], after[a]
	for i, block := range list {
		list[i] = block[:1]
		for next := after[block[0]]; next != 0; next = after[next] {
			list[i] = append(slices.Clone(list[i]), next)
		}
	}
	for id, next := range after {
		if next != 0 && x.trip(next).Start < ready11(x.t.Network, x.f, x.trip(id), x.trip(next)) {
			return nil, false
		}
	}
	return list, true
}

func TestRandomBlocks(t *testing.T) {
	r := random2(1111)
	swaps := 0
	for _, x := range samples11(400, impl.MaxTrips) {
		blocks := r.someBlocks11(x)
		if !impl.IsValidBlocks(x.t, x.f, blocks) {
			t.Fatal(x, blocks, "are no blocks")
		}
		checkBlocks11(t, x, blocks)
		for _, a := range append(x.ids(), 0, 1000) {
			for _, b := range append(x.ids(), 0, 1000) {
				want, wantOk := x.swapped(blocks, a, b)
				l, ok := impl.SwapTails(x.t, x.f, blocks, a, b)
				if ok != wantOk || !sameBlocks11(l, want) {
					t.Fatal(x, blocks, a, b, l, ok, "and not", want)
				}
				if !ok {
					continue
				}
				swaps++
				if back, ok := impl.SwapTails(x.t, x.f, l, a, b); !ok || !sameBlocks11(back, blocks) {
					t.Fatal(x, blocks, a, b, "and back gives", back, ok)
				}
				if back, ok := impl.SwapTails(x.t, x.f, l, b, a); !ok || !sameBlocks11(back, blocks) {
					t.Fatal(x, blocks, b, a, "and back gives", back, ok)
				}
			}
		}
	}
	if swaps < 3000 {
		t.Error("only", swaps, "swaps")
	}
}

// checkBlocks11 compares the results for valid blocks with what they should be.
func checkBlocks11(t *testing.T, x sample11, blocks [][]int) {
	t.Helper()
	dead := 0
	var spans []impl.Span
	for i, block := range blocks {
		for k, id := range block {
			if k > 0 {
				dead += dead11(x.t.Network, x.f, x.trip(block[k-1]), x.trip(id))
			}
			if at, place, ok := impl.BlockOf(x.t, x.f, blocks, id); !ok || at != i || place != k {
				t.Fatal(x, blocks, id, at, place, ok)
			}
		}
		first, last := span11(x.t.Network, x.trip(block[0])), span11(x.t.Network, x.trip(block[len(block)-1]))
		spans = append(spans, impl.Span{From: first.From, To: last.To})
	}
	if d, ok := impl.DeadMinutes(x.t, x.f, blocks); !ok || d != dead {
		t.Fatal(x, blocks, d, ok, "and not", dead)
	}
	if l, ok := impl.BlockSpans(x.t, x.f, blocks); !ok || !slices.Equal(l, spans) {
		t.Fatal(x, blocks, l, ok, "and not", spans)
	}
}

// changed11 returns blocks with one random change, after which they may be blocks or not.
func (r *random2) changed11(x sample11, blocks [][]int) [][]int {
	list := cloneBlocks11(blocks)
	i, k := r.below(len(list)), r.below(len(list))
	place := r.below(len(list[i]))
	switch r.below(7) {
	case 0:
		list[i], list[k] = list[k], list[i]
	case 1:
		list[i] = slices.Delete(list[i], place, place+1)
	case 2:
		list[i] = slices.Insert(list[i], place, x.ids()[r.below(len(x.ids()))])
	case 3:
		list[i][place] = x.ids()[r.below(len(x.ids()))]
	case 4:
		id := list[i][place]
		list[i] = slices.Delete(list[i], place, place+1)
		list[k] = slices.Insert(list[k], r.below(len(list[k])+1), id)
	case 5:
		list = slices.Delete(list, i, i+1)
	case 6:
		list = slices.Insert(list, k, slices.Clone(list[i][place:]))
		list = slices.DeleteFunc(list, func(block []int) bool { return r.below(20) == 0 })
	}
	return list
}

// valid returns what IsValidBlocks should.
func (x sample11) valid(blocks [][]int) bool {
	var ids, firsts []int
	for _, block := range blocks {
		if len(block) == 0 {
			return false
		}
		firsts = append(firsts, block[0])
		ids = append(ids, block...)
	}
	inOrder := slices.IsSorted(firsts)
	slices.Sort(ids)
	if !inOrder || !slices.Equal(ids, x.ids()) {
		return false
	}
	for _, block := range blocks {
		for k := 1; k < len(block); k++ {
			if x.trip(block[k]).Start < ready11(x.t.Network, x.f, x.trip(block[k-1]), x.trip(block[k])) {
				return false
			}
		}
	}
	return true
}

func TestChangedBlocks(t *testing.T) {
	r := random2(11111)
	valid, invalid := 0, 0
	for _, x := range samples11(1500, impl.MaxTrips) {
		if len(x.t.Trips) == 0 {
			continue
		}
		for range 6 {
			blocks := r.changed11(x, r.someBlocks11(x))
			if x.valid(blocks) {
				valid++
				checkBlocks11(t, x, blocks)
				continue
			}
			invalid++
			checkNoBlocks11(t, "changed", x, []int{x.t.Trips[0].Id, x.t.Trips[len(x.t.Trips)-1].Id}, blocks)
		}
	}
	if valid < 500 || invalid < 3000 {
		t.Error("only", valid, "and", invalid)
	}
}

// showBlocks11 returns what blocks are, changes everything that they hold, and checks that no two
// of them share memory.
func showBlocks11(t *testing.T, blocks [][]int) string {
	t.Helper()
	s := fmt.Sprint(blocks)
	for i, block := range blocks {
		rest := cloneBlocks11(blocks[i+1:])
		fill2(block)
		if !sameBlocks11(blocks[i+1:], rest) {
			t.Fatal("blocks share memory with the one at", i, s)
		}
	}
	clear(blocks[:cap(blocks)])
	return s
}

// results11 returns all results of the functions of the chapter, and changes everything that
// they hold afterwards.
func results11(t *testing.T, x sample11, blocks [][]int) string {
	t.Helper()
	s := fmt.Sprintln(impl.IsValidFleet(x.t.Network, x.f), impl.IsValidBlocks(x.t, x.f, blocks))
	s += fmt.Sprintln(impl.PeakTrips(x.t))
	made, dead, ok := impl.MakeBlocks(x.t, x.f)
	s += fmt.Sprintln(showBlocks11(t, made), dead, ok)
	s += fmt.Sprintln(impl.DeadMinutes(x.t, x.f, blocks))
	spans, ok := impl.BlockSpans(x.t, x.f, blocks)
	s += fmt.Sprintln(spans, ok)
	clear(spans[:cap(spans)])
	for _, a := range x.ids() {
		s += fmt.Sprintln(impl.BlockOf(x.t, x.f, blocks, a))
		for _, b := range x.ids() {
			s += fmt.Sprintln(impl.CanFollow(x.t, x.f, a, b))
			swapped, ok := impl.SwapTails(x.t, x.f, blocks, a, b)
			s += fmt.Sprintln(showBlocks11(t, swapped), ok)
		}
	}
	return s
}

// roomyFleet11 returns a copy of a fleet in which every slice has an element beyond its end.
func roomyFleet11(f impl.Fleet) impl.Fleet {
	return impl.Fleet{Dead: roomyBlocks11(f.Dead), Turn: f.Turn}
}

// roomyBlocks11 does the same with blocks, or with the rows of a fleet.
func roomyBlocks11(blocks [][]int) [][]int {
	list := [][]int{}
	for _, block := range blocks {
		list = append(list, append(slices.Clone(block), 77)[:len(block)])
	}
	return append(list, []int{impl.MaxId})[:len(list)]
}

// wideBlocks11 returns a copy of blocks of roomyBlocks11 with the elements beyond the ends.
func wideBlocks11(blocks [][]int) [][]int {
	list := [][]int{}
	for i, block := range blocks[:len(blocks)+1] {
		if i < len(blocks) {
			block = block[:len(block)+1]
		}
		list = append(list, slices.Clone(block))
	}
	return list
}

func TestBlocksAreNotModifiedAndNotReadBeyondTheEnd(t *testing.T) {
	r := random2(12)
	for _, x := range samples11(150, impl.MaxTrips) {
		blocks := r.someBlocks11(x)
		roomy, roomyBlocks := sample11{roomy5(x.t), roomyFleet11(x.f)}, roomyBlocks11(blocks)
		before, beforeDead, beforeBlocks := wide5(roomy.t), wideBlocks11(roomy.f.Dead), wideBlocks11(roomyBlocks)
		got := results11(t, roomy, roomyBlocks)
		if after := wide5(roomy.t); !reflect.DeepEqual(after, before) {
			t.Fatal("the timetable was", before, "and is", after)
		}
		if after := wideBlocks11(roomy.f.Dead); roomy.f.Turn != x.f.Turn || !reflect.DeepEqual(after, beforeDead) {
			t.Fatal("the fleet was", beforeDead, "and is", roomy.f)
		}
		if after := wideBlocks11(roomyBlocks); !reflect.DeepEqual(after, beforeBlocks) {
			t.Fatal("the blocks were", beforeBlocks, "and are", after)
		}
		for range 2 {
			clone := sample11{clone5(x.t), impl.Fleet{Dead: cloneBlocks11(x.f.Dead), Turn: x.f.Turn}}
			if got != results11(t, clone, cloneBlocks11(blocks)) {
				t.Fatal("other results for", x, blocks)
			}
		}
	}
}

func TestSwappedBlocksShareNoMemoryWithTheBlocksBefore(t *testing.T) {
	x, f := day11()
	blocks := blocks11([]int{1, 6, 7}, []int{2, 3}, []int{4}, []int{5})
	swapped, ok := impl.SwapTails(x, f, blocks, 1, 4)
	if !ok {
		t.Fatal("not swapped")
	}
	want := cloneBlocks11(swapped)
	for _, block := range blocks {
		fill2(block)
	}
	clear(blocks)
	if !sameBlocks11(swapped, want) {
		t.Error("were", want, "and are", swapped)
	}
}
