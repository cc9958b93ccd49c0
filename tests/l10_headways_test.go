package tests

import (
	"fmt"
	"math"
	"reflect"
	"slices"
	"testing"

	"loop.example/g00900/impl"
)

// cross10 has two lines that share the stops 1 and 2, one with the longest runs, and one that
// shares no stop with the others. No line serves the stops 6 and 7.
func cross10() impl.Network {
	return plan8([][]int{{0, 5, 1, 10, 2}, {2, 10, 1, 4, 3}, {0, 60, 1, 60, 3}, {4, 7, 5}}).Network
}

// patterns10 returns patterns, of which each is written as its Line and its Offset.
func patterns10(values ...int) []impl.Pattern {
	var list []impl.Pattern
	for i := 0; i < len(values); i += 2 {
		list = append(list, impl.Pattern{Line: values[i], Offset: values[i+1]})
	}
	return list
}

// many10 returns this number of patterns of line 0 with different Offsets.
func many10(count int) []impl.Pattern {
	var list []impl.Pattern
	for i := range count {
		list = append(list, impl.Pattern{Line: 0, Offset: i})
	}
	return list
}

// sample10 is one periodic timetable.
type sample10 struct {
	n      impl.Network
	period int
	list   []impl.Pattern
}

// sample10 returns a random periodic timetable with a period of at most this number of minutes,
// in which runs, Offsets and lines are often equal.
func (r *random2) sample10(longest int) sample10 {
	n := r.network2()
	if r.below(2) == 0 {
		for _, l := range n.Lines {
			for i := range l.Runs {
				l.Runs[i] = 5 * (1 + r.below(3))
			}
		}
	}
	x := sample10{n: n, period: 1 + r.below(longest)}
	step := 1 + r.below(min(x.period, 5))
	for range 1 + r.below(impl.MaxPatterns) {
		p := impl.Pattern{Line: r.below(len(n.Lines)), Offset: r.below((x.period-1)/step+1) * step}
		if len(x.list) > 0 && r.below(4) == 0 {
			p.Line = x.list[0].Line
		}
		x.list = append(x.list, p)
	}
	return x
}

// samples10 returns random periodic timetables, of which many have a short period.
func samples10(count int) []sample10 {
	r := random2(10)
	var list []sample10
	for i := range count {
		list = append(list, r.sample10([]int{3, 20, impl.MaxPeriod}[i%3]))
	}
	return list
}

// passTime10 returns the time at which the first run of a pattern passes a stop, and true, or
// false if it does not.
func passTime10(n impl.Network, p impl.Pattern, stop int) (int, bool) {
	for place, time := range stopTimes5(n, impl.Trip{Line: p.Line, Start: p.Offset}) {
		if n.Lines[p.Line].Stops[place] == stop {
			return time, true
		}
	}
	return 0, false
}

// passes10 returns, for every minute of the period, how many patterns pass a stop at it.
func passes10(x sample10, stop int) []int {
	passes := make([]int, x.period)
	for _, p := range x.list {
		if time, ok := passTime10(x.n, p, stop); ok {
			passes[time%x.period]++
		}
	}
	return passes
}

// untilNext10 returns the minutes from one minute of the period to the next one at which a
// pattern passes, which may be the same one in the next period.
func untilNext10(passes []int, minute int) int {
	minutes := 1
	for passes[(minute+minutes)%len(passes)] == 0 {
		minutes++
	}
	return minutes
}

// rests10 returns what PassingRests should.
func rests10(passes []int) []int {
	var rests []int
	for minute, count := range passes {
		for range count {
			rests = append(rests, minute)
		}
	}
	return rests
}

// gaps10 returns what GapsAt should.
func gaps10(passes []int) []int {
	var gaps []int
	for minute, count := range passes {
		for i := range count {
			if i < count-1 {
				gaps = append(gaps, 0)
			} else {
				gaps = append(gaps, untilNext10(passes, minute))
			}
		}
	}
	return gaps
}

// doubleWait10 returns what DoubleWait should: in the minute before the next pattern passes one
// waits half a minute on average, in the one before that minute one and a half, and so on.
func doubleWait10(passes []int) int {
	sum := 0
	for minute := range passes {
		sum += 2*untilNext10(passes, minute) - 1
	}
	return sum
}

// largest10 returns what LargestGap should.
func largest10(passes []int) (int, int) {
	largest, begin := 0, 0
	for minute, count := range passes {
		if count > 0 && untilNext10(passes, minute) > largest {
			largest, begin = untilNext10(passes, minute), minute
		}
	}
	return largest, begin
}

// bestOffsets10 returns what BestOffsets should, found with all Offsets of three patterns from
// the last ones to the first ones.
func bestOffsets10(x sample10, stop int) ([]int, int) {
	var best []int
	smallest := math.MaxInt
	for number := x.period*x.period - 1; number >= 0; number-- {
		offsets := []int{x.list[0].Offset, number / x.period, number % x.period}[:len(x.list)]
		gap, _ := largest10(passes10(x.with(offsets), stop))
		if gap <= smallest {
			best, smallest = offsets, gap
		}
	}
	return best, smallest
}

// with returns the periodic timetable with other Offsets.
func (x sample10) with(offsets []int) sample10 {
	x.list = slices.Clone(x.list)
	for i, offset := range offsets {
		x.list[i].Offset = offset
	}
	return x
}

// transferWait10 returns what TransferWait should, found in the times of a later period.
func transferWait10(x sample10, a int, b int, stop int, walk int) (int, bool) {
	stopsOfA, stopsOfB := x.n.Lines[x.list[a].Line].Stops, x.n.Lines[x.list[b].Line].Stops
	if a == b || !slices.Contains(stopsOfA[1:], stop) || !slices.Contains(stopsOfB[:len(stopsOfB)-1], stop) {
		return 0, false
	}
	arrival, _ := passTime10(x.n, x.list[a], stop)
	departure, _ := passTime10(x.n, x.list[b], stop)
	// No pattern is on its way for longer than five runs, so b has departed before.
	for arrival <= x.period+5*impl.MaxRun {
		arrival += x.period
	}
	for departure < arrival+walk {
		departure += x.period
	}
	return departure - arrival, true
}

// meetings10 returns what MeetingTimes should.
func meetings10(x sample10, a int, b int) []int {
	var places []int
	for place, stop := range x.n.Lines[x.list[a].Line].Stops {
		at, _ := passTime10(x.n, x.list[a], stop)
		other, ok := passTime10(x.n, x.list[b], stop)
		if apart := max(at, other) - min(at, other); ok && apart%x.period == 0 {
			places = append(places, place)
		}
	}
	return places
}

// leastSquares10 returns the smallest sum of the squares of this number of gaps that add up to
// the period: as many of them as possible are longer by one minute than the others.
func leastSquares10(count int, period int) int {
	sum := 0
	for i := range count {
		gap := period / count
		if i < period%count {
			gap++
		}
		sum += gap * gap
	}
	return sum
}

// check10 compares the functions of one stop with what they should return.
func check10(t *testing.T, x sample10, stop int) {
	t.Helper()
	passes := passes10(x, stop)
	rests, gaps := rests10(passes), []int{}
	wait, squares, largest, begin := 0, 0, 0, 0
	if len(rests) > 0 {
		gaps, wait = gaps10(passes), doubleWait10(passes)
		squares = wait - leastSquares10(len(rests), x.period)
		largest, begin = largest10(passes)
	}
	if l, ok := impl.PassingRests(x.n, x.period, x.list, stop); !ok || !slices.Equal(l, rests) {
		t.Fatal("PassingRests", x, stop, l, ok, "and not", rests)
	}
	if l, ok := impl.GapsAt(x.n, x.period, x.list, stop); !ok || !slices.Equal(l, gaps) {
		t.Fatal("GapsAt", x, stop, l, ok, "and not", gaps)
	}
	served := len(rests) > 0
	period := 0
	if served {
		period = x.period
	}
	if sum, p, ok := impl.DoubleWait(x.n, x.period, x.list, stop); ok != served || sum != wait || p != period {
		t.Fatal("DoubleWait", x, stop, sum, p, ok, "and not", wait, period)
	}
	if gap, at, ok := impl.LargestGap(x.n, x.period, x.list, stop); ok != served || gap != largest || at != begin {
		t.Fatal("LargestGap", x, stop, gap, at, ok, "and not", largest, begin)
	}
	if len(rests) > x.period {
		served, squares = false, 0
	}
	if n, ok := impl.Unevenness(x.n, x.period, x.list, stop); ok != served || n != squares {
		t.Fatal("Unevenness", x, stop, n, ok, "and not", squares, served)
	}
}

// checkPair10 does so with the functions of two patterns.
func checkPair10(t *testing.T, x sample10, a int, b int) {
	t.Helper()
	if l, ok := impl.MeetingTimes(x.n, x.period, x.list, a, b); !ok || !slices.Equal(l, meetings10(x, a, b)) {
		t.Fatal("MeetingTimes", x, a, b, l, ok, "and not", meetings10(x, a, b))
	}
	for stop := range x.n.Stops {
		for _, walk := range []int{0, 1, 5, x.period - 1, min(x.period, 60), 59, 60} {
			minutes, wantOk := transferWait10(x, a, b, stop, walk)
			if n, ok := impl.TransferWait(x.n, x.period, x.list, a, b, stop, walk); ok != wantOk || n != minutes {
				t.Fatal("TransferWait", x, a, b, stop, walk, n, ok, "and not", minutes, wantOk)
			}
		}
	}
}

// checkStopFails10 calls the functions of one stop with arguments of which at least one is
// invalid.
func checkStopFails10(t *testing.T, about string, x sample10, stop int) {
	t.Helper()
	if l, ok := impl.PassingRests(x.n, x.period, x.list, stop); ok || len(l) != 0 {
		t.Error(about, "PassingRests at", stop, l, ok)
	}
	if l, ok := impl.GapsAt(x.n, x.period, x.list, stop); ok || len(l) != 0 {
		t.Error(about, "GapsAt at", stop, l, ok)
	}
	if sum, period, ok := impl.DoubleWait(x.n, x.period, x.list, stop); ok || sum != 0 || period != 0 {
		t.Error(about, "DoubleWait at", stop, sum, period, ok)
	}
	if gap, begin, ok := impl.LargestGap(x.n, x.period, x.list, stop); ok || gap != 0 || begin != 0 {
		t.Error(about, "LargestGap at", stop, gap, begin, ok)
	}
	if l, gap, ok := impl.BestOffsets(x.n, x.period, x.list, stop); ok || len(l) != 0 || gap != 0 {
		t.Error(about, "BestOffsets at", stop, l, gap, ok)
	}
	if n, ok := impl.Unevenness(x.n, x.period, x.list, stop); ok || n != 0 {
		t.Error(about, "Unevenness at", stop, n, ok)
	}
	for a := range 3 {
		for b := range 3 {
			if n, ok := impl.TransferWait(x.n, x.period, x.list, a, b, stop, 3); ok || n != 0 {
				t.Error(about, "TransferWait at", stop, "from", a, "to", b, n, ok)
			}
		}
	}
}

// checkFails10 calls all functions with an invalid periodic timetable.
func checkFails10(t *testing.T, about string, x sample10) {
	t.Helper()
	for stop := range impl.MaxStops {
		checkStopFails10(t, about, x, stop)
	}
	for a := range 4 {
		for b := range 4 {
			if l, ok := impl.MeetingTimes(x.n, x.period, x.list, a, b); ok || len(l) != 0 {
				t.Error(about, "MeetingTimes of", a, b, l, ok)
			}
		}
	}
}

func TestLimitsOfPatterns(t *testing.T) {
	if impl.MaxPeriod != 60 || impl.MaxPatterns != 3 {
		t.Error(impl.MaxPeriod, impl.MaxPatterns)
	}
}

// noPeriods10 are numbers of minutes that no period has.
var noPeriods10 = []int{0, -1, -2, -20, -60, 61, 62, 120, 1 << 32, 1<<32 + 20, math.MaxInt, math.MinInt, math.MinInt + 20}

// validity10 is one periodic timetable and what IsValidPatterns should say of it.
type validity10 struct {
	about string
	sample10
	valid bool
}

func validities10() []validity10 {
	var list []validity10
	add := func(about string, n impl.Network, period int, patterns []impl.Pattern, valid bool) {
		list = append(list, validity10{about, sample10{n, period, patterns}, valid})
	}
	for _, c := range validities2() {
		add(c.about, c.n, 20, patterns10(0, 0), c.valid)
		add(c.about, c.n, 60, patterns10(0, 59, 0, 0), c.valid)
	}
	for period := 1; period <= 60; period++ {
		add(fmt.Sprint("the period ", period), cross10(), period, patterns10(3, 0, 0, period-1), true)
		add(fmt.Sprint("the Offset ", period), cross10(), period, patterns10(3, 0, 0, period), false)
	}
	for _, period := range noPeriods10 {
		add(fmt.Sprint("the period ", period), cross10(), period, patterns10(0, 0), false)
		add(fmt.Sprint("the period and Offset ", period), cross10(), period, patterns10(0, period), false)
		add(fmt.Sprint("the period ", period, " without a pattern"), cross10(), period, nil, false)
	}
	for count := range 7 {
		add(fmt.Sprint(count, " patterns"), cross10(), 20, many10(count), count >= 1 && count <= 3)
		add(fmt.Sprint(count, " equal patterns"), cross10(), 1, slices.Repeat(patterns10(1, 0), count), count >= 1 && count <= 3)
	}
	for place := range 3 {
		for line := range 4 {
			add(fmt.Sprint("the line ", line), cross10(), 20, at10(place, impl.Pattern{Line: line, Offset: 19}), true)
		}
		for _, line := range noLines5 {
			add(fmt.Sprint("the line ", line), cross10(), 20, at10(place, impl.Pattern{Line: line}), false)
		}
		for _, offset := range []int{-1, -19, -20, -21, 20, 21, 40, 60, 1 << 32, math.MaxInt, math.MinInt, math.MinInt + 20} {
			add(fmt.Sprint("the Offset ", offset), cross10(), 20, at10(place, impl.Pattern{Offset: offset}), false)
		}
	}
	return list
}

// at10 returns three patterns of which the one at this place is p.
func at10(place int, p impl.Pattern) []impl.Pattern {
	list := patterns10(0, 0, 1, 10, 0, 19)
	list[place] = p
	return list
}

func TestIsValidPatterns(t *testing.T) {
	for _, c := range validities10() {
		if valid := impl.IsValidPatterns(c.n, c.period, c.list); valid != c.valid {
			t.Error(c.about, c.sample10, valid)
		}
	}
}

func TestInvalidPatternsGiveZeroValues(t *testing.T) {
	for _, c := range validities10() {
		if !c.valid {
			checkFails10(t, c.about, c.sample10)
		}
	}
}

func TestPatternsAtStopsThatDoNotExist(t *testing.T) {
	x := sample10{cross10(), 20, patterns10(0, 0, 1, 0, 2, 5)}
	for _, stop := range noStops8 {
		checkStopFails10(t, "no stop", x, stop)
	}
	// A network may have fewer stops than MaxStops.
	x.n.Stops = x.n.Stops[:6]
	for _, stop := range []int{6, 7} {
		checkStopFails10(t, "no stop", x, stop)
	}
	check10(t, x, 5)
}

func TestPatternsThatDoNotExist(t *testing.T) {
	for count := 1; count <= 3; count++ {
		x := sample10{cross10(), 20, patterns10(0, 0, 1, 0, 0, 5)[:count]}
		for _, no := range []int{-1, -2, count, count + 1, 3, 4, 1 << 32, math.MaxInt, math.MinInt} {
			for _, pair := range [][2]int{{0, no}, {no, 0}, {no, no}, {count - 1, no}, {no, count - 1}, {no, -1}} {
				if l, ok := impl.MeetingTimes(x.n, x.period, x.list, pair[0], pair[1]); ok || len(l) != 0 {
					t.Error("MeetingTimes of", pair, "of", count, l, ok)
				}
				if n, ok := impl.TransferWait(x.n, x.period, x.list, pair[0], pair[1], 1, 0); ok || n != 0 {
					t.Error("TransferWait of", pair, "of", count, n, ok)
				}
			}
		}
	}
}

// stopCase10 is what the functions should return for one stop of cross10. The sum of squares is
// the one of DoubleWait, and more is what Unevenness returns, or -1 where it fails.
type stopCase10 struct {
	about   string
	period  int
	list    []impl.Pattern
	stop    int
	rests   []int
	gaps    []int
	squares int
	largest int
	begin   int
	more    int
}

func stopCases10() []stopCase10 {
	return []stopCase10{
		{"two patterns", 20, patterns10(0, 0, 1, 0), 1, []int{5, 10}, []int{5, 15}, 250, 15, 10, 50},
		{"a smaller rest later in the list", 20, patterns10(0, 10, 1, 0), 1, []int{10, 15}, []int{5, 15}, 250, 15, 15, 50},
		{"the first stop", 20, patterns10(0, 19, 2, 4), 0, []int{4, 19}, []int{15, 5}, 250, 15, 4, 50},
		{"the last stop", 20, patterns10(0, 3), 2, []int{18}, []int{20}, 400, 20, 18, 0},
		{"the last and the first stop", 20, patterns10(0, 7, 1, 4), 2, []int{2, 4}, []int{2, 18}, 328, 18, 4, 128},
		{"only one of the patterns serves it", 20, patterns10(0, 3, 3, 0, 1, 0), 3, []int{14}, []int{20}, 400, 20, 14, 0},
		{"equal gaps", 20, patterns10(0, 15, 1, 0), 1, []int{0, 10}, []int{10, 10}, 200, 10, 0, 0},
		{"three equal gaps", 60, patterns10(0, 0, 0, 40, 0, 20), 0, []int{0, 20, 40}, []int{20, 20, 20}, 1200, 20, 0, 0},
		{"two largest gaps", 20, patterns10(0, 1, 0, 9, 0, 17), 0, []int{1, 9, 17}, []int{8, 8, 4}, 144, 8, 1, 10},
		{"two largest gaps, one at the end", 20, patterns10(0, 1, 0, 9, 0, 13), 0, []int{1, 9, 13}, []int{8, 4, 8}, 144, 8, 1, 10},
		{"two largest gaps behind a smaller one", 20, patterns10(0, 12, 0, 4, 0, 0), 0, []int{0, 4, 12}, []int{4, 8, 8}, 144, 8, 4, 10},
		{"the gap to the first rest", 20, patterns10(0, 5, 0, 4, 0, 3), 0, []int{3, 4, 5}, []int{1, 1, 18}, 326, 18, 5, 192},
		{"two equal patterns", 20, patterns10(0, 4, 0, 4), 1, []int{9, 9}, []int{0, 20}, 400, 20, 9, 200},
		{"three equal patterns", 20, patterns10(0, 0, 0, 0, 0, 0), 0, []int{0, 0, 0}, []int{0, 0, 20}, 400, 20, 0, 266},
		{"two of three rests equal", 20, patterns10(0, 2, 1, 17, 0, 10), 1, []int{7, 7, 15}, []int{0, 8, 12}, 208, 12, 15, 74},
		{"the other two rests equal", 20, patterns10(0, 10, 1, 17, 1, 5), 1, []int{7, 15, 15}, []int{8, 0, 12}, 208, 12, 15, 74},
		{"runs beyond the period", 50, patterns10(2, 49), 3, []int{19}, []int{50}, 2500, 50, 19, 0},
		{"runs of two periods", 60, patterns10(2, 7, 1, 9), 3, []int{7, 23}, []int{16, 44}, 2192, 44, 23, 392},
		{"runs of many periods", 7, patterns10(2, 6, 2, 1), 3, []int{0, 2}, []int{2, 5}, 29, 5, 2, 4},
		{"one minute", 1, patterns10(0, 0), 1, []int{0}, []int{1}, 1, 1, 0, 0},
		{"one minute and two patterns", 1, patterns10(0, 0, 1, 0), 1, []int{0, 0}, []int{0, 1}, 1, 1, 0, -1},
		{"one minute and two patterns apart", 1, patterns10(0, 0, 3, 0), 1, []int{0}, []int{1}, 1, 1, 0, 0},
		{"one minute and three patterns", 1, patterns10(2, 0, 0, 0, 1, 0), 1, []int{0, 0, 0}, []int{0, 0, 1}, 1, 1, 0, -1},
		{"two minutes and two patterns", 2, patterns10(0, 0, 0, 1), 0, []int{0, 1}, []int{1, 1}, 2, 1, 0, 0},
		{"two minutes and two equal rests", 2, patterns10(0, 1, 0, 1), 0, []int{1, 1}, []int{0, 2}, 4, 2, 1, 2},
		{"two minutes and three patterns", 2, patterns10(0, 0, 0, 1, 0, 0), 0, []int{0, 0, 1}, []int{0, 1, 1}, 2, 1, 0, -1},
		{"three minutes and three patterns", 3, patterns10(0, 2, 0, 1, 0, 0), 0, []int{0, 1, 2}, []int{1, 1, 1}, 3, 1, 0, 0},
		{"the period 21", 21, patterns10(0, 20, 1, 20), 1, []int{4, 9}, []int{5, 16}, 281, 16, 9, 60},
		{"the longest period", 60, patterns10(0, 59, 2, 0), 0, []int{0, 59}, []int{59, 1}, 3482, 59, 0, 1682},
	}
}

func TestPatternsAtOneStop(t *testing.T) {
	for _, c := range stopCases10() {
		n := cross10()
		if l, ok := impl.PassingRests(n, c.period, c.list, c.stop); !ok || !slices.Equal(l, c.rests) {
			t.Error(c.about, "PassingRests", l, ok)
		}
		if l, ok := impl.GapsAt(n, c.period, c.list, c.stop); !ok || !slices.Equal(l, c.gaps) {
			t.Error(c.about, "GapsAt", l, ok)
		}
		if sum, period, ok := impl.DoubleWait(n, c.period, c.list, c.stop); !ok || sum != c.squares || period != c.period {
			t.Error(c.about, "DoubleWait", sum, period, ok)
		}
		if gap, begin, ok := impl.LargestGap(n, c.period, c.list, c.stop); !ok || gap != c.largest || begin != c.begin {
			t.Error(c.about, "LargestGap", gap, begin, ok)
		}
		if more, ok := impl.Unevenness(n, c.period, c.list, c.stop); ok != (c.more >= 0) || more != max(c.more, 0) {
			t.Error(c.about, "Unevenness", more, ok)
		}
		check10(t, sample10{n, c.period, c.list}, c.stop)
	}
}

func TestStopsThatNoPatternServes(t *testing.T) {
	for _, period := range []int{1, 20, 21, 60} {
		x := sample10{cross10(), period, patterns10(0, 0, 2, 0)}
		for _, stop := range []int{4, 5, 6, 7} {
			if l, ok := impl.PassingRests(x.n, period, x.list, stop); !ok || len(l) != 0 {
				t.Error("PassingRests", period, stop, l, ok)
			}
			if l, ok := impl.GapsAt(x.n, period, x.list, stop); !ok || len(l) != 0 {
				t.Error("GapsAt", period, stop, l, ok)
			}
			if sum, p, ok := impl.DoubleWait(x.n, period, x.list, stop); ok || sum != 0 || p != 0 {
				t.Error("DoubleWait", period, stop, sum, p, ok)
			}
			if gap, begin, ok := impl.LargestGap(x.n, period, x.list, stop); ok || gap != 0 || begin != 0 {
				t.Error("LargestGap", period, stop, gap, begin, ok)
			}
			if l, gap, ok := impl.BestOffsets(x.n, period, x.list, stop); ok || len(l) != 0 || gap != 0 {
				t.Error("BestOffsets", period, stop, l, gap, ok)
			}
			if more, ok := impl.Unevenness(x.n, period, x.list, stop); ok || more != 0 {
				t.Error("Unevenness", period, stop, more, ok)
			}
		}
	}
}

func TestBestOffsets(t *testing.T) {
	cases := []struct {
		about   string
		period  int
		list    []impl.Pattern
		stop    int
		offsets []int
		gap     int
	}{
		{"two lines", 20, patterns10(0, 0, 1, 0), 1, []int{0, 5}, 10},
		{"two lines at their ends", 20, patterns10(0, 3, 1, 0), 2, []int{3, 8}, 10},
		{"the first Offset remains", 20, patterns10(0, 19, 1, 0), 1, []int{19, 4}, 10},
		{"Offsets that are the best ones already", 20, patterns10(0, 0, 1, 5), 1, []int{0, 5}, 10},
		{"one pattern", 20, patterns10(0, 7), 1, []int{7}, 20},
		{"one pattern and one minute", 1, patterns10(0, 0), 1, []int{0}, 1},
		{"one minute", 1, patterns10(0, 0, 1, 0, 2, 0), 1, []int{0, 0, 0}, 1},
		{"two minutes", 2, patterns10(0, 1, 0, 1, 0, 1), 0, []int{1, 0, 0}, 1},
		{"two minutes and an Offset of 0", 2, patterns10(0, 0, 0, 0, 0, 0), 0, []int{0, 0, 1}, 1},
		{"an odd period", 5, patterns10(0, 0, 0, 0), 0, []int{0, 2}, 3},
		{"an odd period and a later Offset", 5, patterns10(0, 3, 0, 3), 0, []int{3, 0}, 3},
		{"three patterns", 9, patterns10(0, 0, 0, 0, 0, 0), 0, []int{0, 3, 6}, 3},
		{"three patterns with a later Offset", 9, patterns10(0, 7, 0, 8, 0, 8), 0, []int{7, 1, 4}, 3},
		{"three patterns on ties", 20, patterns10(0, 0, 0, 1, 0, 2), 0, []int{0, 6, 13}, 7},
		{"three patterns on ties and a later Offset", 20, patterns10(0, 15, 0, 1, 0, 2), 0, []int{15, 1, 8}, 7},
		{"four minutes", 4, patterns10(0, 0, 0, 0, 0, 0), 0, []int{0, 0, 2}, 2},
		{"the first pattern does not serve it", 20, patterns10(3, 9, 0, 9, 1, 9), 1, []int{9, 0, 5}, 10},
		{"only the second pattern serves it", 20, patterns10(3, 9, 0, 9), 1, []int{9, 0}, 20},
		{"only the third pattern serves it", 20, patterns10(3, 19, 3, 9, 0, 9), 1, []int{19, 0, 0}, 20},
		{"the second pattern does not serve it", 20, patterns10(0, 9, 3, 9, 1, 9), 1, []int{9, 0, 14}, 10},
		{"the third pattern does not serve it", 20, patterns10(0, 9, 1, 9, 3, 9), 1, []int{9, 14, 0}, 10},
		{"only the first pattern serves it", 20, patterns10(0, 9, 3, 9, 3, 8), 1, []int{9, 0, 0}, 20},
		{"runs beyond the period", 10, patterns10(2, 3, 1, 0), 3, []int{3, 4}, 5},
	}
	for _, c := range cases {
		offsets, gap, ok := impl.BestOffsets(cross10(), c.period, c.list, c.stop)
		if !ok || !slices.Equal(offsets, c.offsets) || gap != c.gap {
			t.Error(c.about, offsets, gap, ok)
		}
	}
}

func TestBestOffsetsOfLongPeriods(t *testing.T) {
	for period := 1; period <= 60; period++ {
		for _, list := range [][]impl.Pattern{patterns10(0, 0), patterns10(0, 0, 1, 0), patterns10(0, 0, 2, 0, 0, 0)} {
			for stop := range 3 {
				offsets, gap, ok := impl.BestOffsets(cross10(), period, list, stop)
				if want := period <= 20; ok != want || (gap > 0) != want || (len(offsets) > 0) != want {
					t.Error(period, list, stop, offsets, gap, ok)
				}
			}
		}
	}
}

func TestTransferWait(t *testing.T) {
	cases := []struct {
		about  string
		period int
		list   []impl.Pattern
		a      int
		b      int
		stop   int
		walk   int
		want   int
	}{
		{"a transfer", 20, patterns10(0, 0, 1, 0), 0, 1, 1, 3, 5},
		{"a transfer that fits exactly", 20, patterns10(0, 0, 1, 0), 0, 1, 1, 5, 5},
		{"one minute too little", 20, patterns10(0, 0, 1, 0), 0, 1, 1, 6, 25},
		{"no walk", 20, patterns10(0, 0, 1, 0), 0, 1, 1, 0, 5},
		{"no walk at the very minute", 20, patterns10(0, 5, 1, 0), 0, 1, 1, 0, 0},
		{"a walk of one minute at the very minute", 20, patterns10(0, 5, 1, 0), 0, 1, 1, 1, 20},
		{"a walk of the period at the very minute", 20, patterns10(0, 5, 1, 0), 0, 1, 1, 20, 20},
		{"a walk of more than the period", 20, patterns10(0, 5, 1, 0), 0, 1, 1, 21, 40},
		{"the other direction", 20, patterns10(0, 0, 1, 0), 1, 0, 1, 0, 15},
		{"the longest walk", 20, patterns10(0, 0, 1, 0), 0, 1, 1, 60, 65},
		{"the longest walk and period", 60, patterns10(0, 59, 1, 0), 0, 1, 1, 60, 66},
		{"the longest wait", 60, patterns10(0, 6, 1, 0), 0, 1, 1, 60, 119},
		{"one minute", 1, patterns10(0, 0, 1, 0), 0, 1, 1, 0, 0},
		{"one minute and a walk", 1, patterns10(0, 0, 1, 0), 0, 1, 1, 17, 17},
		{"one minute and the longest walk", 1, patterns10(0, 0, 1, 0), 0, 1, 1, 60, 60},
		{"from a last stop to a first one", 20, patterns10(0, 0, 1, 0), 0, 1, 2, 2, 5},
		{"to the same line", 20, patterns10(0, 0, 0, 4), 0, 1, 1, 0, 4},
		{"to an equal pattern", 20, patterns10(0, 0, 0, 0), 0, 1, 1, 0, 0},
		{"to an equal pattern with a walk", 20, patterns10(0, 0, 0, 0), 1, 0, 1, 1, 20},
		{"among three patterns", 20, patterns10(3, 0, 1, 0, 0, 1), 2, 1, 1, 0, 4},
		{"runs beyond the period", 7, patterns10(2, 6, 1, 0), 0, 1, 1, 2, 7},
	}
	for _, c := range cases {
		if n, ok := impl.TransferWait(cross10(), c.period, c.list, c.a, c.b, c.stop, c.walk); !ok || n != c.want {
			t.Error(c.about, n, ok)
		}
	}
}

func TestTransferWaitRejects(t *testing.T) {
	list := patterns10(0, 0, 1, 0, 3, 0)
	cases := []struct {
		about string
		a     int
		b     int
		stop  int
		walk  int
	}{
		{"the first stop of the line of a", 0, 2, 0, 3},
		{"the first stop of the line of a, the last one of that of b", 1, 0, 2, 3},
		{"the last stop of the line of b", 2, 1, 3, 3},
		{"a and b equal", 0, 0, 1, 3},
		{"the last ones of equal patterns", 2, 2, 4, 3},
		{"b does not serve the stop", 0, 2, 1, 3},
		{"b does not serve the last stop of a", 1, 0, 3, 3},
		{"a does not serve the stop", 2, 0, 1, 3},
		{"a does not serve the first stop of b", 2, 0, 0, 3},
		{"neither serves the stop", 0, 1, 4, 3},
		{"no line serves the stop", 0, 1, 7, 3},
		{"a walk of -1", 0, 1, 1, -1},
		{"a walk of -20", 0, 1, 1, -20},
		{"a walk of 61", 0, 1, 1, 61},
		{"a large walk", 0, 1, 1, 1 << 32},
		{"the largest walk", 0, 1, 1, math.MaxInt},
		{"the smallest walk", 0, 1, 1, math.MinInt},
	}
	for _, c := range cases {
		if n, ok := impl.TransferWait(cross10(), 20, list, c.a, c.b, c.stop, c.walk); ok || n != 0 {
			t.Error(c.about, n, ok)
		}
	}
}

func TestTransferWaitWhereOnlyOneLineBeginsOrEnds(t *testing.T) {
	cases := []struct {
		about string
		lines [][]int
		valid bool
	}{
		{"both go through", [][]int{{0, 5, 1, 5, 2}, {3, 5, 1, 5, 2}}, true},
		{"both begin", [][]int{{1, 5, 2}, {1, 5, 3}}, false},
		{"both end", [][]int{{0, 5, 1}, {3, 5, 1}}, false},
		{"a begins", [][]int{{1, 5, 2}, {3, 5, 1, 5, 2}}, false},
		{"a ends", [][]int{{0, 5, 1}, {3, 5, 1, 5, 2}}, true},
		{"b begins", [][]int{{0, 5, 1, 5, 2}, {1, 5, 2}}, true},
		{"b ends", [][]int{{0, 5, 1, 5, 2}, {3, 5, 1}}, false},
		{"a ends and b begins", [][]int{{0, 5, 1}, {1, 5, 2}}, true},
		{"a begins and b ends", [][]int{{1, 5, 2}, {3, 5, 1}}, false},
	}
	for _, c := range cases {
		x := sample10{plan8(c.lines).Network, 20, patterns10(0, 0, 1, 0)}
		if _, ok := impl.TransferWait(x.n, x.period, x.list, 0, 1, 1, 0); ok != c.valid {
			t.Error(c.about, ok)
		}
		checkPair10(t, x, 0, 1)
		checkPair10(t, x, 1, 0)
	}
}

func TestMeetingTimes(t *testing.T) {
	cases := []struct {
		about  string
		period int
		list   []impl.Pattern
		a      int
		b      int
		places []int
	}{
		{"two stops at the same rests", 20, patterns10(0, 5, 1, 0), 0, 1, []int{1, 2}},
		{"places on the line of a", 20, patterns10(0, 5, 1, 0), 1, 0, []int{0, 1}},
		{"two stops at different rests", 20, patterns10(0, 4, 1, 0), 0, 1, nil},
		{"one of two stops", 30, patterns10(0, 5, 1, 0), 0, 1, []int{1}},
		{"the other one of two stops", 30, patterns10(0, 15, 1, 0), 0, 1, []int{2}},
		{"the other one of two stops on the line of a", 30, patterns10(0, 15, 1, 0), 1, 0, []int{0}},
		{"no common stop", 20, patterns10(0, 0, 3, 0), 0, 1, nil},
		{"no common stop and one minute", 1, patterns10(3, 0, 0, 0), 0, 1, nil},
		{"one minute", 1, patterns10(0, 0, 1, 0), 0, 1, []int{1, 2}},
		{"a pattern with itself", 20, patterns10(0, 7, 1, 0), 0, 0, []int{0, 1, 2}},
		{"another pattern with itself", 60, patterns10(0, 7, 3, 59), 1, 1, []int{0, 1}},
		{"equal patterns", 20, patterns10(0, 7, 3, 0, 0, 7), 0, 2, []int{0, 1, 2}},
		{"the same line with another Offset", 20, patterns10(0, 7, 3, 0, 0, 8), 2, 0, nil},
		{"runs beyond the period", 55, patterns10(0, 0, 2, 0), 0, 1, []int{0, 1}},
		{"runs of many periods", 11, patterns10(2, 10, 1, 5), 0, 1, []int{1}},
	}
	for _, c := range cases {
		if l, ok := impl.MeetingTimes(cross10(), c.period, c.list, c.a, c.b); !ok || !slices.Equal(l, c.places) {
			t.Error(c.about, l, ok)
		}
	}
}

func TestEvenTimes(t *testing.T) {
	if l, ok := impl.EvenTimes(3, 20); !ok || !slices.Equal(l, []int{0, 6, 13}) {
		t.Error(l, ok)
	}
	for period := 1; period <= 60; period++ {
		for count := 1; count <= period; count++ {
			want := []int{}
			for minute := range period {
				for i := range count {
					if minute*count <= i*period && i*period < (minute+1)*count {
						want = append(want, minute)
					}
				}
			}
			l, ok := impl.EvenTimes(count, period)
			if !ok || len(l) != count || !slices.Equal(l, want) {
				t.Error(count, "in", period, l, ok)
			}
		}
		for _, count := range []int{0, -1, -period, period + 1, 2 * period, 61, 1 << 32, 1<<32 + 1, math.MaxInt, math.MinInt} {
			if l, ok := impl.EvenTimes(count, period); ok || len(l) != 0 {
				t.Error(count, "in", period, l, ok)
			}
		}
	}
	for _, period := range noPeriods10 {
		for _, count := range []int{0, 1, 2, 20, 60, 61, period - 1, period, -1, math.MinInt} {
			if l, ok := impl.EvenTimes(count, period); ok || len(l) != 0 {
				t.Error(count, "in", period, l, ok)
			}
		}
	}
}

func TestPatternsWithEvenTimesAreNotUneven(t *testing.T) {
	for period := 1; period <= 60; period++ {
		for count := 1; count <= min(3, period); count++ {
			x := sample10{n: cross10(), period: period}
			even, _ := impl.EvenTimes(count, period)
			for _, offset := range even {
				x.list = append(x.list, impl.Pattern{Line: 0, Offset: offset})
			}
			for shift := range period {
				offsets := []int{}
				for _, offset := range even {
					offsets = append(offsets, (offset+shift)%period)
				}
				if n, ok := impl.Unevenness(x.n, period, x.with(offsets).list, 0); !ok || n != 0 {
					t.Error(x.with(offsets), n, ok)
				}
			}
		}
	}
}

func TestRandomPatterns(t *testing.T) {
	for _, x := range samples10(3000) {
		if !impl.IsValidPatterns(x.n, x.period, x.list) {
			t.Fatal("not valid", x)
		}
		for stop := range x.n.Stops {
			check10(t, x, stop)
		}
		for a := range x.list {
			for b := range x.list {
				checkPair10(t, x, a, b)
			}
		}
	}
}

func TestRandomBestOffsets(t *testing.T) {
	served := 0
	for _, x := range samples10(400) {
		if x.period > 20 {
			continue
		}
		for stop := range x.n.Stops {
			offsets, gap, ok := impl.BestOffsets(x.n, x.period, x.list, stop)
			if len(rests10(passes10(x, stop))) == 0 {
				if ok || len(offsets) != 0 || gap != 0 {
					t.Fatal(x, stop, offsets, gap, ok)
				}
				continue
			}
			served++
			if best, smallest := bestOffsets10(x, stop); !ok || !slices.Equal(offsets, best) || gap != smallest {
				t.Fatal(x, stop, offsets, gap, ok, "and not", best, smallest)
			}
		}
	}
	if served < 400 {
		t.Error("only", served, "stops")
	}
}

// Promise 10.
func TestGapsAddUpToThePeriod(t *testing.T) {
	served := 0
	for _, x := range samples10(3000) {
		for stop := range x.n.Stops {
			gaps, ok := impl.GapsAt(x.n, x.period, x.list, stop)
			rests, _ := impl.PassingRests(x.n, x.period, x.list, stop)
			if !ok || len(gaps) != len(rests) {
				t.Fatal(x, stop, gaps, ok, rests)
			}
			if len(gaps) == 0 {
				continue
			}
			served++
			sum := 0
			for i, gap := range gaps {
				if gap < 0 || (rests[i]+gap)%x.period != rests[(i+1)%len(rests)] {
					t.Fatal(x, stop, gaps, "do not lead from one rest to the next one", rests)
				}
				sum += gap
			}
			if sum != x.period {
				t.Fatal(x, stop, gaps, "add up to", sum)
			}
		}
	}
	if served < 3000 {
		t.Error("only", served, "stops")
	}
}

// Promise 10.
func TestNoOffsetsGiveASmallerLargestGapThanTheBestOnes(t *testing.T) {
	r := random2(11)
	for range 200 {
		x := r.sample10(20)
		for stop := range x.n.Stops {
			offsets, smallest, ok := impl.BestOffsets(x.n, x.period, x.list, stop)
			if !ok {
				continue
			}
			best := x.with(offsets)
			if !impl.IsValidPatterns(x.n, x.period, best.list) || len(offsets) != len(x.list) || offsets[0] != x.list[0].Offset {
				t.Fatal(x, stop, offsets)
			}
			if gap, _, ok := impl.LargestGap(x.n, x.period, best.list, stop); !ok || gap != smallest {
				t.Fatal(x, stop, offsets, smallest, "and not", gap)
			}
			for number := range x.period * x.period {
				others := []int{x.list[0].Offset, number / x.period, number % x.period}[:len(x.list)]
				if gap, _, _ := impl.LargestGap(x.n, x.period, x.with(others).list, stop); gap < smallest {
					t.Fatal(x, stop, others, "give", gap, "and", offsets, "only", smallest)
				}
			}
		}
	}
}

// results10 returns all results of the functions of the chapter, and changes everything that
// they hold afterwards.
func results10(x sample10) string {
	s := fmt.Sprintln(impl.IsValidPatterns(x.n, x.period, x.list))
	show := func(list []int, ok bool) {
		s += fmt.Sprintln(list, ok)
		fill2(list)
	}
	for stop := range x.n.Stops {
		show(impl.PassingRests(x.n, x.period, x.list, stop))
		show(impl.GapsAt(x.n, x.period, x.list, stop))
		s += fmt.Sprintln(impl.DoubleWait(x.n, x.period, x.list, stop))
		s += fmt.Sprintln(impl.LargestGap(x.n, x.period, x.list, stop))
		offsets, gap, ok := impl.BestOffsets(x.n, x.period, x.list, stop)
		s += fmt.Sprintln(gap)
		show(offsets, ok)
		s += fmt.Sprintln(impl.Unevenness(x.n, x.period, x.list, stop))
		for b := range x.list {
			s += fmt.Sprintln(impl.TransferWait(x.n, x.period, x.list, 0, b, stop, 3))
		}
	}
	for b := range x.list {
		show(impl.MeetingTimes(x.n, x.period, x.list, 0, b))
	}
	show(impl.EvenTimes(len(x.list), x.period))
	return s
}

func TestPatternsAreNotModifiedAndNotReadBeyondTheEnd(t *testing.T) {
	for _, x := range samples10(200) {
		list := append(slices.Clone(x.list), impl.Pattern{Line: -7, Offset: -8})
		roomy := sample10{roomy2(x.n), x.period, list[:len(x.list)]}
		before, kept := wide2(roomy.n), slices.Clone(list)
		got := results10(roomy)
		if after := wide2(roomy.n); !reflect.DeepEqual(after, before) || !slices.Equal(list, kept) {
			t.Fatal("the arguments were", before, kept, "and are", after, list)
		}
		for range 2 {
			if got != results10(sample10{clone2(x.n), x.period, slices.Clone(x.list)}) {
				t.Fatal("other results for", x)
			}
		}
	}
	// Behind the end, there is room for a pattern that would count.
	list := patterns10(0, 0, 1, 0)
	if l, ok := impl.PassingRests(cross10(), 20, list[:1], 1); !ok || !slices.Equal(l, []int{5}) {
		t.Error("PassingRests reads beyond the end", l, ok)
	}
	if l, ok := impl.MeetingTimes(cross10(), 20, list[:1], 0, 1); ok || len(l) != 0 {
		t.Error("MeetingTimes reads beyond the end", l, ok)
	}
	if l, gap, ok := impl.BestOffsets(cross10(), 20, list[:1], 1); !ok || !slices.Equal(l, []int{0}) || gap != 20 {
		t.Error("BestOffsets reads beyond the end", l, gap, ok)
	}
}
