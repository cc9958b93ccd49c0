package tests

import (
	"math"
	"reflect"
	"slices"
	"strconv"
	"strings"
	"testing"

	"loop.example/g00900/impl"
)

// town2 has stops that no line serves (4, sea, and 6, moor), a stop that can only be reached
// against a line's direction (5, hill, from the others), and lines that share stops.
func town2() impl.Network {
	return impl.Network{
		Stops: []string{"port", "mill", "park", "dock", "sea", "hill", "moor"},
		Lines: []impl.Line{
			{Name: "l1", Stops: []int{0, 1, 2}, Runs: []int{5, 7}},
			{Name: "r1", Stops: []int{2, 3}, Runs: []int{60}},
			{Name: "x9", Stops: []int{5, 3, 0}, Runs: []int{1, 30}},
		},
	}
}

// stops2 returns this number of stops named a0, a1 and so on.
func stops2(count int) []string {
	var list []string
	for i := range count {
		list = append(list, "a"+strconv.Itoa(i))
	}
	return list
}

// line2 returns a line that serves the stops from first to last in order of their numbers.
func line2(name string, first int, last int) impl.Line {
	l := impl.Line{Name: name}
	for stop := first; stop <= last; stop++ {
		l.Stops = append(l.Stops, stop)
		if stop > first {
			l.Runs = append(l.Runs, stop)
		}
	}
	return l
}

// lines2 returns this number of lines from stop 0 to stop 1.
func lines2(count int) []impl.Line {
	var list []impl.Line
	for i := range count {
		list = append(list, line2("l"+strconv.Itoa(i), 0, 1))
	}
	return list
}

// clone2 returns a network that shares nothing with n.
func clone2(n impl.Network) impl.Network {
	result := impl.Network{Stops: slices.Clone(n.Stops)}
	for _, l := range n.Lines {
		result.Lines = append(result.Lines, impl.Line{Name: l.Name, Stops: slices.Clone(l.Stops), Runs: slices.Clone(l.Runs)})
	}
	return result
}

// validity2 is one network and what IsValidNetwork should say of it.
type validity2 struct {
	about string
	n     impl.Network
	valid bool
}

func validities2() []validity2 {
	return slices.Concat(sizes2(), names2(), lineStops2(), runs2())
}

func sizes2() []validity2 {
	list := []validity2{
		{"town", town2(), true},
		{"nothing", impl.Network{}, false},
		{"no stops", impl.Network{Lines: lines2(1)}, false},
		{"no lines", impl.Network{Stops: stops2(2)}, false},
		{"empty lines", impl.Network{Stops: stops2(2), Lines: []impl.Line{}}, false},
		{"one stop", impl.Network{Stops: stops2(1), Lines: []impl.Line{{Name: "l", Stops: []int{0, 0}, Runs: []int{1}}}}, false},
		{"many stops", impl.Network{Stops: stops2(100000), Lines: lines2(1)}, false},
		{"many lines", impl.Network{Stops: stops2(2), Lines: lines2(100000)}, false},
	}
	for count := 2; count <= impl.MaxStops+3; count++ {
		list = append(list, validity2{strconv.Itoa(count) + " stops", impl.Network{Stops: stops2(count), Lines: lines2(1)}, count <= impl.MaxStops})
	}
	for count := 1; count <= impl.MaxLines+3; count++ {
		list = append(list, validity2{strconv.Itoa(count) + " lines", impl.Network{Stops: stops2(2), Lines: lines2(count)}, count <= impl.MaxLines})
	}
	return list
}

func names2() []validity2 {
	var list []validity2
	for name, valid := range map[string]bool{
		"a": true, "z": true, "q": true, "a0": true, "a9": true, "az": true, "abcdefgh": true, "a1234567": true, "z9z9z9z9": true,
		"": false, "abcdefghi": false, "a12345678": false, "0": false, "9a": false, "A": false, "aB": false, "Z": false,
		"a b": false, " a": false, "a ": false, "a\n": false, "a-b": false, "a_b": false, "a`": false, "a{": false, "`": false,
		"{": false, "a/": false, "a:": false, "é": false, "aé": false, "a\x00": false, "\x00": false, "a\xff": false,
		"ａ": false, "a٣": false, "abcdefg.": false, strings.Repeat("a", 1000000): false,
	} {
		about := "name " + strconv.Quote(name[:min(len(name), 10)])
		stop, line := town2(), town2()
		stop.Stops[1] = name
		line.Lines[1].Name = name
		list = append(list, validity2{about + " of a stop", stop, valid}, validity2{about + " of a line", line, valid})
	}
	both, first, last, lines := town2(), town2(), town2(), town2()
	both.Lines[0].Name = both.Stops[0]
	first.Stops[1] = first.Stops[0]
	last.Stops[6] = last.Stops[0]
	lines.Lines[2].Name = lines.Lines[0].Name
	return append(list,
		validity2{"a line named as a stop", both, true},
		validity2{"two stops next to each other of one name", first, false},
		validity2{"two distant stops of one name", last, false},
		validity2{"two lines of one name", lines, false})
}

func lineStops2() []validity2 {
	var list []validity2
	for count := 0; count <= 8; count++ {
		n := impl.Network{Stops: stops2(8), Lines: lines2(2)}
		n.Lines[1] = line2("long", 0, count-1)
		list = append(list, validity2{"a line of " + strconv.Itoa(count) + " stops", n, count >= 2 && count <= 6})
	}
	for _, c := range []struct {
		stops []int
		valid bool
	}{
		{[]int{0, 1, 2}, true}, {[]int{6, 0, 3}, true}, {[]int{2, 1, 6}, true},
		{[]int{0, 0, 1}, false}, {[]int{0, 1, 1}, false}, {[]int{0, 1, 0}, false},
		{[]int{7, 0, 1}, false}, {[]int{0, 7, 1}, false}, {[]int{0, 1, 7}, false}, {[]int{0, 1, 8}, false},
		{[]int{-1, 0, 1}, false}, {[]int{0, 1, -1}, false},
		{[]int{0, 1, math.MaxInt}, false}, {[]int{math.MinInt, 0, 1}, false},
	} {
		for line := range 3 {
			n := town2()
			n.Lines[line] = impl.Line{Name: "new", Stops: c.stops, Runs: []int{1, 2}}
			list = append(list, validity2{"a line with other stops", n, c.valid})
		}
	}
	return list
}

func runs2() []validity2 {
	var list []validity2
	for run, valid := range map[int]bool{
		1: true, 2: true, 59: true, impl.MaxRun: true, impl.MaxRun + 1: false, 0: false, -1: false, math.MaxInt: false, math.MinInt: false,
	} {
		for line, place := range []int{1, 0, 1} {
			n := town2()
			n.Lines[line].Runs[place] = run
			list = append(list, validity2{"a run of " + strconv.Itoa(run), n, valid})
		}
	}
	for _, runs := range [][]int{nil, {}, {5}, {5, 7, 9}, {5, 7, 0}} {
		n := town2()
		n.Lines[0].Runs = runs
		list = append(list, validity2{strconv.Itoa(len(runs)) + " runs for 3 stops", n, false})
	}
	return list
}

func TestIsValidNetwork(t *testing.T) {
	for _, c := range validities2() {
		if impl.IsValidNetwork(c.n) != c.valid {
			t.Errorf("%s: valid is not %v", c.about, c.valid)
		}
	}
}

func TestInvalidNetworksGiveZeroValues(t *testing.T) {
	for _, c := range validities2() {
		if c.valid {
			continue
		}
		name, line := "port", "l1"
		if len(c.n.Stops) > 0 {
			name = c.n.Stops[0]
		}
		if len(c.n.Lines) > 0 {
			line = c.n.Lines[0].Name
		}
		if i, ok := impl.StopNumber(c.n, name); ok || i != 0 {
			t.Error(c.about, "StopNumber", i, ok)
		}
		if i, ok := impl.LineNumber(c.n, line); ok || i != 0 {
			t.Error(c.about, "LineNumber", i, ok)
		}
		if l, ok := impl.LinesAt(c.n, 0); ok || len(l) != 0 {
			t.Error(c.about, "LinesAt", l, ok)
		}
		if m, ok := impl.RunTime(c.n, 0, 0, 1); ok || m != 0 {
			t.Error(c.about, "RunTime", m, ok)
		}
		if r, ok := impl.ReverseLine(c.n, 0, "new"); ok || len(r.Stops) != 0 || len(r.Lines) != 0 {
			t.Error(c.about, "ReverseLine", ok)
		}
		if l, ok := impl.ReachableStops(c.n, 0); ok || len(l) != 0 {
			t.Error(c.about, "ReachableStops", l, ok)
		}
		for to := range 2 {
			if k, ok := impl.FewestLines(c.n, 0, to); ok || k != 0 {
				t.Error(c.about, "FewestLines", k, ok)
			}
		}
		if l, ok := impl.TerminalStops(c.n); ok || len(l) != 0 {
			t.Error(c.about, "TerminalStops", l, ok)
		}
	}
}

// outside2 are numbers that no stop and no line of town2 has.
var outside2 = []int{-1, -2, 7, 8, 9, impl.MaxStops, impl.MaxStops + 1, math.MaxInt, math.MinInt, math.MaxInt32 + 1}

func TestStopsAndLinesThatDoNotExist(t *testing.T) {
	n := town2()
	for _, i := range outside2 {
		if l, ok := impl.LinesAt(n, i); ok || len(l) != 0 {
			t.Error("LinesAt", i, l, ok)
		}
		if l, ok := impl.ReachableStops(n, i); ok || len(l) != 0 {
			t.Error("ReachableStops", i, l, ok)
		}
		for _, pair := range [][2]int{{i, 0}, {0, i}, {i, i}} {
			if k, ok := impl.FewestLines(n, pair[0], pair[1]); ok || k != 0 {
				t.Error("FewestLines", pair, k, ok)
			}
			for line := range 3 {
				if m, ok := impl.RunTime(n, line, pair[0], pair[1]); ok || m != 0 {
					t.Error("RunTime", line, pair, m, ok)
				}
			}
		}
	}
	for _, line := range append([]int{3, 4, 5, 6}, outside2...) {
		if m, ok := impl.RunTime(n, line, 0, 1); ok || m != 0 {
			t.Error("RunTime of line", line, m, ok)
		}
		if r, ok := impl.ReverseLine(n, line, "new"); ok || len(r.Stops) != 0 || len(r.Lines) != 0 {
			t.Error("ReverseLine of line", line, r, ok)
		}
	}
}

func TestStopNumberAndLineNumber(t *testing.T) {
	n := town2()
	n.Stops[4] = "x9"
	for want, name := range n.Stops {
		if i, ok := impl.StopNumber(n, name); !ok || i != want {
			t.Error("stop", name, i, ok)
		}
	}
	for want, l := range n.Lines {
		if i, ok := impl.LineNumber(n, l.Name); !ok || i != want {
			t.Error("line", l.Name, i, ok)
		}
	}
	for _, name := range []string{"", "por", "port0", "Port", "sea", "l1", "a", "port ", strings.Repeat("p", 9)} {
		if i, ok := impl.StopNumber(n, name); ok || i != 0 {
			t.Error("no stop", name, i, ok)
		}
	}
	for _, name := range []string{"", "l", "l11", "L1", "l2", "port", "x", strings.Repeat("l", 9)} {
		if i, ok := impl.LineNumber(n, name); ok || i != 0 {
			t.Error("no line", name, i, ok)
		}
	}
}

func TestLinesAt(t *testing.T) {
	for stop, want := range [][]int{{0, 2}, {0}, {0, 1}, {1, 2}, {}, {2}, {}} {
		if l, ok := impl.LinesAt(town2(), stop); !ok || !slices.Equal(l, want) {
			t.Error("stop", stop, l, ok)
		}
	}
	full := impl.Network{Stops: stops2(2), Lines: lines2(impl.MaxLines)}
	if l, ok := impl.LinesAt(full, 1); !ok || !slices.Equal(l, []int{0, 1, 2, 3, 4}) {
		t.Error("all lines", l, ok)
	}
}

func TestRunTime(t *testing.T) {
	n := town2()
	n.Lines = append(n.Lines, impl.Line{Name: "long", Stops: []int{6, 2, 4, 0, 1, 3}, Runs: []int{60, 1, 2, 40, 8}})
	want := map[[3]int]int{
		{0, 0, 1}: 5, {0, 0, 2}: 12, {0, 1, 2}: 7,
		{1, 2, 3}: 60,
		{2, 5, 3}: 1, {2, 5, 0}: 31, {2, 3, 0}: 30,
		{3, 6, 2}: 60, {3, 6, 4}: 61, {3, 6, 0}: 63, {3, 6, 1}: 103, {3, 6, 3}: 111,
		{3, 2, 4}: 1, {3, 2, 0}: 3, {3, 2, 1}: 43, {3, 2, 3}: 51,
		{3, 4, 0}: 2, {3, 4, 1}: 42, {3, 4, 3}: 50, {3, 0, 1}: 40, {3, 0, 3}: 48, {3, 1, 3}: 8,
	}
	// All other pairs are against the direction, of one stop twice, or not served.
	for line := range 4 {
		for from := range 7 {
			for to := range 7 {
				minutes, served := want[[3]int{line, from, to}]
				if m, ok := impl.RunTime(n, line, from, to); ok != served || m != minutes {
					t.Error("line", line, "from", from, "to", to, m, ok)
				}
			}
		}
	}
}

func TestReverseLine(t *testing.T) {
	want := town2()
	want.Lines = append(want.Lines, impl.Line{Name: "b1", Stops: []int{2, 1, 0}, Runs: []int{7, 5}})
	n, ok := impl.ReverseLine(town2(), 0, "b1")
	if !ok || !reflect.DeepEqual(n, want) {
		t.Error("reversed", n, ok)
	}
	// The same again, from the line that was reversed, with the name of a stop.
	want.Lines = append(want.Lines, impl.Line{Name: "port", Stops: []int{0, 1, 2}, Runs: []int{5, 7}})
	n, ok = impl.ReverseLine(n, 3, "port")
	if !ok || !reflect.DeepEqual(n, want) {
		t.Error("reversed twice", n, ok)
	}
	if n, ok = impl.ReverseLine(n, 1, "late"); ok || len(n.Stops) != 0 || len(n.Lines) != 0 {
		t.Error("reversed with MaxLines lines", n, ok)
	}
}

func TestReverseLineRejectsNames(t *testing.T) {
	for _, name := range []string{"", "l1", "r1", "x9", "B1", "1b", "b 1", "b-1", "b1\n", "abcdefghi", "é", strings.Repeat("b", 1000000)} {
		for line := range 3 {
			if n, ok := impl.ReverseLine(town2(), line, name); ok || len(n.Stops) != 0 || len(n.Lines) != 0 {
				t.Errorf("line %d reversed as %.10q", line, name)
			}
		}
	}
	for _, name := range []string{"b", "abcdefgh", "l", "l11", "sea"} {
		if _, ok := impl.ReverseLine(town2(), 0, name); !ok {
			t.Errorf("not reversed as %q", name)
		}
	}
}

func TestReverseLineUpToMaxLines(t *testing.T) {
	for count := 1; count <= impl.MaxLines; count++ {
		n := impl.Network{Stops: stops2(2), Lines: lines2(count)}
		r, ok := impl.ReverseLine(n, count-1, "back")
		if ok != (count < impl.MaxLines) || ok && len(r.Lines) != count+1 || !ok && len(r.Lines) != 0 {
			t.Error("reversed with", count, "lines", r, ok)
		}
	}
}

// random2 returns numbers that look random and are always the same.
type random2 uint32

func (r *random2) below(n int) int {
	*r = *r*1664525 + 1013904223
	return int(*r>>8) % n
}

// shuffled2 returns the first stops of a random order of this number of stops.
func (r *random2) shuffled2(stops int, first int) []int {
	var list []int
	for stop := range stops {
		list = slices.Insert(list, r.below(len(list)+1), stop)
	}
	return list[:first]
}

// network2 returns a random valid network.
func (r *random2) network2() impl.Network {
	n := impl.Network{Stops: stops2(2 + r.below(impl.MaxStops-1))}
	for i := range 1 + r.below(impl.MaxLines) {
		count := 2 + r.below(min(6, len(n.Stops))-1)
		l := impl.Line{Name: "l" + strconv.Itoa(i), Stops: r.shuffled2(len(n.Stops), count)}
		for range count - 1 {
			l.Runs = append(l.Runs, 1+r.below(impl.MaxRun))
		}
		n.Lines = append(n.Lines, l)
	}
	return n
}

// Promise 2.
func TestReversedLineTakesTheSameTimeInTheOtherDirection(t *testing.T) {
	r := random2(2)
	for range 400 {
		n := r.network2()
		for line := range n.Lines {
			back, ok := impl.ReverseLine(n, line, "back")
			if ok != (len(n.Lines) < impl.MaxLines) {
				t.Fatal("reversed", n, line, ok)
			}
			if ok {
				compareDirections2(t, n, line, back)
			}
		}
	}
}

// compareDirections2 compares a line of n with its reversed line, the last one of back.
func compareDirections2(t *testing.T, n impl.Network, line int, back impl.Network) {
	t.Helper()
	last := len(n.Lines)
	if len(back.Lines) != last+1 || !slices.Equal(back.Stops, n.Stops) || !reflect.DeepEqual(back.Lines[:last], n.Lines) {
		t.Fatal("the rest has changed", n, back)
	}
	served := 0
	for from := range n.Stops {
		for to := range n.Stops {
			there, ok := impl.RunTime(n, line, from, to)
			again, fine := impl.RunTime(back, last, to, from)
			if ok != fine || there != again {
				t.Fatal("line", line, "of", n, "from", from, "to", to, there, ok, again, fine)
			}
			if ok {
				served++
			}
		}
	}
	if k := len(n.Lines[line].Stops); served != k*(k-1)/2 {
		t.Fatal("line", line, "of", n, "serves", served, "pairs")
	}
}

func TestReachableStopsAndFewestLinesOfTown(t *testing.T) {
	no := -1
	for from, row := range [][]int{
		{0, 1, 1, 2, no, no, no},
		{3, 0, 1, 2, no, no, no},
		{2, 3, 0, 1, no, no, no},
		{1, 2, 2, 0, no, no, no},
		{no, no, no, no, 0, no, no},
		{1, 2, 2, 1, no, 0, no},
		{no, no, no, no, no, no, 0},
	} {
		compareRides2(t, town2(), from, row)
	}
}

// compareRides2 compares the rides from a stop to all stops with the given ones, -1 for no way.
func compareRides2(t *testing.T, n impl.Network, from int, rides []int) {
	t.Helper()
	var want []int
	for to, k := range rides {
		if k >= 0 {
			want = append(want, to)
		}
		if got, ok := impl.FewestLines(n, from, to); ok != (k >= 0) || got != max(k, 0) {
			t.Fatal("rides in", n, "from", from, "to", to, got, ok)
		}
	}
	if l, ok := impl.ReachableStops(n, from); !ok || !slices.Equal(l, want) {
		t.Fatal("reachable in", n, "from", from, l, ok)
	}
}

// Line l1 leads from stop 0 to 1 and from 2 to 3, and only line l2 from 1 to 2.
func TestLineThatIsTakenAgainCountsAgain(t *testing.T) {
	n := impl.Network{Stops: stops2(4), Lines: []impl.Line{
		{Name: "l1", Stops: []int{2, 3, 0, 1}, Runs: []int{1, 1, 1}},
		{Name: "l2", Stops: []int{1, 2}, Runs: []int{1}},
	}}
	compareRides2(t, n, 0, []int{0, 1, 2, 3})
	compareRides2(t, n, 1, []int{2, 0, 1, 2})
}

// One line after the other, each a single stop further.
func TestFewestLinesOfAChain(t *testing.T) {
	n := impl.Network{Stops: stops2(6)}
	for i := range impl.MaxLines {
		n.Lines = append(n.Lines, line2("l"+strconv.Itoa(4-i), 4-i, 5-i))
	}
	compareRides2(t, n, 0, []int{0, 1, 2, 3, 4, 5})
	compareRides2(t, n, 3, []int{-1, -1, -1, 0, 1, 2})
	compareRides2(t, n, 5, []int{-1, -1, -1, -1, -1, 0})
	// A line that goes farther is better than several that run less.
	n.Lines[0] = impl.Line{Name: "fast", Stops: []int{1, 2, 3, 4, 5}, Runs: []int{60, 60, 60, 60}}
	compareRides2(t, n, 0, []int{0, 1, 2, 2, 2, 2})
}

// rides2 returns the fewest rides between all stops, -1 for no way, from single rides that are
// put together until nothing changes.
func rides2(n impl.Network) [][]int {
	table := make([][]int, len(n.Stops))
	for from := range table {
		table[from] = slices.Repeat([]int{-1}, len(n.Stops))
		table[from][from] = 0
	}
	for range n.Stops {
		for from := range table {
			for _, l := range n.Lines {
				for i, middle := range l.Stops {
					for _, to := range l.Stops[i+1:] {
						k := table[from][middle]
						if k >= 0 && (table[from][to] < 0 || table[from][to] > k+1) {
							table[from][to] = k + 1
						}
					}
				}
			}
		}
	}
	return table
}

func TestRidesOfRandomNetworks(t *testing.T) {
	r := random2(7)
	for range 400 {
		n := r.network2()
		for from, row := range rides2(n) {
			compareRides2(t, n, from, row)
		}
	}
}

func TestTerminalStops(t *testing.T) {
	for _, c := range []struct {
		lines [][]int
		want  []int
	}{
		{[][]int{{0, 1, 2}, {2, 3}, {5, 3, 0}}, []int{0, 2, 3, 5}},
		{[][]int{{0, 1, 2}}, []int{0, 2}},
		{[][]int{{2, 1, 0}, {0, 1, 2}}, []int{0, 2}},
		{[][]int{{6, 5}, {5, 4}, {3, 4}}, []int{3, 4, 5, 6}},
		{[][]int{{6, 5, 4, 3, 2, 1}}, []int{1, 6}},
		{[][]int{{7, 3, 0}, {3, 1}, {6, 2}, {5, 4}, {0, 7}}, []int{0, 1, 2, 3, 4, 5, 6, 7}},
	} {
		n := impl.Network{Stops: stops2(impl.MaxStops)}
		for i, stops := range c.lines {
			n.Lines = append(n.Lines, impl.Line{Name: "l" + strconv.Itoa(i), Stops: stops, Runs: slices.Repeat([]int{1}, len(stops)-1)})
		}
		if l, ok := impl.TerminalStops(n); !ok || !slices.Equal(l, c.want) {
			t.Error("terminals of", c.lines, l, ok)
		}
	}
}

// callAll2 calls every function of the chapter and changes everything that the results hold.
func callAll2(n impl.Network) {
	impl.IsValidNetwork(n)
	impl.StopNumber(n, "port")
	impl.LineNumber(n, "r1")
	for stop := range n.Stops {
		lines, _ := impl.LinesAt(n, stop)
		fill2(lines)
		stops, _ := impl.ReachableStops(n, stop)
		fill2(stops)
		for to := range n.Stops {
			impl.FewestLines(n, stop, to)
			impl.RunTime(n, 0, stop, to)
		}
	}
	terminals, _ := impl.TerminalStops(n)
	fill2(terminals)
	for line := range n.Lines {
		r, _ := impl.ReverseLine(n, line, "back")
		for i := range r.Stops {
			r.Stops[i] = "changed"
		}
		for _, l := range r.Lines {
			fill2(l.Stops)
			fill2(l.Runs)
		}
		clear(r.Lines)
	}
}

// fill2 changes the list and what may lie beyond its end.
func fill2(list []int) {
	list = list[:cap(list)]
	for i := range list {
		list[i] = -99
	}
}

func TestNetworksAreNotModified(t *testing.T) {
	r := random2(5)
	networks := []impl.Network{town2()}
	for range 50 {
		networks = append(networks, r.network2())
	}
	for _, n := range networks {
		roomy := roomy2(n)
		before := wide2(roomy)
		callAll2(roomy)
		if after := wide2(roomy); !reflect.DeepEqual(after, before) {
			t.Fatal("an argument was", before, "and is", after)
		}
	}
}

// roomy2 returns a copy of n in which every slice has an element beyond its end.
func roomy2(n impl.Network) impl.Network {
	result := clone2(n)
	result.Stops = append(result.Stops, "beyond")[:len(n.Stops)]
	for i, l := range n.Lines {
		result.Lines[i].Stops = append(result.Lines[i].Stops, 77)[:len(l.Stops)]
		result.Lines[i].Runs = append(result.Lines[i].Runs, 88)[:len(l.Runs)]
	}
	result.Lines = append(result.Lines, impl.Line{Name: "beyond"})[:len(n.Lines)]
	return result
}

// wide2 returns a copy of a network of roomy2 together with the elements beyond the ends.
func wide2(n impl.Network) impl.Network {
	wide := impl.Network{Stops: n.Stops[:len(n.Stops)+1], Lines: slices.Clone(n.Lines[:len(n.Lines)+1])}
	for i, l := range n.Lines {
		wide.Lines[i].Stops = l.Stops[:len(l.Stops)+1]
		wide.Lines[i].Runs = l.Runs[:len(l.Runs)+1]
	}
	return clone2(wide)
}

func TestReverseLineSharesNoMemoryAmongItsLines(t *testing.T) {
	r, ok := impl.ReverseLine(town2(), 1, "back")
	if !ok {
		t.Fatal("not reversed")
	}
	want := clone2(r)
	for i := range r.Lines {
		fill2(r.Lines[i].Stops)
		fill2(r.Lines[i].Runs)
		for j := i + 1; j < len(r.Lines); j++ {
			if !reflect.DeepEqual(r.Lines[j], want.Lines[j]) {
				t.Error("lines", i, "and", j, "share memory")
			}
		}
	}
}
