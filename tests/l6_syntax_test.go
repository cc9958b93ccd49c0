package tests

import (
	"fmt"
	"math"
	"reflect"
	"regexp"
	"slices"
	"strconv"
	"strings"
	"testing"

	"loop.example/g00900/impl"
)

const network6 = "stop port\nstop mill\nstop park\nline l1 port 5 mill 7 park\nline r1 park 60 port\n"

// town6 is the text of town2, and day6 that of day5.
const town6 = "stop port\nstop mill\nstop park\nstop dock\nstop sea\nstop hill\nstop moor\n" +
	"line l1 port 5 mill 7 park\nline r1 park 60 dock\nline x9 hill 1 dock 30 port\n"
const day6 = town6 + "line n1 mill 2 port 3 hill\n" +
	"trip 2 l1 06:00\ntrip 5 r1 23:20\ntrip 6 l1 05:48\ntrip 40 x9 23:59\ntrip 41 l1 06:00\ntrip 700 x9 29:28\ntrip 998 l1 25:00\n"

// words6 has words of text lines as names.
const words6 = "stop stop\nstop trip\nstop line\nline line line 1 stop 2 trip\nline stop stop 10 line\nline trip trip 59 stop\n" +
	"trip 1 trip 09:10\ntrip 2 line 10:09\ntrip 3 stop 19:50\n"

// text6 writes the text of a network or of a timetable word by word.
func text6(t impl.Timetable) string {
	s := ""
	for _, name := range t.Network.Stops {
		s += fmt.Sprintf("stop %s\n", name)
	}
	for _, l := range t.Network.Lines {
		s += fmt.Sprintf("line %s", l.Name)
		for i, stop := range l.Stops {
			if i > 0 {
				s += fmt.Sprintf(" %d", l.Runs[i-1])
			}
			s += fmt.Sprintf(" %s", t.Network.Stops[stop])
		}
		s += "\n"
	}
	for _, x := range t.Trips {
		s += fmt.Sprintf("trip %d %s %02d:%02d\n", x.Id, t.Network.Lines[x.Line].Name, x.Start/60, x.Start%60)
	}
	return s
}

var stop6 = regexp.MustCompile(`^stop ([a-z][a-z0-9]{0,7})$`)
var line6 = regexp.MustCompile(`^line ([a-z][a-z0-9]{0,7}) ([a-z][a-z0-9]{0,7}(?: (?:[1-9]|[1-5][0-9]|60) [a-z][a-z0-9]{0,7}){1,5})$`)
var trip6 = regexp.MustCompile(`^trip ([1-9][0-9]{0,2}) ([a-z][a-z0-9]{0,7}) ([0-2][0-9]):([0-5][0-9])$`)

// read6 reads a text by the rules of the document, part by part and with nothing of the program.
func read6(s string) (impl.Timetable, bool) {
	var t impl.Timetable
	if !strings.HasSuffix(s, "\n") {
		return impl.Timetable{}, false
	}
	lines := strings.Split(strings.TrimSuffix(s, "\n"), "\n")
	for len(lines) > 0 && stop6.MatchString(lines[0]) {
		name := stop6.FindStringSubmatch(lines[0])[1]
		if slices.Contains(t.Network.Stops, name) {
			return impl.Timetable{}, false
		}
		t.Network.Stops, lines = append(t.Network.Stops, name), lines[1:]
	}
	for len(lines) > 0 && line6.MatchString(lines[0]) {
		l, ok := readLine6(t.Network, line6.FindStringSubmatch(lines[0]))
		if !ok {
			return impl.Timetable{}, false
		}
		t.Network.Lines, lines = append(t.Network.Lines, l), lines[1:]
	}
	for len(lines) > 0 && trip6.MatchString(lines[0]) {
		x, ok := readTrip6(t, trip6.FindStringSubmatch(lines[0]))
		if !ok {
			return impl.Timetable{}, false
		}
		t.Trips, lines = append(t.Trips, x), lines[1:]
	}
	stops, count := len(t.Network.Stops), len(t.Network.Lines)
	if len(lines) > 0 || stops < 2 || stops > 8 || count < 1 || count > 5 || len(t.Trips) > 12 {
		return impl.Timetable{}, false
	}
	return t, true
}

func readLine6(n impl.Network, parts []string) (impl.Line, bool) {
	l := impl.Line{Name: parts[1]}
	for _, other := range n.Lines {
		if other.Name == l.Name {
			return impl.Line{}, false
		}
	}
	for _, word := range strings.Split(parts[2], " ") {
		if run, err := strconv.Atoi(word); err == nil {
			l.Runs = append(l.Runs, run)
			continue
		}
		stop := slices.Index(n.Stops, word)
		if stop < 0 || slices.Contains(l.Stops, stop) {
			return impl.Line{}, false
		}
		l.Stops = append(l.Stops, stop)
	}
	return l, true
}

func readTrip6(t impl.Timetable, parts []string) (impl.Trip, bool) {
	id, _ := strconv.Atoi(parts[1])
	hours, _ := strconv.Atoi(parts[3])
	minutes, _ := strconv.Atoi(parts[4])
	end := 60*hours + minutes
	line := slices.IndexFunc(t.Network.Lines, func(l impl.Line) bool { return l.Name == parts[2] })
	if line < 0 || len(t.Trips) > 0 && t.Trips[len(t.Trips)-1].Id >= id {
		return impl.Trip{}, false
	}
	for _, run := range t.Network.Lines[line].Runs {
		end += run
	}
	return impl.Trip{Id: id, Line: line, Start: 60*hours + minutes}, end <= 1799
}

// check6 compares both parsing functions with read6, and what is parsed with its text.
func check6(t *testing.T, s string) {
	t.Helper()
	want, wantOk := read6(s)
	x, ok := impl.ParseTimetable(s)
	if ok != wantOk || !same5(x, want) {
		t.Fatalf("the timetable of %.900q is %v, %v", s, x, ok)
	}
	if again, fine := impl.FormatTimetable(x); fine != ok || ok && again != s {
		t.Fatalf("the timetable of %.900q has the text %q", s, again)
	}
	if len(want.Trips) > 0 {
		want, wantOk = impl.Timetable{}, false
	}
	n, ok := impl.ParseNetwork(s)
	if ok != wantOk || !same5(impl.Timetable{Network: n}, want) {
		t.Fatalf("the network of %.900q is %v, %v", s, n, ok)
	}
	if again, fine := impl.FormatNetwork(n); fine != ok || ok && again != s {
		t.Fatalf("the network of %.900q has the text %q", s, again)
	}
}

// largest6 is a timetable with the most stops, lines, stops of a line and trips, the longest
// names and the greatest numbers; no text is longer than its.
func largest6() impl.Timetable {
	var t impl.Timetable
	for i := range impl.MaxStops {
		t.Network.Stops = append(t.Network.Stops, fmt.Sprintf("stop%04d", i))
	}
	for i := range impl.MaxLines {
		l := impl.Line{Name: fmt.Sprintf("line%04d", i), Stops: []int{7, 5, 3, 2, 1, 0}, Runs: []int{60, 59, 58, 57, 56}}
		t.Network.Lines = append(t.Network.Lines, l)
	}
	for i := range impl.MaxTrips {
		t.Trips = append(t.Trips, impl.Trip{Id: impl.MaxId - impl.MaxTrips + 1 + i, Line: i % impl.MaxLines, Start: 1509 - i})
	}
	return t
}

// smallest6 is a timetable with the fewest stops, lines and trips and the shortest names.
func smallest6() impl.Timetable {
	return impl.Timetable{Network: impl.Network{Stops: []string{"a", "b"}, Lines: []impl.Line{{Name: "a", Stops: []int{1, 0}, Runs: []int{1}}}}}
}

// samples6 are timetables at the limits, and random ones.
func samples6(count int) []impl.Timetable {
	return append(many5(count), largest6(), smallest6(), with5([]impl.Trip{}...))
}

func TestFormatNetwork(t *testing.T) {
	for _, c := range []struct {
		n    impl.Network
		want string
	}{
		{town2(), town6},
		{smallest6().Network, "stop a\nstop b\nline a b 1 a\n"},
		{impl.Network{Stops: []string{"z9", "port", "a1234567"}, Lines: []impl.Line{{Name: "port", Stops: []int{2, 0}, Runs: []int{60}}}},
			"stop z9\nstop port\nstop a1234567\nline port a1234567 60 z9\n"},
		{impl.Network{Stops: stops2(impl.MaxStops), Lines: lines2(impl.MaxLines)},
			"stop a0\nstop a1\nstop a2\nstop a3\nstop a4\nstop a5\nstop a6\nstop a7\n" +
				"line l0 a0 1 a1\nline l1 a0 1 a1\nline l2 a0 1 a1\nline l3 a0 1 a1\nline l4 a0 1 a1\n"},
		{impl.Network{Stops: stops2(6), Lines: []impl.Line{line2("long", 0, 5)}},
			"stop a0\nstop a1\nstop a2\nstop a3\nstop a4\nstop a5\nline long a0 1 a1 2 a2 3 a3 4 a4 5 a5\n"},
	} {
		if s, ok := impl.FormatNetwork(c.n); !ok || s != c.want {
			t.Errorf("the text of %v is %q, %v", c.n, s, ok)
		}
		if n, ok := impl.ParseNetwork(c.want); !ok || !reflect.DeepEqual(n, c.n) {
			t.Errorf("the network of %q is %v, %v", c.want, n, ok)
		}
	}
}

func TestFormatTimetable(t *testing.T) {
	for want, x := range map[string]impl.Timetable{
		day6:                                   day5(),
		town6:                                  {Network: town2()},
		"stop a\nstop b\nline a b 1 a\n":       smallest6(),
		town6 + "line n1 mill 2 port 3 hill\n": with5(),
		town6 + "trip 1 r1 00:00\n":            {Network: town2(), Trips: []impl.Trip{{Id: 1, Line: 1}}},
		town6 + "trip 999 x9 29:28\n":          {Network: town2(), Trips: []impl.Trip{{Id: 999, Line: 2, Start: 1768}}},
		town6 + "trip 10 r1 00:09\ntrip 99 l1 10:00\ntrip 100 r1 24:00\n": {Network: town2(), Trips: []impl.Trip{
			{Id: 10, Line: 1, Start: 9}, {Id: 99, Line: 0, Start: 600}, {Id: 100, Line: 1, Start: 1440}}},
	} {
		if s, ok := impl.FormatTimetable(x); !ok || s != want {
			t.Errorf("the text of %v is %q, %v", x, s, ok)
		}
		if back, ok := impl.ParseTimetable(want); !ok || !same5(back, x) {
			t.Errorf("the timetable of %q is %v, %v", want, back, ok)
		}
	}
}

func TestTextOfInvalidNetworks(t *testing.T) {
	for _, c := range validities2() {
		s, ok := impl.FormatNetwork(c.n)
		if ok != c.valid || !c.valid && s != "" {
			t.Errorf("%s: the text is %.900q, %v", c.about, s, ok)
		}
		if c.valid && s != text6(impl.Timetable{Network: c.n}) {
			t.Errorf("%s: the text is %q", c.about, s)
		}
	}
}

func TestTextOfInvalidTimetables(t *testing.T) {
	for _, c := range validities5() {
		s, ok := impl.FormatTimetable(c.t)
		if ok != c.valid || !c.valid && s != "" {
			t.Errorf("%s: the text is %.900q, %v", c.about, s, ok)
		}
		if c.valid && s != text6(c.t) {
			t.Errorf("%s: the text is %q", c.about, s)
		}
		if c.valid {
			continue
		}
		if l, ok := impl.LineTable(c.t, 0); ok || len(l) != 0 {
			t.Error(c.about, "LineTable", l, ok)
		}
		ids := []int{1, 777}
		for _, x := range c.t.Trips {
			ids = append(ids, x.Id)
		}
		for _, id := range ids {
			if s, ok := impl.TripText(c.t, id); ok || s != "" {
				t.Error(c.about, "TripText", id, s, ok)
			}
		}
		for _, pair := range [][2]impl.Timetable{{c.t, day5()}, {day5(), c.t}, {c.t, c.t}, {c.t, {}}, {{}, c.t}} {
			if same, ok := impl.SameText(pair[0], pair[1]); ok || same {
				t.Error(c.about, "SameText", same, ok)
			}
		}
	}
}

// Promise 6.
func TestTimetablesAreRecoveredFromTheirTexts(t *testing.T) {
	for _, x := range samples6(500) {
		s, ok := impl.FormatTimetable(x)
		if !ok || s != text6(x) {
			t.Fatalf("the text of %v is %q, %v", x, s, ok)
		}
		if back, ok := impl.ParseTimetable(s); !ok || !same5(back, x) {
			t.Fatalf("the timetable of %q is %v, %v", s, back, ok)
		}
		ofNetwork, ok := impl.FormatNetwork(x.Network)
		if !ok || ofNetwork != text6(impl.Timetable{Network: x.Network}) {
			t.Fatalf("the text of %v is %q, %v", x.Network, ofNetwork, ok)
		}
		if n, ok := impl.ParseNetwork(ofNetwork); !ok || !same5(impl.Timetable{Network: n}, impl.Timetable{Network: x.Network}) {
			t.Fatalf("the network of %q is %v, %v", ofNetwork, n, ok)
		}
		check6(t, s)
		check6(t, ofNetwork)
	}
}

func TestParseTimetable(t *testing.T) {
	n := impl.Network{Stops: []string{"port", "mill", "park"}, Lines: []impl.Line{
		{Name: "l1", Stops: []int{0, 1, 2}, Runs: []int{5, 7}},
		{Name: "r1", Stops: []int{2, 0}, Runs: []int{60}},
	}}
	for trips, want := range map[string][]impl.Trip{
		"":                                     nil,
		"trip 1 l1 06:00\n":                    {{Id: 1, Line: 0, Start: 360}},
		"trip 1 r1 00:00\ntrip 999 l1 29:47\n": {{Id: 1, Line: 1, Start: 0}, {Id: 999, Line: 0, Start: 1787}},
		"trip 7 l1 09:59\ntrip 8 l1 09:59\ntrip 10 r1 28:59\n": {{Id: 7, Line: 0, Start: 599}, {Id: 8, Line: 0, Start: 599}, {Id: 10, Line: 1, Start: 1739}},
	} {
		x, ok := impl.ParseTimetable(network6 + trips)
		if !ok || !same5(x, impl.Timetable{Network: n, Trips: want}) {
			t.Errorf("%q is %v, %v", trips, x, ok)
		}
		// The text of a timetable without trips is that of its network.
		m, ok := impl.ParseNetwork(network6 + trips)
		if want := trips == ""; ok != want || want && !reflect.DeepEqual(m, n) || !want && !reflect.DeepEqual(m, impl.Network{}) {
			t.Errorf("the network of %q is %v, %v", trips, m, ok)
		}
	}
}

func TestParseWordsAsNames(t *testing.T) {
	want := impl.Timetable{Network: impl.Network{Stops: []string{"stop", "trip", "line"}, Lines: []impl.Line{
		{Name: "line", Stops: []int{2, 0, 1}, Runs: []int{1, 2}},
		{Name: "stop", Stops: []int{0, 2}, Runs: []int{10}},
		{Name: "trip", Stops: []int{1, 0}, Runs: []int{59}},
	}}, Trips: []impl.Trip{{Id: 1, Line: 2, Start: 550}, {Id: 2, Line: 0, Start: 609}, {Id: 3, Line: 1, Start: 1190}}}
	if x, ok := impl.ParseTimetable(words6); !ok || !same5(x, want) {
		t.Errorf("%q is %v, %v", words6, x, ok)
	}
	if s, ok := impl.FormatTimetable(want); !ok || s != words6 {
		t.Errorf("%q is %q, %v", words6, s, ok)
	}
}

func TestParseUpToTheLimits(t *testing.T) {
	text := network6
	for id := 1; id <= impl.MaxTrips+3; id++ {
		text += "trip " + strconv.Itoa(id) + " l1 12:00\n"
		x, ok := impl.ParseTimetable(text)
		if fits := id <= impl.MaxTrips; ok != fits || fits && len(x.Trips) != id || !fits && !isZero5(x) {
			t.Error(id, "trips", x, ok)
		}
	}
	for count := range impl.MaxStops + 3 {
		text := ""
		for _, name := range stops2(count) {
			text += "stop " + name + "\n"
		}
		n, ok := impl.ParseNetwork(text + "line l a1 60 a0\n")
		if fits := count >= 2 && count <= impl.MaxStops; ok != fits || len(n.Stops) != count && fits || len(n.Stops) != 0 && !fits {
			t.Error(count, "stops", n, ok)
		}
	}
	text = "stop a\nstop b\n"
	for count := range impl.MaxLines + 3 {
		n, ok := impl.ParseNetwork(text)
		if fits := count >= 1 && count <= impl.MaxLines; ok != fits || len(n.Lines) != count && fits || len(n.Lines) != 0 && !fits {
			t.Error(count, "lines", n, ok)
		}
		text += "line l" + strconv.Itoa(count) + " b 1 a\n"
	}
	text, way := "stop a\nstop b\nstop c\nstop d\nstop e\nstop f\nstop g\nstop h\n", "line l"
	for i, words := range []string{" a", " 1 b", " 60 c", " 9 d", " 10 e", " 59 f", " 2 g", " 3 h"} {
		way += words
		n, ok := impl.ParseNetwork(text + way + "\n")
		if fits := i >= 1 && i <= 5; ok != fits || fits && len(n.Lines[0].Stops) != i+1 || len(n.Lines) != 0 && !fits {
			t.Error(i+1, "stops of a line", n, ok)
		}
	}
}

func TestParseLongTexts(t *testing.T) {
	longest := text6(largest6())
	if x, ok := impl.ParseTimetable(longest); !ok || !same5(x, largest6()) || len(longest) != 815 {
		t.Error("the longest text of", len(longest), "bytes is", x, ok)
	}
	for size := impl.MaxString - 2; size <= impl.MaxString+2; size++ {
		for _, s := range []string{
			longest + strings.Repeat("\n", size-len(longest)),
			longest + strings.Repeat(" ", size-len(longest)-1) + "\n",
			strings.Repeat("\n", size-len(longest)) + longest,
			strings.Repeat(" ", size-len(longest)) + longest,
			longest + strings.Repeat("x", size-len(longest)-1) + "\n",
			strings.Repeat(network6, 100)[:size],
			"stop " + strings.Repeat("a", size-6) + "\n",
			strings.Replace(network6, " 5 ", strings.Repeat(" ", size-len(network6)+1)+"5 ", 1),
			strings.Replace(network6, " 5 ", " "+strings.Repeat("0", size-len(network6))+"5 ", 1),
		} {
			if len(s) != size {
				t.Fatal("a text of", len(s), "bytes and not of", size)
			}
			check6(t, s)
		}
	}
	check6(t, strings.Repeat("\n", 1000000))
	check6(t, strings.Repeat("stop port\n", 100000))
	check6(t, network6+strings.Repeat(" ", 1000000)+"\n")
	check6(t, network6+strings.Repeat("trip 1 l1 06:00\n", 100000))
}

// noTexts6 are texts that have something wrong with their text lines.
var noTexts6 = []string{
	"", "\n", " ", "\x00", "stop", "stop\n", "line\n", "trip\n", "stop port\nstop mill\n", "line l1 port 5 mill\n", "trip 1 l1 06:00\n",
	// Newlines.
	network6 + "\n", "\n" + network6, strings.TrimSuffix(network6, "\n"), network6 + "trip 1 l1 06:00", strings.Replace(network6, "\n", "\n\n", 1),
	strings.Replace(network6, "\nline", "\n\nline", 1), network6 + "\ntrip 1 l1 06:00\n", network6 + "trip 1 l1 06:00\n\n",
	network6 + " ", network6 + "trip 1 l1 06:00\r\n", strings.ReplaceAll(network6, "\n", "\r\n"), strings.ReplaceAll(network6, "\n", " "), network6 + "\x00",
	// First words.
	network6 + "x\n", network6 + "change 1\n", "net\n" + network6, network6 + "Trip 1 l1 06:00\n", network6 + "trips 1 l1 06:00\n", network6 + "tri 1 l1 06:00\n",
	strings.Replace(network6, "stop", "halt", 1), strings.Replace(network6, "line", "Line", 1), strings.Replace(network6, "line", "stop", 1), strings.Replace(network6, "stop", "line", 1),
	strings.Replace(network6, "stop", "stops", 1), strings.Replace(network6, "stop port", "port", 1), network6 + "1 l1 06:00\n",
	// Spaces.
	" " + network6, strings.ReplaceAll(network6, "\n", " \n"), strings.ReplaceAll(network6, "\n", "\n "), strings.Replace(network6, "stop ", "stop  ", 1),
	strings.Replace(network6, " 5 ", "  5 ", 1), strings.Replace(network6, " 5 ", " 5  ", 1), strings.Replace(network6, "l1 ", "l1  ", 1), strings.Replace(network6, " l1", "  l1", 1),
	strings.Replace(network6, " 5 ", "\t5 ", 1), strings.Replace(network6, " 5 ", "\u00a05 ", 1), strings.Replace(network6, "stop ", "stop\t", 1), strings.Replace(network6, "stop ", "stop", 1),
	strings.Replace(network6, "park\nline", "park \nline", 1), strings.Replace(network6, "\nline", "\n line", 1), strings.Replace(network6, "mill\n", "mill \n", 1),
	network6 + "trip 1 l1 06:00 \n", network6 + "trip  1 l1 06:00\n", network6 + "trip 1  l1 06:00\n", network6 + "trip 1 l1  06:00\n", network6 + " trip 1 l1 06:00\n",
	// Missing and further words.
	network6 + "trip\n", network6 + "trip 1\n", network6 + "trip 1 l1\n", network6 + "trip 1 06:00\n", network6 + "trip l1 06:00\n",
	network6 + "trip 1 l1 06:00 07:00\n", network6 + "trip 1 l1 06:00 x\n", network6 + "trip 1 2 l1 06:00\n", network6 + "trip 1  06:00\n", network6 + "trip  l1 06:00\n", network6 + "trip 1 l1 \n",
	"stop port x\nstop mill\nline l1 port 5 mill\n", "stop\nstop mill\nline l1 port 5 mill\n", "stop \nstop mill\nline l1 mill 5 mill\n", "stop port mill\nline l1 port 5 mill\n",
	"stop port\nstop mill\nline\n", "stop port\nstop mill\nline \n", "stop port\nstop mill\nline l1\n", "stop port\nstop mill\nline l1 \n", "stop port\nstop mill\nline l1 port\n",
	"stop port\nstop mill\nline l1 port 5\n", "stop port\nstop mill\nline l1 port 5 \n", "stop port\nstop mill\nline l1 port mill\n", "stop port\nstop mill\nline port 5 mill\n",
	"stop port\nstop mill\nline l1 5 mill\n", "stop port\nstop mill\nline l1 5 port 5 mill\n", "stop port\nstop mill\nline l1 port 5 5 mill\n",
	"stop port\nstop mill\nline l1 port 5 mill 5\n", "stop port\nstop mill\nline l1 port 5 mill x\n",
}

// noValues6 are texts with the right words in every text line that are texts of nothing valid.
var noValues6 = []string{
	// The order of the text lines.
	network6 + "stop quay\n", network6 + "stop quay\nline l2 quay 5 mill\n", "line l1 port 5 mill\nstop port\nstop mill\n", "stop port\nline l1 port 5 mill\nstop mill\n",
	network6 + "trip 1 l1 06:00\nline l2 port 5 mill\n", network6 + "trip 1 l1 06:00\nstop quay\n", "trip 1 l1 06:00\n" + network6,
	"stop port\nstop mill\ntrip 1 l1 06:00\nline l1 port 5 mill\n", network6 + "trip 1 l2 06:00\nline l2 port 5 mill\n", network6 + network6,
	// Twice.
	"stop port\nstop port\nline l1 port 5 port\n", "stop port\n" + network6, "stop mill\n" + network6, strings.Replace(network6, "line", "stop port\nline", 1),
	"stop port\nstop mill\nline l1 port 5 mill\nline l1 mill 5 port\n", "stop port\nstop mill\nline l1 port 5 mill\nline l1 port 5 mill\n",
	network6 + "line l1 port 5 mill 7 park\n", network6 + "line r1 port 5 mill\n",
	network6 + "trip 1 l1 06:00\ntrip 1 l1 06:00\n", network6 + "trip 1 l1 06:00\ntrip 1 r1 07:00\n",
	"stop port\nstop mill\nline l1 port 5 mill 5 port\n", "stop port\nstop mill\nline l1 port 5 port\n",
	// Names.
	"stop Port\nstop mill\nline l1 Port 5 mill\n", "stop 9\nstop mill\nline l1 9 5 mill\n", "stop po-rt\nstop mill\nline l1 po-rt 5 mill\n", "stop abcdefghi\nstop mill\nline l1 abcdefghi 5 mill\n",
	"stop pört\nstop mill\nline l1 pört 5 mill\n", "stop port\nstop mill\nline L1 port 5 mill\n", "stop port\nstop mill\nline 1 port 5 mill\n", "stop port\nstop mill\nline abcdefghi port 5 mill\n",
	"stop port\nstop mill\nline l: port 5 mill\n", "stop port\nstop mill\nline l\x00 port 5 mill\n", "stop \nstop mill\nline l1  5 mill\n", "stop port\nstop mill\nline  port 5 mill\n",
	// Names that do not exist.
	"stop port\nstop mill\nline l1 port 5 quay\n", "stop port\nstop mill\nline l1 quay 5 mill\n", "stop port\nstop mill\nline l1 port 5 l1\n", "stop port\nstop mill\nline l1 port 5 quay 5 mill\n",
	"stop port\nstop mill\nline l1 port 5 Mill\n", "stop port\nstop mill\nline l1 port 5 mil\n", "stop port\nstop mill\nline l1 port 5 mills\n", "stop port\nstop mill\nline l1 0 5 1\n",
	network6 + "trip 1 l2 06:00\n", network6 + "trip 1 port 06:00\n", network6 + "trip 1 0 06:00\n",
	network6 + "trip 1 L1 06:00\n", network6 + "trip 1 l 06:00\n", network6 + "trip 1 l11 06:00\n", network6 + "trip 1 -1 06:00\n",
	// Ids in another order.
	network6 + "trip 2 l1 06:00\ntrip 1 l1 07:00\n", network6 + "trip 1 l1 06:00\ntrip 3 l1 06:00\ntrip 2 l1 07:00\n",
	network6 + "trip 999 l1 06:00\ntrip 998 l1 06:00\n", network6 + "trip 10 l1 06:00\ntrip 9 l1 06:00\n",
	// The arrival at the last stop is no time.
	network6 + "trip 1 l1 29:48\n", network6 + "trip 1 r1 29:00\n", network6 + "trip 1 l1 29:59\n", network6 + "trip 1 l1 06:00\ntrip 2 r1 29:00\n",
	// Too few stops and lines.
	"stop port\nline l1 port 5 port\n", "stop port\nline l1 port 5 mill\n", "stop port\n", "stop port\nstop mill\ntrip 1 l1 06:00\n", "line l1 port 5 mill\ntrip 1 l1 06:00\n",
}

func TestParseRejects(t *testing.T) {
	for _, s := range slices.Concat(noTexts6, noValues6) {
		if x, ok := impl.ParseTimetable(s); ok || !reflect.DeepEqual(x, impl.Timetable{}) {
			t.Errorf("the timetable of %q is %v, %v", s, x, ok)
		}
		if n, ok := impl.ParseNetwork(s); ok || !reflect.DeepEqual(n, impl.Network{}) {
			t.Errorf("the network of %q is %v, %v", s, n, ok)
		}
	}
}

// numbers6 are words that are no numbers of the document or greater than any run time and Id.
var numbers6 = []string{
	"0", "-0", "+0", "00", "-1", "-5", "+1", "+5", "01", "05", "005", "0000000000005", "5.0", "5.", "0x5", "5e0", "0b1", "5_0", "1,0", "five", "x", "5x", "x5", "5\x00", "٥", "５",
	"1000", "1001", "9999", "999999", "1000000", "4294967297", "18446744073709551617", "18446744073709551621", "9223372036854775807", "9223372036854775808", "-9223372036854775808",
	strings.Repeat("9", 1000), "1" + strings.Repeat("0", 64), "5\r", "\t5", "5\t", "\u00a05",
}

func TestParseRejectsNumbers(t *testing.T) {
	for _, word := range numbers6 {
		check := func(s string) {
			t.Helper()
			if x, ok := impl.ParseTimetable(s); ok || !isZero5(x) {
				t.Errorf("%.200q is %v, %v", s, x, ok)
			}
			if n, ok := impl.ParseNetwork(s); ok || !isZero5(impl.Timetable{Network: n}) {
				t.Errorf("the network of %.200q is %v, %v", s, n, ok)
			}
		}
		check(strings.Replace(network6, " 5 ", " "+word+" ", 1))
		check(strings.Replace(network6, " 7 ", " "+word+" ", 1))
		check(strings.Replace(network6, " 60 ", " "+word+" ", 1))
		check(network6 + "trip " + word + " l1 06:00\n")
		check(network6 + "trip 1 l1 06:00\ntrip " + word + " l1 06:00\n")
		check(network6 + "trip " + word + " l1 06:00\ntrip 999 l1 06:00\n")
	}
	for run := -5; run <= 1100; run++ {
		check6(t, strings.Replace(network6, " 5 ", " "+strconv.Itoa(run)+" ", 1))
		check6(t, network6+"trip "+strconv.Itoa(run)+" r1 10:00\n")
		check6(t, network6+"trip 400 r1 10:00\ntrip "+strconv.Itoa(run)+" r1 10:00\n")
	}
}

func TestParseRejectsTimes(t *testing.T) {
	for _, word := range []string{
		"6:00", "006:00", "06:60", "06:99", "06:0", "06:000", "0600", "06.00", "06-00", "06:00:00", ":", "06:", ":00", "6", "360", "06", "0 6:00",
		"30:00", "30:01", "31:00", "99:59", "99:99", "-1:00", "06:-1", "+6:00", "06:+0", "0/:00", "0::00", "06:0/", "06:0:", "0x:00", "06h00", "６:00", "06:00\r", "06:00\x00",
	} {
		for _, s := range []string{network6 + "trip 1 l1 " + word + "\n", network6 + "trip 1 l1 00:00\ntrip 2 l1 " + word + "\n"} {
			if x, ok := impl.ParseTimetable(s); ok || !isZero5(x) {
				t.Errorf("%q is %v, %v", s, x, ok)
			}
		}
	}
	for hours := range 32 {
		for minutes := range 62 {
			check6(t, network6+fmt.Sprintf("trip 3 l1 %02d:%02d\n", hours, minutes))
			check6(t, network6+fmt.Sprintf("trip 3 r1 %02d:%02d\n", hours, minutes))
		}
	}
}

func TestParseTextsWithChangedBytes(t *testing.T) {
	for _, s := range []string{network6 + "trip 9 l1 06:00\ntrip 59 r1 28:59\n", words6, text6(smallest6())} {
		for i := range len(s) + 1 {
			check6(t, s[:i])
			check6(t, s[i:])
			for b := range 256 {
				check6(t, s[:i]+string([]byte{byte(b)})+s[i:])
				if i < len(s) {
					check6(t, s[:i]+string([]byte{byte(b)})+s[i+1:])
				}
			}
			for j := i; j < min(len(s), i+20); j++ {
				check6(t, s[:i]+s[j:])
			}
		}
	}
}

// changed6 returns a text with some of its pieces, which end with a separator, moved, left out,
// said twice or exchanged.
func (r *random2) changed6(s string, separator string) string {
	pieces := strings.SplitAfter(s, separator)
	for range 1 + r.below(2) {
		i, j := r.below(len(pieces)), r.below(len(pieces))
		switch r.below(4) {
		case 0:
			pieces[i], pieces[j] = pieces[j], pieces[i]
		case 1:
			pieces = slices.Insert(pieces, i, pieces[j])
		case 2:
			pieces[i] = pieces[j]
		case 3:
			pieces[i] = ""
		}
	}
	return strings.Join(pieces, "")
}

func TestParseTextsWithChangedWords(t *testing.T) {
	r := random2(6)
	accepted := 0
	for _, x := range samples6(400) {
		s := text6(x)
		for range 25 {
			for _, changed := range []string{r.changed6(s, "\n"), r.changed6(s, " ")} {
				check6(t, changed)
				if _, ok := read6(changed); ok && changed != s {
					accepted++
				}
			}
		}
	}
	if accepted < 1000 {
		t.Error("only", accepted, "changed texts were accepted")
	}
}

func TestParseAnyWords(t *testing.T) {
	words := []string{"stop", "stop a", "stop b", "line", "line l", "line l a 1 b", "line m b 1 a", "trip",
		"trip 1 l 06:00", "trip 2 m 06:00", "a", "b", "l", "1", "60", "06:00", "", " ", "\n", "x", "\xff"}
	r := random2(66)
	for range 20000 {
		s := ""
		for range r.below(8) {
			s += words[r.below(len(words))] + []string{" ", "\n", "\n", "\n", ""}[r.below(5)]
		}
		check6(t, s)
	}
}

func TestLineTable(t *testing.T) {
	for line, want := range [][]string{
		// Trip 6 starts ahead of trip 2, and trip 41 together with it.
		{"port 05:48 06:00 06:00 25:00", "mill 05:53 06:05 06:05 25:05", "park 06:00 06:12 06:12 25:12"},
		{"park 23:20", "dock 24:20"},
		// One trip goes across midnight, the other one is at its last stop at MaxTime.
		{"hill 23:59 29:28", "dock 24:00 29:29", "port 24:30 29:59"},
		{"mill", "port", "hill"},
	} {
		if l, ok := impl.LineTable(day5(), line); !ok || !slices.Equal(l, want) {
			t.Errorf("the table of line %d is %q, %v", line, l, ok)
		}
	}
	for line, want := range [][]string{{"port", "mill", "park"}, {"park", "dock"}, {"hill", "dock", "port"}, {"mill", "port", "hill"}} {
		if l, ok := impl.LineTable(with5(), line); !ok || !slices.Equal(l, want) {
			t.Errorf("without trips, the table of line %d is %q, %v", line, l, ok)
		}
	}
	full := []string{
		"port 01:29 01:30 01:31 01:32 01:33 01:34 01:35 01:36 01:37 01:38 01:39 01:40",
		"mill 01:34 01:35 01:36 01:37 01:38 01:39 01:40 01:41 01:42 01:43 01:44 01:45",
		"park 01:41 01:42 01:43 01:44 01:45 01:46 01:47 01:48 01:49 01:50 01:51 01:52",
	}
	if l, ok := impl.LineTable(with5(trips5(impl.MaxTrips)...), 0); !ok || !slices.Equal(l, full) {
		t.Errorf("the table of %d trips is %q, %v", impl.MaxTrips, l, ok)
	}
	for _, x := range []impl.Timetable{day5(), with5()} {
		for _, line := range noLines5 {
			if l, ok := impl.LineTable(x, line); ok || len(l) != 0 {
				t.Error("the table of line", line, "is", l, ok)
			}
		}
	}
}

func TestLineTableOfRandomTimetables(t *testing.T) {
	for _, x := range samples6(300) {
		for line, l := range x.Network.Lines {
			// In the order of their Ids, the trips are sorted by Start and stay in order on ties.
			trips := slices.DeleteFunc(slices.Clone(x.Trips), func(x impl.Trip) bool { return x.Line != line })
			slices.SortStableFunc(trips, func(a impl.Trip, b impl.Trip) int { return a.Start - b.Start })
			var want []string
			for place, stop := range l.Stops {
				row := x.Network.Stops[stop]
				for _, trip := range trips {
					at := stopTimes5(x.Network, trip)[place]
					row += fmt.Sprintf(" %02d:%02d", at/60, at%60)
				}
				want = append(want, row)
			}
			if table, ok := impl.LineTable(x, line); !ok || !slices.Equal(table, want) {
				t.Fatalf("the table of line %d of %v is %q, %v", line, x, table, ok)
			}
		}
	}
}

func TestTripText(t *testing.T) {
	// The example of the document.
	n := impl.Network{Stops: []string{"port", "mill"}, Lines: []impl.Line{{Name: "l1", Stops: []int{0, 1}, Runs: []int{5}}}}
	if s, ok := impl.TripText(impl.Timetable{Network: n, Trips: []impl.Trip{{Id: 7, Start: 360}}}, 7); !ok || s != "l1: port 06:00 mill 06:05" {
		t.Errorf("the example is %q, %v", s, ok)
	}
	for id, want := range map[int]string{
		2: "l1: port 06:00 mill 06:05 park 06:12", 5: "r1: park 23:20 dock 24:20", 6: "l1: port 05:48 mill 05:53 park 06:00",
		40: "x9: hill 23:59 dock 24:00 port 24:30", 41: "l1: port 06:00 mill 06:05 park 06:12",
		700: "x9: hill 29:28 dock 29:29 port 29:59", 998: "l1: port 25:00 mill 25:05 park 25:12",
	} {
		if s, ok := impl.TripText(day5(), id); !ok || s != want {
			t.Errorf("the text of trip %d is %q, %v", id, s, ok)
		}
	}
	want := "line0000: stop0007 24:59 stop0005 25:59 stop0003 26:58 stop0002 27:56 stop0001 28:53 stop0000 29:49"
	if s, ok := impl.TripText(largest6(), 998); !ok || s != want {
		t.Errorf("a long text is %q, %v", s, ok)
	}
	for _, x := range []impl.Timetable{day5(), with5(), with5(trips5(impl.MaxTrips)...)} {
		for _, id := range append([]int{13, 14, 39, 42, 699, 701, 997, 999}, noIds5...) {
			if s, ok := impl.TripText(x, id); ok || s != "" {
				t.Errorf("the text of trip %d is %q, %v", id, s, ok)
			}
		}
	}
}

func TestTripTextOfRandomTimetables(t *testing.T) {
	for _, x := range samples6(300) {
		for _, trip := range x.Trips {
			l := x.Network.Lines[trip.Line]
			want := l.Name + ":"
			for place, at := range stopTimes5(x.Network, trip) {
				want += fmt.Sprintf(" %s %02d:%02d", x.Network.Stops[l.Stops[place]], at/60, at%60)
			}
			if s, ok := impl.TripText(x, trip.Id); !ok || s != want {
				t.Fatalf("the text of trip %d of %v is %q, %v", trip.Id, x, s, ok)
			}
		}
	}
}

// others6 are timetables that differ from day5 in one field alone, and from each other.
func others6() map[string]impl.Timetable {
	list := map[string]impl.Timetable{}
	add := func(about string, change func(t *impl.Timetable)) {
		t := day5()
		change(&t)
		list[about] = t
	}
	stops := func(stops ...int) []int { return stops }
	add("the name of a stop", func(t *impl.Timetable) { t.Network.Stops[0] = "ports" })
	add("the name of a stop that no line serves", func(t *impl.Timetable) { t.Network.Stops[6] = "moors" })
	add("the names of two stops", func(t *impl.Timetable) { t.Network.Stops[4], t.Network.Stops[6] = "moor", "sea" })
	add("a further stop", func(t *impl.Timetable) { t.Network.Stops = append(t.Network.Stops, "quay") })
	add("a stop less", func(t *impl.Timetable) { t.Network.Stops = t.Network.Stops[:6] })
	add("the name of a line", func(t *impl.Timetable) { t.Network.Lines[0].Name = "l2" })
	add("the name of a line without trips", func(t *impl.Timetable) { t.Network.Lines[3].Name = "n2" })
	add("the order of the stops of a line", func(t *impl.Timetable) { t.Network.Lines[0].Stops = stops(1, 0, 2) })
	add("a stop of a line", func(t *impl.Timetable) { t.Network.Lines[1].Stops[1] = 4 })
	add("a run time", func(t *impl.Timetable) { t.Network.Lines[0].Runs[1] = 8 })
	add("the last run time of the last line", func(t *impl.Timetable) { t.Network.Lines[3].Runs[1] = 2 })
	add("the order of the run times", func(t *impl.Timetable) { t.Network.Lines[0].Runs = []int{7, 5} })
	add("a stop of a line more", func(t *impl.Timetable) {
		t.Network.Lines[0].Stops, t.Network.Lines[0].Runs = stops(0, 1, 2, 6), []int{5, 7, 1}
	})
	add("a further line", func(t *impl.Timetable) { t.Network.Lines = append(t.Network.Lines, line2("l5", 0, 1)) })
	add("a line less", func(t *impl.Timetable) { t.Network.Lines = t.Network.Lines[:3] })
	add("an Id", func(t *impl.Timetable) { t.Trips[0].Id = 1 })
	add("the last Id", func(t *impl.Timetable) { t.Trips[6].Id = 999 })
	add("the line of a trip", func(t *impl.Timetable) { t.Trips[3].Line = 3 })
	add("a Start", func(t *impl.Timetable) { t.Trips[2].Start = 349 })
	add("a Start by a day", func(t *impl.Timetable) { t.Trips[0].Start = 1440 })
	add("the last Start", func(t *impl.Timetable) { t.Trips[6].Start = 1499 })
	add("a further trip", func(t *impl.Timetable) { t.Trips = append(t.Trips, impl.Trip{Id: 999, Start: 360}) })
	add("a trip less", func(t *impl.Timetable) { t.Trips = t.Trips[:6] })
	add("no trips", func(t *impl.Timetable) { t.Trips = nil })
	return list
}

// checkSame6 compares two timetables both ways.
func checkSame6(t *testing.T, about string, a impl.Timetable, b impl.Timetable, want bool, wantOk bool) {
	t.Helper()
	for _, pair := range [][2]impl.Timetable{{a, b}, {b, a}} {
		if same, ok := impl.SameText(pair[0], pair[1]); same != want || ok != wantOk {
			t.Error(about, same, ok)
		}
	}
}

func TestSameText(t *testing.T) {
	checkSame6(t, "equal", day5(), day5(), true, true)
	checkSame6(t, "nil and empty", with5(), with5([]impl.Trip{}...), true, true)
	for about, x := range others6() {
		if !impl.IsValidTimetable(x) {
			t.Fatal(about, "makes the timetable invalid")
		}
		checkSame6(t, about, x, day5(), false, true)
		checkSame6(t, about, x, clone5(x), true, true)
		for other, y := range others6() {
			checkSame6(t, about+" and "+other, x, y, about == other, true)
		}
	}
	// The trips begin at the same minutes, but on other lines of the network.
	exchanged := day5()
	exchanged.Network.Lines[0], exchanged.Network.Lines[1] = exchanged.Network.Lines[1], exchanged.Network.Lines[0]
	for i := range exchanged.Trips {
		if exchanged.Trips[i].Line < 2 {
			exchanged.Trips[i].Line = 1 - exchanged.Trips[i].Line
		}
	}
	checkSame6(t, "another order of lines", exchanged, day5(), false, true)
}

func TestSameTextOfInvalidTimetables(t *testing.T) {
	for about, change := range map[string]func(t *impl.Timetable){
		"a stop":     func(t *impl.Timetable) { t.Network.Stops[6] = "Moor" },
		"no lines":   func(t *impl.Timetable) { t.Network.Lines, t.Trips = nil, nil },
		"a run time": func(t *impl.Timetable) { t.Network.Lines[3].Runs[0] = 61 },
		"an Id":      func(t *impl.Timetable) { t.Trips[6].Id = 1000 },
		"a line":     func(t *impl.Timetable) { t.Trips[6].Line = 4 },
		"a Start":    func(t *impl.Timetable) { t.Trips[6].Start = math.MinInt },
		"all":        func(t *impl.Timetable) { *t = impl.Timetable{} },
	} {
		x := day5()
		change(&x)
		checkSame6(t, about, x, day5(), false, false)
		checkSame6(t, about, x, x, false, false)
		checkSame6(t, about, x, impl.Timetable{}, false, false)
	}
}

func TestSameTextOfRandomTimetables(t *testing.T) {
	list := append(samples6(60), samples6(10)...)
	for _, a := range list {
		for _, b := range list {
			if same, ok := impl.SameText(a, b); !ok || same != same5(a, b) {
				t.Fatal(a, "and", b, "are the same:", same, ok)
			}
		}
	}
}

// callAll6 calls every function of the chapter and changes everything that the results hold.
func callAll6(t impl.Timetable) {
	ofNetwork, _ := impl.FormatNetwork(t.Network)
	n, _ := impl.ParseNetwork(ofNetwork)
	spoil5(impl.Timetable{Network: n})
	text, _ := impl.FormatTimetable(t)
	x, _ := impl.ParseTimetable(text)
	spoil5(x)
	for line := range t.Network.Lines {
		table, _ := impl.LineTable(t, line)
		clear(table[:cap(table)])
	}
	for _, x := range t.Trips {
		impl.TripText(t, x.Id)
	}
	impl.SameText(t, t)
}

func TestTextsDoNotModifyTimetables(t *testing.T) {
	for _, x := range samples6(60) {
		roomy := roomy5(x)
		before := wide5(roomy)
		callAll6(roomy)
		if after := wide5(roomy); !reflect.DeepEqual(after, before) {
			t.Fatal("an argument was", before, "and is", after)
		}
		if s, ok := impl.FormatTimetable(roomy); !ok || s != text6(x) {
			t.Fatalf("what is beyond the ends is in the text of %v, %q, %v", x, s, ok)
		}
		checkSame6(t, "what is beyond the ends", roomy, x, true, true)
		for line := range x.Network.Lines {
			table, _ := impl.LineTable(roomy, line)
			if want, ok := impl.LineTable(x, line); !ok || !slices.Equal(table, want) {
				t.Fatalf("what is beyond the ends is in the table %q of %v", table, x)
			}
		}
	}
}

func TestParsedTimetablesHaveNewMemory(t *testing.T) {
	for _, x := range samples6(60) {
		s := text6(x)
		first, _ := impl.ParseTimetable(s)
		second, _ := impl.ParseTimetable(s)
		n, _ := impl.ParseNetwork(text6(impl.Timetable{Network: x.Network}))
		spoil5(first)
		if !same5(second, x) || !same5(impl.Timetable{Network: n}, impl.Timetable{Network: x.Network}) {
			t.Fatal("two results share memory", second, n)
		}
		for line, l := range second.Network.Lines {
			fill2(l.Stops)
			if !slices.Equal(l.Runs, x.Network.Lines[line].Runs) {
				t.Fatal("stops and runs share memory", x, line)
			}
			fill2(l.Runs)
			for other := line + 1; other < len(x.Network.Lines); other++ {
				if !reflect.DeepEqual(second.Network.Lines[other], x.Network.Lines[other]) {
					t.Fatal("lines", line, "and", other, "share memory", x)
				}
			}
		}
		if !slices.Equal(second.Trips, x.Trips) || !slices.Equal(second.Network.Stops, x.Network.Stops) {
			t.Fatal("lines share memory with trips or stops", x)
		}
	}
}

func TestLineTableHasNewMemory(t *testing.T) {
	first, _ := impl.LineTable(day5(), 1)
	second, _ := impl.LineTable(day5(), 1)
	clear(first)
	if !slices.Equal(second, []string{"park 23:20", "dock 24:20"}) {
		t.Error("LineTable shares memory", second)
	}
}
