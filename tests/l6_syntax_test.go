package tests

import (
	"reflect"
	"strconv"
	"strings"
	"testing"

	"loop.example/g00900/impl"
)

const network6 = "stop port\nstop mill\nstop park\nline l1 port 5 mill 7 park\nline r1 park 60 port\n"

func TestParseTimetable(t *testing.T) {
	n := impl.Network{Stops: []string{"port", "mill", "park"}, Lines: []impl.Line{
		{Name: "l1", Stops: []int{0, 1, 2}, Runs: []int{5, 7}},
		{Name: "r1", Stops: []int{2, 0}, Runs: []int{60}},
	}}
	for trips, want := range map[string][]impl.Trip{
		"":                                     nil,
		"trip 1 l1 06:00\n":                    {{Id: 1, Line: 0, Start: 360}},
		"trip 1 r1 00:00\ntrip 999 l1 29:47\n": {{Id: 1, Line: 1, Start: 0}, {Id: 999, Line: 0, Start: 1787}},
		"trip 7 l1 09:59\ntrip 8 l1 09:59\ntrip 10 r1 28:59\n": {{Id: 7, Line: 0, Start: 599}, {Id: 8, Line: 0, Start: 599}, {Id: 10, Line: 1, Start: 1739}},
	} {
		x, ok := impl.ParseTimetable(network6 + trips)
		if !ok || !reflect.DeepEqual(x, impl.Timetable{Network: n, Trips: want}) {
			t.Errorf("%q is %v, %v", trips, x, ok)
		}
	}
}

func TestParseTimetableLimits(t *testing.T) {
	text := network6
	for id := 1; id <= impl.MaxTrips+1; id++ {
		text += "trip " + strconv.Itoa(id) + " l1 12:00\n"
		x, ok := impl.ParseTimetable(text)
		if fits := id <= impl.MaxTrips; ok != fits || fits && len(x.Trips) != id || !fits && !reflect.DeepEqual(x, impl.Timetable{}) {
			t.Error(id, "trips", x, ok)
		}
	}
}

func TestParseTimetableRejects(t *testing.T) {
	for _, s := range []string{
		"", "\n", " ", "stop port\nstop mill\n", "line l1 port 5 mill\n",
		network6 + "\n", "\n" + network6, strings.TrimSuffix(network6, "\n"), network6 + "trip 1 l1 06:00",
		network6 + " ", network6 + "trip 1 l1 06:00\r\n", network6 + "x\n", network6 + "change 1\n",
		// Words.
		network6 + "trip\n", network6 + "trip 1\n", network6 + "trip 1 l1\n", network6 + "trip 1 l1 06:00 \n",
		network6 + "trip  1 l1 06:00\n", network6 + " trip 1 l1 06:00\n", network6 + "trip 1 l1 06:00 07:00\n",
		network6 + "Trip 1 l1 06:00\n", network6 + "trip 1 l1 06:00\n\n",
		// Trips.
		network6 + "trip 0 l1 06:00\n", network6 + "trip 1000 l1 06:00\n", network6 + "trip -1 l1 06:00\n",
		network6 + "trip 01 l1 06:00\n", network6 + "trip +1 l1 06:00\n", network6 + "trip x l1 06:00\n",
		network6 + "trip 1 l2 06:00\n", network6 + "trip 1 port 06:00\n", network6 + "trip 1  06:00\n",
		network6 + "trip 1 l1 06:00\ntrip 1 l1 07:00\n", network6 + "trip 2 l1 06:00\ntrip 1 l1 07:00\n",
		network6 + "trip 1 l1 29:48\n", network6 + "trip 1 r1 29:00\n", network6 + "trip 1 l1 29:59\n",
		// Times.
		network6 + "trip 1 l1 6:00\n", network6 + "trip 1 l1 006:00\n", network6 + "trip 1 l1 06:60\n",
		network6 + "trip 1 l1 06:0\n", network6 + "trip 1 l1 0600\n", network6 + "trip 1 l1 06.00\n",
		network6 + "trip 1 l1 30:00\n", network6 + "trip 1 l1 99:59\n", network6 + "trip 1 l1 -1:00\n",
		network6 + "trip 1 l1 06:-1\n", network6 + "trip 1 l1 0/:00\n", network6 + "trip 1 l1 0::00\n",
		// The order of the text lines.
		network6 + "stop quay\n", network6 + "trip 1 l1 06:00\nline l2 port 5 mill\n", network6 + "trip 1 l1 06:00\nstop quay\n",
		"trip 1 l1 06:00\n" + network6, "line l1 port 5 mill\nstop port\nstop mill\n",
		// Networks.
		"stop port\nstop port\nline l1 port 5 port\n", "stop port\nline l1 port 5 port\n", "stop Port\nstop mill\nline l1 Port 5 mill\n",
		"stop port x\nstop mill\nline l1 port 5 mill\n", "stop\nstop mill\nline l1 port 5 mill\n", "stop \nstop mill\nline l1 mill 5 mill\n",
		"stop port\nstop mill\nline\n", "stop port\nstop mill\nline l1\n", "stop port\nstop mill\nline l1 port\n",
		"stop port\nstop mill\nline l1 port 5\n", "stop port\nstop mill\nline l1 port mill\n", "stop port\nstop mill\nline l1 port 5 quay\n",
		"stop port\nstop mill\nline l1 port 05 mill\n", "stop port\nstop mill\nline l1 port 0 mill\n", "stop port\nstop mill\nline l1 port 61 mill\n",
		"stop port\nstop mill\nline l1 port x mill\n", "stop port\nstop mill\nline l1 port 5 mill 5 port\n",
		"stop port\nstop mill\nline l1 port 5 mill\nline l1 mill 5 port\n",
		strings.Repeat("stop port\n", impl.MaxString/10), network6 + strings.Repeat(" ", impl.MaxString), strings.Repeat("\n", 100000),
	} {
		if x, ok := impl.ParseTimetable(s); ok || !reflect.DeepEqual(x, impl.Timetable{}) {
			t.Errorf("%.80q is %v, %v", s, x, ok)
		}
	}
}
