package tests

import (
	"math"
	"math/bits"
	"slices"
	"strconv"
	"strings"
	"testing"

	"loop.example/g00900/impl"
)

// office3 runs on Mondays to Fridays; day 5 is a Saturday and day 7 a Monday.
func office3() impl.Calendar {
	return impl.Calendar{From: 0, To: 20, Weekdays: 31, Added: []int{5}, Removed: []int{7}}
}

// full3 has as many exceptions of both kinds as it may have, with one of each kind at its bounds.
func full3() impl.Calendar {
	return impl.Calendar{
		From: 1, To: 60, Weekdays: 85,
		Added:   []int{1, 3, 5, 8, 10, 12, 15, 17},
		Removed: []int{2, 4, 6, 7, 9, 11, 13, 60},
	}
}

// same3 reports whether two calendars are equal; it does not tell nil lists from empty ones.
func same3(a impl.Calendar, b impl.Calendar) bool {
	return a.From == b.From && a.To == b.To && a.Weekdays == b.Weekdays && slices.Equal(a.Added, b.Added) && slices.Equal(a.Removed, b.Removed)
}

func isZero3(c impl.Calendar) bool {
	return same3(c, impl.Calendar{})
}

// clone3 returns a calendar that shares nothing with c.
func clone3(c impl.Calendar) impl.Calendar {
	c.Added, c.Removed = slices.Clone(c.Added), slices.Clone(c.Removed)
	return c
}

// daySet3 tells for every day whether it is in a set of days.
type daySet3 [impl.MaxDay + 1]bool

// days3 returns the days on which the valid calendar c runs, by weekdays first and then by exceptions.
func days3(c impl.Calendar) daySet3 {
	var days daySet3
	for day := c.From; day <= c.To; day++ {
		days[day] = c.Weekdays&(1<<(day%7)) != 0
	}
	for _, day := range c.Added {
		days[day] = true
	}
	for _, day := range c.Removed {
		days[day] = false
	}
	return days
}

// list returns the days of a set in ascending order.
func (s daySet3) list() []int {
	var list []int
	for day, in := range s {
		if in {
			list = append(list, day)
		}
	}
	return list
}

// samples3 are valid calendars.
func samples3() []impl.Calendar {
	list := []impl.Calendar{
		{}, office3(), full3(),
		{From: 0, To: 0, Weekdays: 1}, {From: 0, To: 0, Weekdays: 126}, {From: 0, To: 0, Added: []int{0}},
		{From: 0, To: 0, Weekdays: 127, Removed: []int{0}},
		{From: impl.MaxDay, To: impl.MaxDay, Weekdays: 127}, {From: impl.MaxDay, To: impl.MaxDay, Added: []int{impl.MaxDay}},
		{From: 0, To: impl.MaxDay, Weekdays: 127}, {From: 0, To: impl.MaxDay}, {From: 0, To: impl.MaxDay, Weekdays: 64},
		{From: 0, To: impl.MaxDay, Weekdays: 31, Added: []int{5, 3646}, Removed: []int{0, impl.MaxDay}},
		{From: 2, To: 4, Weekdays: 99}, {From: 2, To: 4, Weekdays: 127, Removed: []int{2, 3, 4}}, {From: 2, To: 4, Added: []int{2, 3, 4}},
		{From: 100, To: 3600, Weekdays: 1}, {From: 9, To: 10, Weekdays: 127},
	}
	r := random2(3)
	for range 40 {
		list = append(list, r.calendar3())
	}
	return list
}

// calendar3 returns a random valid calendar.
func (r *random2) calendar3() impl.Calendar {
	from := r.below(40)
	c := impl.Calendar{From: from, To: from + r.below(60), Weekdays: r.below(128)}
	for day := c.From; day <= c.To; day++ {
		if r.below(4) > 0 {
			continue
		}
		if c.Weekdays>>(day%7)&1 == 1 && len(c.Removed) < impl.MaxExceptions {
			c.Removed = append(c.Removed, day)
		}
		if c.Weekdays>>(day%7)&1 == 0 && len(c.Added) < impl.MaxExceptions {
			c.Added = append(c.Added, day)
		}
	}
	return c
}

// everyDay3 returns the days from first to last, step days apart.
func everyDay3(first int, last int, step int) []int {
	var list []int
	for day := first; day <= last; day += step {
		list = append(list, day)
	}
	return list
}

// invalid3 is a calendar that is not valid.
type invalid3 struct {
	about string
	c     impl.Calendar
}

func invalids3() []invalid3 {
	return slices.Concat(wrongBounds3(), wrongLists3(), wrongEffects3())
}

func wrongBounds3() []invalid3 {
	list := []invalid3{
		{"To before From", impl.Calendar{From: 8, To: 7, Weekdays: 127}},
		{"To long before From", impl.Calendar{From: impl.MaxDay, To: 0, Weekdays: 127}},
	}
	for _, day := range []int{-1, -2, -7, impl.MaxDay + 1, impl.MaxDay + 7, math.MaxInt, math.MinInt} {
		about := strconv.Itoa(day)
		list = append(list,
			invalid3{"From and To " + about, impl.Calendar{From: day, To: day, Weekdays: 127}},
			invalid3{"From " + about, impl.Calendar{From: day, To: 20, Weekdays: 127}},
			invalid3{"To " + about, impl.Calendar{From: 5, To: day, Weekdays: 127}},
			invalid3{"From 0 and To " + about, impl.Calendar{From: 0, To: day, Weekdays: 127}})
	}
	for _, weekdays := range []int{-1, -2, -128, 128, 129, 255, 128 + 31, math.MaxInt, math.MinInt} {
		list = append(list, invalid3{"Weekdays " + strconv.Itoa(weekdays), impl.Calendar{From: 0, To: 20, Weekdays: weekdays}})
	}
	return list
}

func wrongLists3() []invalid3 {
	var list []invalid3
	for _, days := range [][]int{
		{9}, {31}, {9, 15}, {15, 31}, {-1}, {0}, {impl.MaxDay}, {impl.MaxDay + 1}, {math.MinInt}, {math.MaxInt}, {20, math.MaxInt}, {math.MinInt, 20},
		{15, 15}, {15, 16, 16}, {16, 15}, {10, 20, 19}, {20, 30, 10}, {10, 12, 11, 13},
		everyDay3(10, 18, 1), everyDay3(10, 30, 2), everyDay3(10, 30, 1), make([]int, 100000), slices.Repeat([]int{10}, 9),
	} {
		about := strconv.Itoa(len(days)) + " days from " + strconv.Itoa(days[0])
		list = append(list,
			invalid3{"Added " + about, impl.Calendar{From: 10, To: 30, Added: days}},
			invalid3{"Removed " + about, impl.Calendar{From: 10, To: 30, Weekdays: 127, Removed: days}})
	}
	return append(list,
		invalid3{"one Added day too many", impl.Calendar{From: 0, To: 99, Weekdays: 31, Added: []int{5, 6, 12, 13, 19, 20, 26, 27, 33}}},
		invalid3{"one Removed day too many", impl.Calendar{From: 0, To: 99, Weekdays: 31, Removed: []int{0, 1, 2, 3, 4, 7, 8, 9, 10}}})
}

func wrongEffects3() []invalid3 {
	var list []invalid3
	for day := range 21 {
		c := impl.Calendar{From: 0, To: 20, Weekdays: 31}
		if day%7 < 5 {
			c.Added = []int{day}
		} else {
			c.Removed = []int{day}
		}
		list = append(list, invalid3{"an exception of no effect on day " + strconv.Itoa(day), c})
	}
	return append(list,
		invalid3{"a day Added and Removed", impl.Calendar{From: 0, To: 20, Weekdays: 31, Added: []int{5}, Removed: []int{5}}},
		invalid3{"a day Removed and Added", impl.Calendar{From: 0, To: 20, Weekdays: 31, Added: []int{7}, Removed: []int{7}}},
		invalid3{"a last Added day of no effect", impl.Calendar{From: 0, To: 20, Weekdays: 31, Added: []int{5, 6, 7}}},
		invalid3{"a last Removed day of no effect", impl.Calendar{From: 0, To: 20, Weekdays: 31, Removed: []int{3, 4, 5}}})
}

func TestIsValidCalendar(t *testing.T) {
	for _, c := range samples3() {
		if !impl.IsValidCalendar(c) {
			t.Errorf("%v is not valid", c)
		}
	}
	for weekdays := range 128 {
		if !impl.IsValidCalendar(impl.Calendar{From: 3, To: 3, Weekdays: weekdays}) {
			t.Error("Weekdays", weekdays, "are not valid")
		}
	}
	for _, x := range invalids3() {
		if impl.IsValidCalendar(x.c) {
			t.Error("valid with", x.about)
		}
	}
}

func TestIsValidCalendarUpToMaxExceptions(t *testing.T) {
	days := everyDay3(10, 30, 2)
	for count := range days {
		added := impl.Calendar{From: 10, To: 30, Added: days[:count]}
		removed := impl.Calendar{From: 10, To: 30, Weekdays: 127, Removed: days[:count]}
		if valid := count <= impl.MaxExceptions; impl.IsValidCalendar(added) != valid || impl.IsValidCalendar(removed) != valid {
			t.Error(count, "exceptions of one kind")
		}
	}
}

func TestInvalidCalendarsGiveZeroValues(t *testing.T) {
	for _, x := range invalids3() {
		for _, day := range []int{0, 5, 7, 10, 15, 20} {
			if yes, ok := impl.RunsOn(x.c, day); yes || ok {
				t.Error(x.about, "RunsOn", yes, ok)
			}
			if next, ok := impl.NextRun(x.c, day); ok || next != 0 {
				t.Error(x.about, "NextRun", next, ok)
			}
			for _, runs := range []bool{false, true} {
				if c, ok := impl.ExceptDay(x.c, day, runs); ok || !isZero3(c) {
					t.Error(x.about, "ExceptDay", c, ok)
				}
			}
		}
		if n, ok := impl.CountDays(x.c); ok || n != 0 {
			t.Error(x.about, "CountDays", n, ok)
		}
		if l, ok := impl.CommonDays(x.c, office3()); ok || len(l) != 0 {
			t.Error(x.about, "CommonDays", l, ok)
		}
		if l, ok := impl.CommonDays(office3(), x.c); ok || len(l) != 0 {
			t.Error(x.about, "CommonDays", l, ok)
		}
		if s, ok := impl.FormatCalendar(x.c); ok || s != "" {
			t.Error(x.about, "FormatCalendar", s, ok)
		}
	}
}

func TestNumbersThatAreNoDays(t *testing.T) {
	c := impl.Calendar{From: 0, To: impl.MaxDay, Weekdays: 127}
	for _, day := range []int{-1, -2, -7, impl.MaxDay + 1, impl.MaxDay + 2, math.MaxInt, math.MinInt, math.MaxInt32 + 1} {
		if yes, ok := impl.RunsOn(c, day); yes || ok {
			t.Error("RunsOn", day, yes, ok)
		}
		if next, ok := impl.NextRun(c, day); ok || next != 0 {
			t.Error("NextRun", day, next, ok)
		}
		for _, runs := range []bool{false, true} {
			if x, ok := impl.ExceptDay(c, day, runs); ok || !isZero3(x) {
				t.Error("ExceptDay", day, runs, x, ok)
			}
		}
	}
}

func TestWeekdaysBeginWithMonday(t *testing.T) {
	for weekday := range 7 {
		c := impl.Calendar{From: 0, To: 30, Weekdays: 1 << weekday}
		for day := range 31 {
			if yes, ok := impl.RunsOn(c, day); !ok || yes != (day%7 == weekday) {
				t.Error("weekday", weekday, "on day", day, yes, ok)
			}
		}
	}
}

func TestRunsOn(t *testing.T) {
	for _, c := range samples3() {
		days := days3(c)
		for day := range impl.MaxDay + 1 {
			if yes, ok := impl.RunsOn(c, day); !ok || yes != days[day] {
				t.Errorf("%v on day %d: %v, %v", c, day, yes, ok)
			}
		}
	}
	c := impl.Calendar{From: 3, To: 9, Weekdays: 127, Removed: []int{3, 9}}
	for day, want := range []bool{false, false, false, false, true, true, true, true, true, false, false, false} {
		if yes, ok := impl.RunsOn(c, day); !ok || yes != want {
			t.Error("day", day, yes, ok)
		}
	}
}

func TestCountDays(t *testing.T) {
	for _, c := range samples3() {
		if n, ok := impl.CountDays(c); !ok || n != len(days3(c).list()) {
			t.Errorf("%v: %d, %v", c, n, ok)
		}
	}
	for _, x := range []struct {
		c    impl.Calendar
		want int
	}{
		{office3(), 15}, {full3(), 34}, {impl.Calendar{}, 0}, {impl.Calendar{Weekdays: 1}, 1},
		{impl.Calendar{To: impl.MaxDay, Weekdays: 127}, 3651}, {impl.Calendar{To: impl.MaxDay, Weekdays: 1}, 522},
		{impl.Calendar{To: impl.MaxDay, Weekdays: 64}, 521}, {impl.Calendar{From: 1, To: 6, Weekdays: 1}, 0},
	} {
		if n, ok := impl.CountDays(x.c); !ok || n != x.want {
			t.Errorf("%v: %d, %v", x.c, n, ok)
		}
	}
}

func TestNextRun(t *testing.T) {
	for _, c := range samples3() {
		days := days3(c)
		want, found := 0, false
		for day := impl.MaxDay; day >= 0; day-- {
			if days[day] {
				want, found = day, true
			}
			if next, ok := impl.NextRun(c, day); ok != found || next != want {
				t.Errorf("%v from day %d: %d, %v", c, day, next, ok)
			}
		}
	}
	c := impl.Calendar{From: 10, To: 20, Weekdays: 1, Removed: []int{14}, Added: []int{11, 19}}
	for day, want := range map[int]int{0: 11, 9: 11, 10: 11, 11: 11, 12: 19, 14: 19, 18: 19, 19: 19} {
		if next, ok := impl.NextRun(c, day); !ok || next != want {
			t.Error("from day", day, next, ok)
		}
	}
	for _, day := range []int{20, 21, 28, impl.MaxDay} {
		if next, ok := impl.NextRun(c, day); ok || next != 0 {
			t.Error("from day", day, next, ok)
		}
	}
}

func TestExceptDay(t *testing.T) {
	c := impl.Calendar{From: 0, To: 20, Weekdays: 31, Added: []int{5, 19}, Removed: []int{7, 11}}
	for _, x := range []struct {
		day     int
		runs    bool
		added   []int
		removed []int
	}{
		// Days that are as wished already.
		{0, true, []int{5, 19}, []int{7, 11}}, {20, false, []int{5, 19}, []int{7, 11}},
		{5, true, []int{5, 19}, []int{7, 11}}, {7, false, []int{5, 19}, []int{7, 11}},
		// New exceptions.
		{6, true, []int{5, 6, 19}, []int{7, 11}}, {20, true, []int{5, 19, 20}, []int{7, 11}},
		{0, false, []int{5, 19}, []int{0, 7, 11}}, {8, false, []int{5, 19}, []int{7, 8, 11}}, {18, false, []int{5, 19}, []int{7, 11, 18}},
		// Exceptions that are not needed any more.
		{5, false, []int{19}, []int{7, 11}}, {19, false, []int{5}, []int{7, 11}},
		{7, true, []int{5, 19}, []int{11}}, {11, true, []int{5, 19}, []int{7}},
	} {
		want := impl.Calendar{From: 0, To: 20, Weekdays: 31, Added: x.added, Removed: x.removed}
		if got, ok := impl.ExceptDay(c, x.day, x.runs); !ok || !same3(got, want) {
			t.Error("day", x.day, x.runs, got, ok)
		}
	}
	for _, day := range []int{-1, 9, 21, 22, impl.MaxDay, impl.MaxDay + 1} {
		for _, runs := range []bool{false, true} {
			if got, ok := impl.ExceptDay(impl.Calendar{From: 10, To: 20, Weekdays: 31}, day, runs); ok || !isZero3(got) {
				t.Error("day", day, "out of the bounds", runs, got, ok)
			}
		}
	}
}

func TestExceptDayChangesOneDayOnly(t *testing.T) {
	for _, c := range samples3() {
		for day := c.From; day <= min(c.To, c.From+60); day++ {
			for _, runs := range []bool{false, true} {
				checkExcepted3(t, c, day, runs)
			}
		}
	}
}

// checkExcepted3 compares what ExceptDay returns with the days of c and the limit of exceptions.
func checkExcepted3(t *testing.T, c impl.Calendar, day int, runs bool) {
	t.Helper()
	days := days3(c)
	byWeekday := c.Weekdays>>(day%7)&1 == 1
	tooMany := days[day] != runs && runs && !byWeekday && len(c.Added) == impl.MaxExceptions ||
		days[day] != runs && !runs && byWeekday && len(c.Removed) == impl.MaxExceptions
	got, ok := impl.ExceptDay(c, day, runs)
	if tooMany {
		if ok || !isZero3(got) {
			t.Fatalf("%v except %d, %v: too many exceptions: %v, %v", c, day, runs, got, ok)
		}
		return
	}
	days[day] = runs
	if !ok || !impl.IsValidCalendar(got) || got.From != c.From || got.To != c.To || got.Weekdays != c.Weekdays {
		t.Fatalf("%v except %d, %v: %v, %v", c, day, runs, got, ok)
	}
	if days3(got) != days {
		t.Fatalf("%v except %d, %v: runs on the wrong days: %v", c, day, runs, got)
	}
}

func TestExceptDayUpToMaxExceptions(t *testing.T) {
	added, removed := impl.Calendar{From: 0, To: 30}, impl.Calendar{From: 0, To: 30, Weekdays: 127}
	for count := 1; count <= impl.MaxExceptions; count++ {
		x, fine := impl.ExceptDay(added, 30-2*count, true)
		y, good := impl.ExceptDay(removed, 30-2*count, false)
		if !fine || !good || len(x.Added) != count || len(y.Removed) != count {
			t.Fatal(count, "exceptions", x, fine, y, good)
		}
		added, removed = x, y
	}
	for _, day := range []int{0, 15, 30} {
		if x, ok := impl.ExceptDay(added, day, true); ok || !isZero3(x) {
			t.Error("one Added day too many", x, ok)
		}
		if x, ok := impl.ExceptDay(removed, day, false); ok || !isZero3(x) {
			t.Error("one Removed day too many", x, ok)
		}
	}
	// With all exceptions in use, days may still stay as they are or lose theirs.
	for day, wish := range map[int]bool{14: true, 28: true, 0: false, 15: false} {
		x, ok := impl.ExceptDay(added, day, wish)
		y, fine := impl.ExceptDay(removed, day, !wish)
		if !ok || !fine || !same3(x, added) || !same3(y, removed) {
			t.Error("day", day, "stays as it is", x, ok, y, fine)
		}
	}
	x, ok := impl.ExceptDay(added, 14, false)
	y, fine := impl.ExceptDay(removed, 28, true)
	if !ok || !fine || !slices.Equal(x.Added, everyDay3(16, 28, 2)) || !slices.Equal(y.Removed, everyDay3(14, 26, 2)) {
		t.Error("a day loses its exception", x, ok, y, fine)
	}
}

func TestCommonDays(t *testing.T) {
	always := impl.Calendar{From: 0, To: impl.MaxDay, Weekdays: 127}
	for _, x := range []struct {
		a, b impl.Calendar
		want []int
	}{
		{office3(), impl.Calendar{From: 4, To: 9, Weekdays: 127}, []int{4, 5, 8, 9}},
		{office3(), impl.Calendar{From: 20, To: 40, Weekdays: 127}, nil},
		{office3(), impl.Calendar{From: 18, To: 40, Weekdays: 127}, []int{18}},
		{office3(), impl.Calendar{From: 21, To: 40, Weekdays: 127}, nil},
		{office3(), impl.Calendar{From: 0, To: 20, Weekdays: 96}, []int{5}},
		{office3(), impl.Calendar{From: 0, To: 20, Weekdays: 1, Removed: []int{0}}, []int{14}},
		{impl.Calendar{}, impl.Calendar{}, nil}, {always, impl.Calendar{}, nil},
		{always, impl.Calendar{From: 0, To: 0, Weekdays: 1}, []int{0}},
		{always, impl.Calendar{From: impl.MaxDay, To: impl.MaxDay, Weekdays: 127}, []int{impl.MaxDay}},
		{impl.Calendar{From: 0, To: impl.MaxDay, Weekdays: 31}, impl.Calendar{From: 0, To: impl.MaxDay, Weekdays: 96}, nil},
		{always, always, everyDay3(0, 19, 1)},
		{always, impl.Calendar{From: 50, To: 68, Weekdays: 127}, everyDay3(50, 68, 1)},
		{always, impl.Calendar{From: 50, To: 69, Weekdays: 127}, everyDay3(50, 69, 1)},
		{always, impl.Calendar{From: 50, To: 70, Weekdays: 127}, everyDay3(50, 69, 1)},
		{impl.Calendar{From: 0, To: impl.MaxDay, Weekdays: 3}, impl.Calendar{From: 9, To: 3000, Weekdays: 6}, everyDay3(15, 15+19*7, 7)},
	} {
		checkCommon3(t, x.a, x.b, x.want)
		checkCommon3(t, x.b, x.a, x.want)
	}
}

func TestCommonDaysOfManyCalendars(t *testing.T) {
	for _, a := range samples3() {
		for _, b := range samples3() {
			var want []int
			days := days3(b)
			for _, day := range days3(a).list() {
				if days[day] && len(want) < 20 {
					want = append(want, day)
				}
			}
			checkCommon3(t, a, b, want)
		}
	}
}

// checkCommon3 compares CommonDays with what it should return.
func checkCommon3(t *testing.T, a impl.Calendar, b impl.Calendar, want []int) {
	t.Helper()
	if got, ok := impl.CommonDays(a, b); !ok || !slices.Equal(got, want) {
		t.Errorf("%v and %v: %v, %v", a, b, got, ok)
	}
}

func TestFitCalendar(t *testing.T) {
	for _, x := range []struct {
		from, to int
		days     []int
		want     impl.Calendar
	}{
		{0, 13, []int{0, 1, 2, 3, 4, 5, 8, 9, 10, 11}, impl.Calendar{From: 0, To: 13, Weekdays: 30, Added: []int{0, 5}}},
		{0, 20, days3(office3()).list(), office3()},
		{0, 0, nil, impl.Calendar{}}, {0, 0, []int{0}, impl.Calendar{Weekdays: 1}},
		{impl.MaxDay, impl.MaxDay, nil, impl.Calendar{From: impl.MaxDay, To: impl.MaxDay}},
		{impl.MaxDay, impl.MaxDay, []int{impl.MaxDay}, impl.Calendar{From: impl.MaxDay, To: impl.MaxDay, Weekdays: 8}},
		// Weekdays without days in the bounds.
		{2, 4, []int{2, 4}, impl.Calendar{From: 2, To: 4, Weekdays: 20}}, {5, 7, []int{5, 6, 7}, impl.Calendar{From: 5, To: 7, Weekdays: 97}},
		{0, 5, everyDay3(0, 5, 1), impl.Calendar{From: 0, To: 5, Weekdays: 63}}, {1, 6, everyDay3(1, 6, 1), impl.Calendar{From: 1, To: 6, Weekdays: 126}},
		{1, 7, everyDay3(1, 7, 1), impl.Calendar{From: 1, To: 7, Weekdays: 127}}, {3, 9, nil, impl.Calendar{From: 3, To: 9}},
		// As many days of a weekday given as not, one more, and one less.
		{0, 13, []int{0}, impl.Calendar{From: 0, To: 13, Added: []int{0}}}, {0, 13, []int{7}, impl.Calendar{From: 0, To: 13, Added: []int{7}}},
		{0, 13, []int{0, 7}, impl.Calendar{From: 0, To: 13, Weekdays: 1}},
		{0, 14, []int{0, 14}, impl.Calendar{From: 0, To: 14, Weekdays: 1, Removed: []int{7}}},
		{0, 14, []int{7}, impl.Calendar{From: 0, To: 14, Added: []int{7}}},
		{6, 27, []int{6, 27}, impl.Calendar{From: 6, To: 27, Added: []int{6, 27}}},
		{6, 27, []int{6, 13, 27}, impl.Calendar{From: 6, To: 27, Weekdays: 64, Removed: []int{20}}},
	} {
		if got, ok := impl.FitCalendar(x.from, x.to, x.days); !ok || !same3(got, x.want) {
			t.Error(x.from, x.to, x.days, got, ok)
		}
	}
}

func TestFitCalendarRejects(t *testing.T) {
	for _, x := range []struct {
		from, to int
		days     []int
	}{
		{-1, 5, nil}, {-7, -1, nil}, {5, 4, nil}, {5, 4, []int{5}}, {1, 0, nil}, {impl.MaxDay, impl.MaxDay + 1, nil},
		{impl.MaxDay + 1, impl.MaxDay + 1, nil}, {impl.MaxDay + 1, impl.MaxDay, nil}, {math.MinInt, math.MaxInt, nil},
		{math.MinInt, 0, nil}, {0, math.MaxInt, nil}, {math.MaxInt, math.MinInt, nil}, {math.MinInt, math.MinInt, nil},
		{math.MaxInt, math.MaxInt, nil}, {math.MaxInt, 0, nil}, {0, math.MinInt, nil},
		{10, 20, []int{9}}, {10, 20, []int{21}}, {10, 20, []int{9, 10}}, {10, 20, []int{20, 21}}, {10, 20, []int{-1}},
		{10, 20, []int{10, math.MaxInt}}, {10, 20, []int{math.MinInt, 10}}, {10, 20, []int{3}}, {10, 20, []int{24}},
		{0, 5, []int{-1}}, {impl.MaxDay - 5, impl.MaxDay, []int{impl.MaxDay + 1}},
		{10, 20, []int{12, 12}}, {10, 20, []int{13, 12}}, {10, 20, []int{10, 12, 11}}, {10, 20, []int{10, 12, 14, 14}},
		{10, 20, make([]int, 100000)}, {10, 20, slices.Repeat([]int{15}, 100000)},
	} {
		if got, ok := impl.FitCalendar(x.from, x.to, x.days); ok || !isZero3(got) {
			t.Errorf("%d %d and %d days: %v, %v", x.from, x.to, len(x.days), got, ok)
		}
	}
}

func TestFitCalendarBounds(t *testing.T) {
	for _, from := range []int{0, 1, 100, impl.MaxDay - 201, impl.MaxDay - 200, impl.MaxDay - 199} {
		for distance := 198; distance <= 203; distance++ {
			to := from + distance
			fits := distance <= 200 && to <= impl.MaxDay
			for _, days := range [][]int{nil, {from}, everyDay3(from, to, 7), everyDay3(from, to, 1)} {
				got, ok := impl.FitCalendar(from, to, days)
				if ok != fits || !ok && !isZero3(got) || ok && !slices.Equal(days3(got).list(), days) {
					t.Error("from", from, "to", to, got, ok)
				}
			}
		}
	}
	if got, ok := impl.FitCalendar(0, impl.MaxDay, nil); ok || !isZero3(got) {
		t.Error("all days", got, ok)
	}
}

func TestFitCalendarUpToMaxExceptions(t *testing.T) {
	// Some Mondays are the only days that are given, or the only Mondays that are not.
	for count := 0; count <= 12; count++ {
		given := everyDay3(0, 7*count-1, 7)
		x, ok := impl.FitCalendar(0, 190, given)
		want := impl.Calendar{From: 0, To: 190, Added: given}
		if fits := count <= impl.MaxExceptions; ok != fits || fits && !same3(x, want) || !fits && !isZero3(x) {
			t.Error(count, "Added days", x, ok)
		}
		x, ok = impl.FitCalendar(0, 190, everyDay3(7*count, 190, 7))
		want = impl.Calendar{From: 0, To: 190, Weekdays: 1, Removed: given}
		if fits := count <= impl.MaxExceptions; ok != fits || fits && !same3(x, want) || !fits && !isZero3(x) {
			t.Error(count, "Removed days", x, ok)
		}
	}
	// Each of the weekdays has as many days as not, which are all Added.
	for weekdays := 1; weekdays <= 7; weekdays++ {
		var days []int
		for w := range weekdays {
			days = append(days, w, w+14)
		}
		slices.Sort(days)
		x, ok := impl.FitCalendar(0, 27, days)
		want := impl.Calendar{From: 0, To: 27, Added: days}
		if fits := weekdays <= 4; ok != fits || fits && !same3(x, want) || !fits && !isZero3(x) {
			t.Error(weekdays, "weekdays with as many days given as not", x, ok)
		}
	}
}

// Promise 3.
func TestFittedCalendarsRunOnExactlyTheGivenDays(t *testing.T) {
	for _, bounds := range [][2]int{{0, 0}, {3, 8}, {5, 11}, {0, 7}, {6, 16}, {impl.MaxDay - 9, impl.MaxDay}} {
		for set := range 1 << (bounds[1] - bounds[0] + 1) {
			checkFitted3(t, bounds[0], bounds[1], uint(set))
		}
	}
}

// checkFitted3 fits a calendar to the days for which set has a bit, of at most 11 days.
func checkFitted3(t *testing.T, from int, to int, set uint) {
	t.Helper()
	var days []int
	for day := from; day <= to; day++ {
		if set>>(day-from)&1 == 1 {
			days = append(days, day)
		}
	}
	got, ok := impl.FitCalendar(from, to, days)
	if !ok || !impl.IsValidCalendar(got) || got.From != from || got.To != to || !slices.Equal(days3(got).list(), days) {
		t.Fatalf("%v of %d..%d: %v, %v", days, from, to, got, ok)
	}
	if exceptions := len(got.Added) + len(got.Removed); exceptions != fewestExceptions3(from, to, set) {
		t.Fatalf("%v of %d..%d: %v has too many exceptions", days, from, to, got)
	}
	for w := range 7 {
		if inWeekdays := got.Weekdays>>w&1 == 1; inWeekdays != moreGiven3(from, to, set, w) {
			t.Fatalf("%v of %d..%d: %v is wrong about weekday %d", days, from, to, got, w)
		}
	}
}

func TestFitCalendarToTheDaysOfOtherCalendars(t *testing.T) {
	r := random2(333)
	fitted, failed := 0, 0
	for range 500 {
		c := r.calendar3()
		days := days3(c).list()
		var set uint
		for _, day := range days {
			set |= 1 << (day - c.From)
		}
		want, fits := wanted3(c.From, c.To, set)
		got, ok := impl.FitCalendar(c.From, c.To, days)
		if ok != fits || !same3(got, want) || ok && !slices.Equal(days3(got).list(), days) {
			t.Fatalf("%v of %d..%d: %v, %v", days, c.From, c.To, got, ok)
		}
		if ok {
			fitted++
		} else {
			failed++
		}
	}
	if fitted == 0 || failed == 0 {
		t.Error("calendars of one kind only", fitted, failed)
	}
}

// wanted3 returns the calendar that should be fitted to the days for which set has a bit.
func wanted3(from int, to int, set uint) (impl.Calendar, bool) {
	c := impl.Calendar{From: from, To: to}
	for w := range 7 {
		if moreGiven3(from, to, set, w) {
			c.Weekdays += 1 << w
		}
	}
	for day := from; day <= to; day++ {
		given, regular := set>>(day-from)&1 == 1, moreGiven3(from, to, set, day%7)
		if given && !regular {
			c.Added = append(c.Added, day)
		}
		if regular && !given {
			c.Removed = append(c.Removed, day)
		}
	}
	if len(c.Added) > 8 || len(c.Removed) > 8 {
		return impl.Calendar{}, false
	}
	return c, true
}

// fewestExceptions3 tries all sets of weekdays.
func fewestExceptions3(from int, to int, set uint) int {
	fewest := math.MaxInt
	for weekdays := range 128 {
		var regular uint
		for day := from; day <= to; day++ {
			regular |= uint(weekdays>>(day%7)&1) << (day - from)
		}
		fewest = min(fewest, bits.OnesCount(regular^set))
	}
	return fewest
}

// moreGiven3 reports whether more days of a weekday are given than not.
func moreGiven3(from int, to int, set uint, weekday int) bool {
	given, all := 0, 0
	for day := from; day <= to; day++ {
		if day%7 == weekday {
			given += int(set >> (day - from) & 1)
			all++
		}
	}
	return 2*given > all
}

// texts3 are texts of calendars.
func texts3() map[string]impl.Calendar {
	return map[string]impl.Calendar{
		"0-20 mtwtf.. +5 -7":    office3(),
		"0-0 .......":           {},
		"0-0 m...... -0":        {Weekdays: 1, Removed: []int{0}},
		"0-0 ....... +0":        {Added: []int{0}},
		"0-3650 mtwtfss":        {To: impl.MaxDay, Weekdays: 127},
		"3650-3650 ...t...":     {From: impl.MaxDay, To: impl.MaxDay, Weekdays: 8},
		"7-8 .t.....":           {From: 7, To: 8, Weekdays: 2},
		"7-8 ..w....":           {From: 7, To: 8, Weekdays: 4},
		"7-8 ....f..":           {From: 7, To: 8, Weekdays: 16},
		"7-8 .....s.":           {From: 7, To: 8, Weekdays: 32},
		"7-8 ......s":           {From: 7, To: 8, Weekdays: 64},
		"10-30 ....... +10 +30": {From: 10, To: 30, Added: []int{10, 30}},
		"10-30 mtwtfss -10 -30": {From: 10, To: 30, Weekdays: 127, Removed: []int{10, 30}},
		"1-60 m.w.f.s +1 +3 +5 +8 +10 +12 +15 +17 -2 -4 -6 -7 -9 -11 -13 -60": full3(),
	}
}

func TestFormatCalendar(t *testing.T) {
	for want, c := range texts3() {
		if s, ok := impl.FormatCalendar(c); !ok || s != want {
			t.Errorf("the text of %v is %q, %v", c, s, ok)
		}
	}
}

func TestParseCalendar(t *testing.T) {
	for s, want := range texts3() {
		if c, ok := impl.ParseCalendar(s); !ok || !same3(c, want) {
			t.Errorf("%q is %v, %v", s, c, ok)
		}
	}
}

// Promise 3.
func TestCalendarsAreRecoveredFromTheirTexts(t *testing.T) {
	seen := map[string]impl.Calendar{}
	list := samples3()
	r := random2(33)
	for weekdays := range 128 {
		list = append(list, impl.Calendar{From: 1000, To: 1234, Weekdays: weekdays}, r.calendar3())
	}
	for _, c := range list {
		s, ok := impl.FormatCalendar(c)
		back, fine := impl.ParseCalendar(s)
		if !ok || !fine || !same3(back, c) {
			t.Errorf("%v: text %q, %v, and back %v, %v", c, s, ok, back, fine)
		}
		if other, known := seen[s]; known && !same3(other, c) {
			t.Errorf("%q is the text of %v and %v", s, c, other)
		}
		seen[s] = c
	}
}

func TestParseCalendarRejects(t *testing.T) {
	for _, s := range []string{
		// Parts that miss or that are too many.
		"", " ", "0", "-", "0-", "-20", "0-20", "0-20 ", " 0-20 mtwtf..", "0-20 mtwtf.. ", "0-20 mtwtf..\n", "0-20  mtwtf..", "mtwtf..",
		" mtwtf..", "0-20 mtwtf.. +", "0-20 mtwtf.. -", "0-20 mtwtf..  +5", "0-20 mtwtf.. +5 ", "0-20 mtwtf.. +5  -7", "0-20 mtwtf.. 5",
		"0-20 mtwtf.. 7", "0-20 mtwtf.. x", "0-20 mtwtf.. *5", "0-20 mtwtf.. + 5", "0-20 mtwtf.. +5-7", "0-20 mtwtf..+5", "0-20mtwtf..",
		"0-20-30 mtwtf..", "0-20- mtwtf..", "0 -20 mtwtf..", "0- 20 mtwtf..", "0 20 mtwtf..", "0-20\tmtwtf..", "0-20,mtwtf..", "0-20 mtwtf.. m",
		"0-20 +5 -7", "0-20 +5 mtwtf..", "mtwtf.. 0-20",
		// Numbers.
		"00-20 mtwtf..", "0-020 mtwtf..", "01-20 mtwtf..", "+0-20 mtwtf..", "0-+20 mtwtf..", "-0-20 mtwtf..", "0--20 mtwtf..", "--0-20 mtwtf..",
		"x-20 mtwtf..", "0-x mtwtf..", "0x1-20 mtwtf..", "0-2 0 mtwtf..", "0-20 mtwtf.. +05", "0-20 mtwtf.. -07", "0-20 mtwtf.. ++5",
		"0-20 mtwtf.. --7", "0-20 mtwtf.. +-5", "0-20 mtwtf.. -+7", "0-20 mtwtf.. -0x7", "0-20 mtwtf.. +1e1", "0-20 mtwtf.. +5.0",
		"1-20 mtwtf.. -", "0-20 mtwtf.. --0", "0-20 mtwtf.. +5,-7", "0-20 mtwtf.. +٥",
		// Days.
		"-1-20 mtwtf..", "0-3651 mtwtf..", "3651-3651 mtwtf..", "20-0 mtwtf..", "1-0 mtwtf..", "0-999999 mtwtf..", "0-1000000 mtwtf..",
		"0-18446744073709551636 mtwtf..", "18446744073709551616-20 mtwtf..", "0-9223372036854775807 mtwtf..",
		"0-20 mtwtf.. +26", "0-20 mtwtf.. -21", "0-20 mtwtf.. -3651", "8-20 mtwtf.. +5", "8-20 mtwtf.. -7",
		// Weekdays.
		"0-20 mtwtf.", "0-20 mtwtf...", "0-20 mtwtfs.x", "0-20 mtwtfs", "0-20 mtwtfsss", "0-20 MTWTF..", "0-20 Mtwtf..", "0-20 mtwtf--", "0-20 mtwtf  ",
		"0-20 tmwtf..", "0-20 mttwf..", "0-20 s......", "0-20 ..m....", "0-20 m.w.f.t", "0-20 31", "0-20 1111100", "0-20 mtwtf.,", "0-20 mtwt\xe9..",
		"0-20 mtwtf.é", "0-20 \x00twtf..", "0-20 smtwtfs",
		// The order of exceptions.
		"0-20 mtwtf.. -7 +5", "0-20 mtwtf.. +6 +5", "0-20 mtwtf.. +5 +5", "0-20 mtwtf.. -8 -7", "0-20 mtwtf.. -7 -7", "0-20 mtwtf.. +5 -7 +6",
		"0-20 mtwtf.. -7 +5 -8",
		// Exceptions of no effect.
		"0-20 mtwtf.. +7", "0-20 mtwtf.. -5", "0-20 mtwtf.. +5 -5", "0-20 mtwtf.. +7 -7", "0-20 mtwtfss +5", "0-20 ....... -5", "0-20 mtwtf.. -7 -12",
		// Too many exceptions.
		"0-99 mtwtf.. +5 +6 +12 +13 +19 +20 +26 +27 +33", "0-99 mtwtf.. -0 -1 -2 -3 -4 -7 -8 -9 -10",
		"0-99 mtwtf.. +5 +6 +12 +13 +19 +20 +26 +27 -0 -1 -2 -3 -4 -7 -8 -9 -10",
		strings.Repeat(" ", 10), strings.Repeat(" ", impl.MaxString), strings.Repeat("+5 ", 100000), "0-20 " + strings.Repeat(".", 100000),
		"0-20 mtwtf.." + strings.Repeat(" +5", 1000), strings.Repeat("0", impl.MaxString) + "-20 mtwtf..",
	} {
		if c, ok := impl.ParseCalendar(s); ok || !isZero3(c) {
			t.Errorf("%.80q is %v, %v", s, c, ok)
		}
	}
}

// Every text that is one byte away from a calendar's is read as a calendar only if it is its text.
func TestParseCalendarOfChangedTexts(t *testing.T) {
	for s := range texts3() {
		for i := range len(s) + 1 {
			for _, b := range []string{"", "0", "1", "5", "9", "+", "-", " ", ".", "m", "t", "s", "x", "\n", "\xff"} {
				checkText3(t, s[:i]+b+s[i:])
				if i < len(s) {
					checkText3(t, s[:i]+b+s[i+1:])
				}
			}
		}
	}
}

func checkText3(t *testing.T, s string) {
	t.Helper()
	c, ok := impl.ParseCalendar(s)
	if !ok {
		if !isZero3(c) {
			t.Fatalf("%q is not the zero Calendar: %v", s, c)
		}
		return
	}
	if again, fine := impl.FormatCalendar(c); !fine || again != s || !impl.IsValidCalendar(c) {
		t.Fatalf("%q is %v, whose text is %q", s, c, again)
	}
}

// roomy3 returns days in an array that goes on behind them, and this array.
func roomy3(days ...int) ([]int, []int) {
	array := append(slices.Clone(days), 777, 778, 779)
	return array[:len(days)], array
}

func TestCalendarsAreNotModified(t *testing.T) {
	added, addedArray := roomy3(5, 19)
	removed, removedArray := roomy3(7, 11)
	c := impl.Calendar{From: 0, To: 20, Weekdays: 31, Added: added, Removed: removed}
	impl.IsValidCalendar(c)
	impl.CountDays(c)
	impl.FormatCalendar(c)
	impl.CommonDays(c, c)
	for day := range 21 {
		impl.RunsOn(c, day)
		impl.NextRun(c, day)
		impl.ExceptDay(c, day, true)
		impl.ExceptDay(c, day, false)
	}
	if !slices.Equal(addedArray, []int{5, 19, 777, 778, 779}) || !slices.Equal(removedArray, []int{7, 11, 777, 778, 779}) {
		t.Error("a calendar is modified", addedArray, removedArray)
	}
	days, daysArray := roomy3(0, 1, 5, 9)
	impl.FitCalendar(0, 13, days)
	if !slices.Equal(daysArray, []int{0, 1, 5, 9, 777, 778, 779}) {
		t.Error("days are modified", daysArray)
	}
}

// spoil3 writes to everything that the slices of a calendar can reach.
func spoil3(c impl.Calendar) {
	for _, list := range [][]int{c.Added, c.Removed} {
		list = list[:cap(list)]
		for i := range list {
			list[i] = -9
		}
	}
}

func TestExceptedCalendarsHaveNewMemory(t *testing.T) {
	for _, c := range []impl.Calendar{office3(), full3(), {To: 20, Weekdays: 31, Added: []int{5, 6, 12}, Removed: []int{0, 7, 9}}} {
		for day := c.From; day <= c.To; day++ {
			for _, runs := range []bool{false, true} {
				kept := clone3(c)
				x, _ := impl.ExceptDay(c, day, runs)
				y, _ := impl.ExceptDay(c, day, runs)
				want := clone3(y)
				spoil3(x)
				if !same3(c, kept) || !same3(y, want) {
					t.Fatal("memory is shared", c, day, runs)
				}
				added := clone3(y).Added
				spoil3(impl.Calendar{Removed: y.Removed})
				if !slices.Equal(y.Added, added) {
					t.Fatal("Added and Removed share memory", c, day, runs)
				}
			}
		}
	}
}

func TestOtherResultsHaveNewMemory(t *testing.T) {
	days := []int{0, 7, 21, 26}
	x, _ := impl.FitCalendar(0, 27, days)
	y, _ := impl.FitCalendar(0, 27, days)
	want := clone3(y)
	spoil3(x)
	if !slices.Equal(days, []int{0, 7, 21, 26}) || !same3(y, want) || len(y.Added) != 1 || len(y.Removed) != 1 {
		t.Error("a fitted calendar shares memory", days, y)
	}
	x, _ = impl.ParseCalendar("0-20 mtwtf.. +5 -7")
	y, _ = impl.ParseCalendar("0-20 mtwtf.. +5 -7")
	spoil3(x)
	if !same3(y, office3()) {
		t.Error("a parsed calendar shares memory", y)
	}
	a, _ := impl.CommonDays(office3(), office3())
	b, _ := impl.CommonDays(office3(), office3())
	spoil3(impl.Calendar{Added: a})
	if !slices.Equal(b, days3(office3()).list()) {
		t.Error("common days share memory", b)
	}
}
