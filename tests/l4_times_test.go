package tests

import (
	"fmt"
	"math"
	"slices"
	"strings"
	"testing"

	"loop.example/g00900/impl"
)

// noTimes4 returns numbers that are no times.
func noTimes4() []int {
	return []int{-1, -2, -60, -1440, -1799, -1800, impl.MaxTime + 1, impl.MaxTime + 2, 1860, 2880, 5999, 6000, 1 << 32, 1<<32 + 5, math.MaxInt, math.MinInt}
}

func TestIsValidTime(t *testing.T) {
	if impl.MaxTime != 1799 {
		t.Error("the last time is", impl.MaxTime)
	}
	for x := range impl.MaxTime + 1 {
		if !impl.IsValidTime(x) {
			t.Error(x, "is a time")
		}
	}
	for _, x := range noTimes4() {
		if impl.IsValidTime(x) {
			t.Error(x, "is no time")
		}
	}
}

func TestNumbersThatAreNoTimes(t *testing.T) {
	for _, x := range noTimes4() {
		if s, ok := impl.FormatTime(x); s != "" || ok {
			t.Error("the text of", x, "is", s, ok)
		}
		if s, passed, ok := impl.ClockTime(x); s != "" || passed != 0 || ok {
			t.Error("the clock at", x, "is", s, passed, ok)
		}
	}
}

func TestFormatTime(t *testing.T) {
	for x, want := range map[int]string{
		425: "07:05", 1500: "25:00", 0: "00:00", 1: "00:01", 9: "00:09", 10: "00:10", 59: "00:59", 60: "01:00", 61: "01:01",
		599: "09:59", 600: "10:00", 1199: "19:59", 1200: "20:00", 1379: "22:59", 1380: "23:00", 1439: "23:59", 1440: "24:00",
		1739: "28:59", 1740: "29:00", 1798: "29:58", 1799: "29:59",
	} {
		if s, ok := impl.FormatTime(x); s != want || !ok {
			t.Error("the text of", x, "is", s, ok)
		}
	}
}

func TestTimesAreRecoveredFromTheirTexts(t *testing.T) {
	for x := range impl.MaxTime + 1 {
		s, ok := impl.FormatTime(x)
		if s != fmt.Sprintf("%02d:%02d", x/60, x%60) || !ok {
			t.Error("the text of", x, "is", s, ok)
		}
		if y, ok := impl.ParseTime(s); y != x || !ok {
			t.Error("the time of", s, "is", y, ok)
		}
	}
}

// texts4 returns the times by their texts.
func texts4() map[string]int {
	texts := map[string]int{}
	for x := range impl.MaxTime + 1 {
		texts[fmt.Sprintf("%02d:%02d", x/60, x%60)] = x
	}
	return texts
}

// checkText4 compares ParseTime with the times by their texts.
func checkText4(t *testing.T, texts map[string]int, s string) {
	t.Helper()
	want, wantOk := texts[s]
	if x, ok := impl.ParseTime(s); x != want || ok != wantOk {
		t.Errorf("the time of %.20q is %d, %v", s, x, ok)
	}
}

func TestParseTimeRejects(t *testing.T) {
	for _, s := range []string{
		"", ":", "0", "00", "00:", ":00", "0:0", "00:0", "0:00", "000:0", "0000", "00000", "000:00", "00:000", "7:05", "007:05", "07:005", "07:5",
		"30:00", "30:01", "29:60", "29:99", "24:60", "23:60", "00:60", "00:61", "07:60", "07:99", "99:99", "99:00", "40:00", "60:00",
		"07-05", "07.05", "07 05", "07;05", "07/05", "0705", "07::5", "07:05:00", "070:5", "0:705", "07:05:", ":07:05",
		"+7:05", "-7:05", "07:+5", "07:-5", "+07:05", "-07:05", "07:+05", "07:-05", "-0:00", "+0:00", "00:-0", "00:+0", "-1:60", "01:-1",
		" 7:05", "07: 5", " 07:05", "07:05 ", "07 :05", "07: 05", "7:05 ", "07:5 ", "\t7:05", "07:05\n", "07:05\r", "\n07:05",
		"a7:05", "0a:05", "07:a5", "07:0a", "0x:05", "x0:00", "0e:00", "07h05", "1e:00", "/7:05", "0/:05", "0::05", "07:/5", "07:0/", "07:0:",
		"\x007:05", "07:0\x00", "07\x0005", "07:05\x00", "\xff7:05", "07:0\xff", "07:0\xb0", "\xb07:05", "07\xba05", "０7:5", "07：05", "٠٧:٠٥", "٠7:05",
		strings.Repeat("07:05", 2), strings.Repeat("0", impl.MaxString), strings.Repeat("07:05", 100000),
	} {
		if x, ok := impl.ParseTime(s); x != 0 || ok {
			t.Errorf("the time of %.20q is %d, %v", s, x, ok)
		}
	}
}

func TestParseTimeOfShortStrings(t *testing.T) {
	texts := texts4()
	for _, s := range stringsOver("0259:-+ ", 6) {
		checkText4(t, texts, s)
	}
	for digits := range 10000 {
		checkText4(t, texts, fmt.Sprintf("%02d:%02d", digits/100, digits%100))
	}
}

func TestParseTimeOfChangedTexts(t *testing.T) {
	texts := texts4()
	for _, x := range []int{0, 1, 59, 60, 425, 599, 600, 1380, 1439, 1440, 1500, 1740, 1799} {
		s, _ := impl.FormatTime(x)
		for i := range len(s) {
			for b := range 256 {
				checkText4(t, texts, s[:i]+string([]byte{byte(b)})+s[i+1:])
				checkText4(t, texts, s[:i]+string([]byte{byte(b)})+s[i:])
			}
			checkText4(t, texts, s[:i]+s[i+1:])
		}
	}
}

func TestClockTime(t *testing.T) {
	for x, want := range map[int]string{
		0: "00:00", 1: "00:01", 425: "07:05", 1380: "23:00", 1438: "23:58", 1439: "23:59",
		1440: "00:00", 1441: "00:01", 1499: "00:59", 1500: "01:00", 1798: "05:58", 1799: "05:59",
	} {
		wantPassed := 0
		if x >= 1440 {
			wantPassed = 1
		}
		if s, passed, ok := impl.ClockTime(x); s != want || passed != wantPassed || !ok {
			t.Error("the clock at", x, "is", s, passed, ok)
		}
	}
	for x := range 1440 {
		s, passed, ok := impl.ClockTime(x)
		if want, _ := impl.FormatTime(x); s != want || passed != 0 || !ok {
			t.Error("the clock at", x, "is", s, passed, ok)
		}
		again, passed, ok := impl.ClockTime(x + 1440)
		if late := impl.IsValidTime(x + 1440); late && (again != s || passed != 1 || !ok) {
			t.Error("the clock at", x+1440, "is", again, passed, ok)
		}
	}
}

// spans4 returns spans with these bounds: From and To in turns.
func spans4(bounds ...int) []impl.Span {
	list := []impl.Span{}
	for i := 0; i < len(bounds); i += 2 {
		list = append(list, impl.Span{From: bounds[i], To: bounds[i+1]})
	}
	return list
}

// day4 is the longest span.
func day4() impl.Span { return impl.Span{From: 0, To: impl.MaxTime} }

// noSpans4 returns spans that are not valid.
func noSpans4() []impl.Span {
	list := spans4(5, 4, 1, 0, impl.MaxTime, 0, impl.MaxTime, impl.MaxTime-1, 20, 10)
	for _, x := range noTimes4() {
		list = append(list, spans4(x, x, x, 100, 100, x, x, 0, 0, x, x, impl.MaxTime, impl.MaxTime, x)...)
	}
	return append(list, spans4(math.MinInt, math.MaxInt, math.MaxInt, math.MinInt, -5, -1, 1800, 1900)...)
}

// counts4 says for every time how many spans contain it.
type counts4 [impl.MaxTime + 1]int

func countsOf4(list []impl.Span) counts4 {
	var counts counts4
	for _, x := range list {
		for at := x.From; at < x.To; at++ {
			counts[at]++
		}
	}
	return counts
}

// runs4 returns the longest runs of times that are wanted, in ascending order.
func runs4(wanted func(at int) bool) []impl.Span {
	list := []impl.Span{}
	for at := range impl.MaxTime + 1 {
		switch {
		case !wanted(at):
		case len(list) > 0 && list[len(list)-1].To == at:
			list[len(list)-1].To++
		default:
			list = append(list, impl.Span{From: at, To: at + 1})
		}
	}
	return list
}

func TestOverlapOf(t *testing.T) {
	for _, x := range []struct {
		a, b, want impl.Span
	}{
		{impl.Span{From: 10, To: 20}, impl.Span{From: 15, To: 30}, impl.Span{From: 15, To: 20}},
		{impl.Span{From: 10, To: 20}, impl.Span{From: 19, To: 30}, impl.Span{From: 19, To: 20}},
		{impl.Span{From: 10, To: 20}, impl.Span{From: 20, To: 30}, impl.Span{}},
		{impl.Span{From: 10, To: 20}, impl.Span{From: 21, To: 30}, impl.Span{}},
		{impl.Span{From: 10, To: 40}, impl.Span{From: 20, To: 30}, impl.Span{From: 20, To: 30}},
		{impl.Span{From: 10, To: 40}, impl.Span{From: 10, To: 40}, impl.Span{From: 10, To: 40}},
		{impl.Span{From: 10, To: 40}, impl.Span{From: 10, To: 30}, impl.Span{From: 10, To: 30}},
		{impl.Span{From: 10, To: 40}, impl.Span{From: 30, To: 40}, impl.Span{From: 30, To: 40}},
		{impl.Span{From: 10, To: 40}, impl.Span{From: 20, To: 20}, impl.Span{}},
		{impl.Span{From: 10, To: 40}, impl.Span{From: 10, To: 10}, impl.Span{}},
		{impl.Span{From: 10, To: 40}, impl.Span{From: 40, To: 40}, impl.Span{}},
		{impl.Span{From: 10, To: 40}, impl.Span{From: 50, To: 50}, impl.Span{}},
		{impl.Span{From: 20, To: 20}, impl.Span{From: 20, To: 20}, impl.Span{}},
		{impl.Span{}, impl.Span{}, impl.Span{}},
		{impl.Span{}, day4(), impl.Span{}},
		{day4(), day4(), day4()},
		{day4(), impl.Span{From: 0, To: 1}, impl.Span{From: 0, To: 1}},
		{day4(), impl.Span{From: 1798, To: 1799}, impl.Span{From: 1798, To: 1799}},
		{day4(), impl.Span{From: 1799, To: 1799}, impl.Span{}},
	} {
		for _, pair := range [][2]impl.Span{{x.a, x.b}, {x.b, x.a}} {
			common, some, ok := impl.OverlapOf(pair[0], pair[1])
			if common != x.want || some != (x.want != impl.Span{}) || !ok {
				t.Error("the overlap of", pair, "is", common, some, ok)
			}
		}
	}
}

// someSpans4 returns all valid spans with some bounds.
func someSpans4(bounds ...int) []impl.Span {
	list := []impl.Span{}
	for _, from := range bounds {
		for _, to := range bounds {
			if from <= to {
				list = append(list, impl.Span{From: from, To: to})
			}
		}
	}
	return list
}

func TestOverlapsContainExactlyTheCommonTimes(t *testing.T) {
	spans := someSpans4(0, 1, 2, 3, 4, 5, 900, 1797, 1798, 1799)
	for _, a := range spans {
		for _, b := range spans {
			counts := countsOf4([]impl.Span{a, b})
			want := append(runs4(func(at int) bool { return counts[at] == 2 }), impl.Span{})
			common, some, ok := impl.OverlapOf(a, b)
			if common != want[0] || some != (len(want) > 1) || !ok {
				t.Error("the overlap of", a, b, "is", common, some, ok)
			}
		}
	}
}

func TestOverlapOfInvalidSpans(t *testing.T) {
	for _, x := range noSpans4() {
		for _, y := range append(noSpans4(), spans4(10, 20, 10, 10, 0, 0, 0, impl.MaxTime)...) {
			for _, pair := range [][2]impl.Span{{x, y}, {y, x}} {
				if common, some, ok := impl.OverlapOf(pair[0], pair[1]); common != (impl.Span{}) || some || ok {
					t.Error("the overlap of", pair, "is", common, some, ok)
				}
			}
		}
	}
}

func TestMergeSpans(t *testing.T) {
	for _, x := range []struct{ list, want []impl.Span }{
		{nil, nil},
		{spans4(), nil},
		{spans4(15, 30, 10, 20, 40, 40), spans4(10, 30)},
		{spans4(10, 20), spans4(10, 20)},
		{spans4(10, 10), nil},
		{spans4(0, 0, 1799, 1799, 900, 900, 900, 900), nil},
		// Touching, apart by one time, and crossing.
		{spans4(10, 20, 20, 30), spans4(10, 30)},
		{spans4(20, 30, 10, 20), spans4(10, 30)},
		{spans4(10, 20, 21, 30), spans4(10, 20, 21, 30)},
		{spans4(21, 30, 10, 20), spans4(10, 20, 21, 30)},
		{spans4(10, 20, 19, 30), spans4(10, 30)},
		// One within the other, and equal ones.
		{spans4(10, 40, 20, 30), spans4(10, 40)},
		{spans4(20, 30, 10, 40), spans4(10, 40)},
		{spans4(10, 40, 20, 30, 35, 50), spans4(10, 50)},
		{spans4(10, 40, 10, 30), spans4(10, 40)},
		{spans4(10, 30, 10, 40), spans4(10, 40)},
		{spans4(10, 40, 30, 40), spans4(10, 40)},
		{spans4(10, 40, 10, 40, 10, 40), spans4(10, 40)},
		// Without times: within others, at their bounds, between two of them and apart from them.
		{spans4(10, 40, 20, 20), spans4(10, 40)},
		{spans4(10, 40, 10, 10), spans4(10, 40)},
		{spans4(40, 40, 10, 40), spans4(10, 40)},
		{spans4(10, 40, 41, 41, 42, 50), spans4(10, 40, 42, 50)},
		{spans4(10, 20, 20, 20, 21, 30), spans4(10, 20, 21, 30)},
		{spans4(10, 20, 20, 20, 20, 30), spans4(10, 30)},
		{spans4(5, 5, 10, 40, 60, 60), spans4(10, 40)},
		// The whole day and its bounds.
		{spans4(0, 1799), spans4(0, 1799)},
		{spans4(900, 1799, 0, 900), spans4(0, 1799)},
		{spans4(1798, 1799, 0, 1), spans4(0, 1, 1798, 1799)},
		{spans4(50, 60, 30, 40, 10, 20), spans4(10, 20, 30, 40, 50, 60)},
	} {
		if merged, ok := impl.MergeSpans(x.list); !slices.Equal(merged, x.want) || !ok {
			t.Error(x.list, "merged are", merged, ok)
		}
	}
}

func TestFreeSpans(t *testing.T) {
	for _, x := range []struct {
		list   []impl.Span
		within impl.Span
		want   []impl.Span
	}{
		{spans4(15, 30, 10, 20, 40, 40), impl.Span{From: 5, To: 45}, spans4(5, 10, 30, 45)},
		// Everything is free.
		{nil, day4(), spans4(0, 1799)},
		{nil, impl.Span{From: 10, To: 20}, spans4(10, 20)},
		{spans4(0, 10, 20, 30), impl.Span{From: 10, To: 20}, spans4(10, 20)},
		{spans4(0, 5, 25, 30), impl.Span{From: 10, To: 20}, spans4(10, 20)},
		{spans4(15, 15, 10, 10, 20, 20, 5, 5, 25, 25), impl.Span{From: 10, To: 20}, spans4(10, 20)},
		// Nothing is free.
		{spans4(10, 20), impl.Span{From: 10, To: 20}, nil},
		{spans4(15, 20, 10, 15), impl.Span{From: 10, To: 20}, nil},
		{spans4(0, 30), impl.Span{From: 10, To: 20}, nil},
		{spans4(0, 15, 14, 30), impl.Span{From: 10, To: 20}, nil},
		{spans4(0, 1799), day4(), nil},
		{spans4(900, 1799, 0, 900), day4(), nil},
		// Within has no times.
		{nil, impl.Span{}, nil},
		{nil, impl.Span{From: 15, To: 15}, nil},
		{nil, impl.Span{From: 1799, To: 1799}, nil},
		{spans4(10, 20), impl.Span{From: 15, To: 15}, nil},
		{spans4(10, 20, 30, 40), impl.Span{From: 25, To: 25}, nil},
		{spans4(10, 20), impl.Span{From: 5, To: 5}, nil},
		{spans4(10, 20), impl.Span{From: 25, To: 25}, nil},
		// Something is free.
		{spans4(10, 19), impl.Span{From: 10, To: 20}, spans4(19, 20)},
		{spans4(11, 20), impl.Span{From: 10, To: 20}, spans4(10, 11)},
		{spans4(11, 19), impl.Span{From: 10, To: 20}, spans4(10, 11, 19, 20)},
		{spans4(0, 12, 18, 30), impl.Span{From: 10, To: 20}, spans4(12, 18)},
		{spans4(16, 18, 12, 14), impl.Span{From: 10, To: 20}, spans4(10, 12, 14, 16, 18, 20)},
		{spans4(12, 14, 14, 16), impl.Span{From: 10, To: 20}, spans4(10, 12, 16, 20)},
		{spans4(12, 14, 15, 16), impl.Span{From: 10, To: 20}, spans4(10, 12, 14, 15, 16, 20)},
		{spans4(12, 18, 14, 14, 14, 16), impl.Span{From: 10, To: 20}, spans4(10, 12, 18, 20)},
		{spans4(0, 1, 1798, 1799), day4(), spans4(1, 1798)},
		{spans4(1, 1798), day4(), spans4(0, 1, 1798, 1799)},
	} {
		if free, ok := impl.FreeSpans(x.list, x.within); !slices.Equal(free, x.want) || !ok {
			t.Error("free of", x.list, "within", x.within, "are", free, ok)
		}
	}
}

func TestTotalMinutes(t *testing.T) {
	for _, x := range []struct {
		list []impl.Span
		want int
	}{
		{nil, 0}, {spans4(), 0}, {spans4(10, 10), 0}, {spans4(0, 0, 1799, 1799), 0},
		{spans4(15, 30, 10, 20, 40, 40), 20}, {spans4(10, 11), 1}, {spans4(10, 20, 20, 30), 20}, {spans4(10, 20, 21, 30), 19},
		{spans4(10, 40, 20, 30), 30}, {spans4(10, 40, 10, 40), 30}, {spans4(0, 1799), 1799}, {spans4(0, 1799, 0, 1799, 5, 6), 1799},
		{spans4(1798, 1799, 0, 1), 2},
	} {
		if total, ok := impl.TotalMinutes(x.list); total != x.want || !ok {
			t.Error("the total of", x.list, "is", total, ok)
		}
	}
}

func TestBusiestTime(t *testing.T) {
	for _, x := range []struct {
		list     []impl.Span
		at, most int
	}{
		{spans4(15, 30, 10, 20, 40, 40), 15, 2},
		// No span has times.
		{nil, 0, 0}, {spans4(), 0, 0}, {spans4(10, 10), 0, 0}, {spans4(10, 10, 10, 10, 1799, 1799), 0, 0},
		// One time of the greatest number, or several.
		{spans4(10, 20), 10, 1}, {spans4(0, 1799), 0, 1}, {spans4(0, 1), 0, 1}, {spans4(1798, 1799), 1798, 1},
		{spans4(30, 40, 10, 20), 10, 1}, {spans4(10, 20, 30, 40), 10, 1}, {spans4(10, 20, 20, 30), 10, 1}, {spans4(20, 30, 10, 20), 10, 1},
		{spans4(10, 20, 19, 30), 19, 2}, {spans4(10, 40, 20, 30), 20, 2}, {spans4(10, 40, 10, 40), 10, 2}, {spans4(5, 9, 10, 40, 10, 40), 10, 2},
		{spans4(50, 60, 50, 60, 20, 40, 30, 35), 30, 2}, {spans4(20, 40, 30, 35, 50, 60, 50, 60), 30, 2}, {spans4(0, 1799, 7, 9, 8, 9), 8, 3},
		{spans4(0, 5, 0, 5, 1700, 1799, 1700, 1799), 0, 2},
		// Spans without times count nowhere.
		{spans4(15, 15, 10, 20), 10, 1}, {spans4(15, 15, 15, 15, 10, 20), 10, 1}, {spans4(5, 5, 10, 20), 10, 1}, {spans4(20, 20, 10, 20), 10, 1},
		{spans4(0, 0, 10, 20), 10, 1},
	} {
		if at, most, ok := impl.BusiestTime(x.list); at != x.at || most != x.most || !ok {
			t.Error("the busiest time of", x.list, "is", at, most, ok)
		}
	}
}

// checkDivided4 checks that merged and free spans divide the times of within and of list as they
// should, and compares the other functions of lists with counts of the spans at every time.
func checkDivided4(t *testing.T, list []impl.Span, within impl.Span) {
	t.Helper()
	counts := countsOf4(list)
	taken := runs4(func(at int) bool { return counts[at] > 0 })
	left := runs4(func(at int) bool { return counts[at] == 0 && within.From <= at && at < within.To })
	merged, mergedOk := impl.MergeSpans(list)
	free, freeOk := impl.FreeSpans(list, within)
	if !slices.Equal(merged, taken) || !slices.Equal(free, left) || !mergedOk || !freeOk {
		t.Fatal(list, "merged are", merged, mergedOk, "and free within", within, "are", free, freeOk)
	}
	minutes, busiest, most := 0, 0, 0
	for at, count := range counts {
		if count > 0 {
			minutes++
		}
		if count > most {
			busiest, most = at, count
		}
	}
	if total, ok := impl.TotalMinutes(list); total != minutes || !ok {
		t.Fatal("the total of", list, "is", total, ok)
	}
	if at, n, ok := impl.BusiestTime(list); at != busiest || n != most || !ok {
		t.Fatal("the busiest time of", list, "is", at, n, ok)
	}
}

func TestMergedAndFreeSpansOfFewSpansDivideTheDay(t *testing.T) {
	spans := someSpans4(0, 1, 2, 3, 1798, 1799)
	for _, a := range spans {
		checkDivided4(t, []impl.Span{a}, day4())
		for _, b := range spans {
			checkDivided4(t, []impl.Span{a, b}, day4())
		}
	}
	for _, list := range [][]impl.Span{spans4(), spans4(1, 1798), spans4(2, 3, 1, 2, 1798, 1798), spans4(1, 2, 3, 1798)} {
		for _, within := range spans {
			checkDivided4(t, list, within)
		}
	}
}

func (r *random2) span4(first int, last int) impl.Span {
	from := first + r.below(last-first+1)
	return impl.Span{From: from, To: from + r.below(last-from+1)}
}

func TestMergedAndFreeSpansOfManySpansDivideTheDay(t *testing.T) {
	r := random2(4)
	for i := range 6000 {
		first := r.below(impl.MaxTime)
		last := min(first+1+r.below([]int{6, 30, 200, impl.MaxTime}[i%4]), impl.MaxTime)
		var list []impl.Span
		for range r.below(18) {
			from := first + r.below(last-first+1)
			list = append(list, impl.Span{From: from, To: min(from+r.below(8), last)})
		}
		for range r.below(4) {
			list = append(list, r.span4(first, last))
		}
		checkDivided4(t, list, r.span4(max(first-2, 0), min(last+2, impl.MaxTime)))
		if i%10 == 0 {
			checkDivided4(t, list, day4())
		}
	}
}

func TestMergedAndFreeMinutesAddUpToTheDay(t *testing.T) {
	r := random2(44)
	for range 500 {
		var list []impl.Span
		for range r.below(21) {
			list = append(list, r.span4(0, impl.MaxTime))
		}
		merged, _ := impl.MergeSpans(list)
		free, _ := impl.FreeSpans(list, day4())
		taken, _ := impl.TotalMinutes(merged)
		left, _ := impl.TotalMinutes(free)
		total, ok := impl.TotalMinutes(list)
		if total != taken || taken+left != impl.MaxTime || !ok {
			t.Error(list, "has", total, "minutes, merged", taken, "and", left, "are free")
		}
		for _, x := range merged {
			for _, y := range free {
				if _, some, ok := impl.OverlapOf(x, y); some || !ok {
					t.Error(x, "of", list, "overlaps", y)
				}
			}
		}
	}
}

func TestListsOfUpToTwentySpans(t *testing.T) {
	for _, step := range []int{0, 3, 90} {
		var list, want []impl.Span
		for count := 1; count <= 20; count++ {
			x := impl.Span{From: (20 - count) * step, To: (20-count)*step + 2}
			list = append(list, x)
			if step > 0 || count == 1 {
				want = slices.Insert(want, 0, x)
			}
			checkDivided4(t, list, day4())
			if merged, ok := impl.MergeSpans(list); !slices.Equal(merged, want) || !ok {
				t.Error(list, "merged are", merged, ok)
			}
		}
		checkRejected4(t, append(list, impl.Span{From: 1000, To: 1001}))
		checkRejected4(t, append(list, impl.Span{From: 5, To: 5}))
		checkRejected4(t, append(list, list...))
	}
	checkRejected4(t, make([]impl.Span, 21))
	checkRejected4(t, make([]impl.Span, 100000))
	checkDivided4(t, make([]impl.Span, 20), day4())
}

// checkRejected4 checks that all functions of lists of spans fail with zero values.
func checkRejected4(t *testing.T, list []impl.Span) {
	t.Helper()
	if merged, ok := impl.MergeSpans(list); len(merged) != 0 || ok {
		t.Error(list, "merged are", merged, ok)
	}
	for _, within := range spans4(0, impl.MaxTime, 10, 20, 0, 0, 5, 4) {
		if free, ok := impl.FreeSpans(list, within); len(free) != 0 || ok {
			t.Error("free of", list, "within", within, "are", free, ok)
		}
	}
	if total, ok := impl.TotalMinutes(list); total != 0 || ok {
		t.Error("the total of", list, "is", total, ok)
	}
	if at, most, ok := impl.BusiestTime(list); at != 0 || most != 0 || ok {
		t.Error("the busiest time of", list, "is", at, most, ok)
	}
}

func TestListsWithOneInvalidSpan(t *testing.T) {
	for _, x := range noSpans4() {
		checkRejected4(t, []impl.Span{x})
		for place := range 4 {
			checkRejected4(t, slices.Insert(spans4(10, 20, 20, 20, 15, 30), place, x))
		}
		long := make([]impl.Span, 20)
		long[19] = x
		checkRejected4(t, long)
	}
}

func TestFreeSpansWithinInvalidSpans(t *testing.T) {
	for _, within := range noSpans4() {
		for _, list := range [][]impl.Span{nil, spans4(10, 20), spans4(0, impl.MaxTime), spans4(10, 10)} {
			if free, ok := impl.FreeSpans(list, within); len(free) != 0 || ok {
				t.Error("free of", list, "within", within, "are", free, ok)
			}
		}
	}
}

func TestListsOfSpansAreNotModified(t *testing.T) {
	for _, list := range [][]impl.Span{nil, spans4(30, 40), spans4(30, 40, 10, 20, 15, 15, 12, 35), spans4(40, 30, 10, 20)} {
		array := append(slices.Clone(list), spans4(1, 2, 5, 3, -7, 9, 2000, 3000)...)
		kept := slices.Clone(array)
		part := array[:len(list)]
		impl.MergeSpans(part)
		impl.FreeSpans(part, day4())
		impl.TotalMinutes(part)
		impl.BusiestTime(part)
		if !slices.Equal(array, kept) {
			t.Error("spans are modified", array)
		}
		if len(list) > 0 && list[0].From == 40 {
			checkRejected4(t, part)
		} else {
			checkDivided4(t, part, day4())
		}
	}
}

// spoil4 writes to everything that a list of spans can reach.
func spoil4(list []impl.Span) {
	list = list[:cap(list)]
	for i := range list {
		list[i] = impl.Span{From: -9, To: -9}
	}
}

func TestListsOfSpansHaveNewMemory(t *testing.T) {
	for _, list := range [][]impl.Span{{}, spans4(10, 20), spans4(10, 20, 30, 40), spans4(30, 40, 10, 20, 35, 50), spans4(0, 0)} {
		kept := slices.Clone(list)
		for _, call := range []func() []impl.Span{
			func() []impl.Span { merged, _ := impl.MergeSpans(list); return merged },
			func() []impl.Span { free, _ := impl.FreeSpans(list, day4()); return free },
		} {
			x := call()
			y := call()
			want := slices.Clone(y)
			spoil4(x)
			if !slices.Equal(list, kept) || !slices.Equal(y, want) || !slices.Equal(call(), want) {
				t.Error("memory is shared", list, y)
			}
		}
	}
}
