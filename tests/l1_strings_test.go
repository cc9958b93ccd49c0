package tests

import (
	"math"
	"slices"
	"strconv"
	"strings"
	"testing"

	"loop.example/g00900/impl"
)

func TestFormatInt(t *testing.T) {
	for n, want := range map[int]string{
		0: "0", 1: "1", 9: "9", 10: "10", -1: "-1", -12: "-12", 100: "100", 123456: "123456",
		impl.MaxDecimal: "999999", -impl.MaxDecimal: "-999999",
	} {
		if s, ok := impl.FormatInt(n); !ok || s != want {
			t.Errorf("FormatInt(%d) = %q, %v", n, s, ok)
		}
	}
	for _, n := range []int{
		impl.MaxDecimal + 1, -impl.MaxDecimal - 1, math.MaxInt32, math.MinInt32, math.MaxInt, math.MinInt,
	} {
		if s, ok := impl.FormatInt(n); ok || s != "" {
			t.Errorf("FormatInt(%d) = %q, %v", n, s, ok)
		}
	}
}

func TestParseIntReadsEveryFormattedNumber(t *testing.T) {
	for n := -impl.MaxDecimal; n <= impl.MaxDecimal; n++ {
		s, ok := impl.FormatInt(n)
		m, fine := impl.ParseInt(s)
		if !ok || !fine || m != n {
			t.Fatalf("%d: FormatInt = %q, %v and ParseInt = %d, %v", n, s, ok, m, fine)
		}
	}
}

func TestParseIntRejectsOtherStrings(t *testing.T) {
	for _, s := range []string{
		"", "-", "+", "+1", "+0", "-0", "-00", "00", "01", "-01", "007", "--1", "-+1", "1-", "1000000", "-1000000",
		"0999999", " 1", "1 ", "1\n", "\x001", "1x", "x1", "1_0", "1.0", "1e3", "0x1", "0b1", "0o1", "1,000",
		"9223372036854775807", "9223372036854775808", "-9223372036854775808", "18446744073709551617",
		"٣", "１", "\xff", strings.Repeat("9", 5000), strings.Repeat("0", 5000) + "1",
	} {
		if n, ok := impl.ParseInt(s); ok || n != 0 {
			t.Errorf("ParseInt(%q) = %d, %v", s, n, ok)
		}
	}
}

func TestParseIntOfShortStrings(t *testing.T) {
	written := map[string]int{}
	for n := -99; n <= 999; n++ {
		written[strconv.Itoa(n)] = n
	}
	signs := "+-0129 x"
	for _, a := range signs {
		for _, b := range signs {
			for _, c := range signs {
				s := string([]rune{a, b, c})
				want, known := written[s]
				if n, ok := impl.ParseInt(s); ok != known || n != want {
					t.Errorf("ParseInt(%q) = %d, %v", s, n, ok)
				}
			}
		}
	}
}

func TestSplitString(t *testing.T) {
	for _, c := range []struct {
		s, sep string
		want   []string
	}{
		{"a,,b", ",", []string{"a", "", "b"}},
		{"", ",", []string{""}},
		{",", ",", []string{"", ""}},
		{",,", ",", []string{"", "", ""}},
		{"a", ",", []string{"a"}},
		{",a", ",", []string{"", "a"}},
		{"a,", ",", []string{"a", ""}},
		{"a;b,c", ";", []string{"a", "b,c"}},
		{"one two  three", " ", []string{"one", "two", "", "three"}},
		{"a\x00b", "\x00", []string{"a", "b"}},
		{"a\nb\n", "\n", []string{"a", "b", ""}},
		{"\xffa\xff\xff", "\xff", []string{"", "a", "", ""}},
		{"xéy", "\xc3", []string{"x", "\xa9y"}},
		{"xéy", "\xa9", []string{"x\xc3", "y"}},
	} {
		if l, ok := impl.SplitString(c.s, c.sep); !ok || !slices.Equal(l, c.want) {
			t.Errorf("SplitString(%q, %q) = %q, %v", c.s, c.sep, l, ok)
		}
	}
}

func TestSplitStringLimits(t *testing.T) {
	if l, ok := impl.SplitString(strings.Repeat("x", impl.MaxString), ","); !ok || len(l) != 1 || len(l[0]) != impl.MaxString {
		t.Error("a string of MaxString bytes is not split", len(l), ok)
	}
	if l, ok := impl.SplitString(strings.Repeat(",", impl.MaxString), ","); !ok || len(l) != impl.MaxString+1 {
		t.Error("MaxString separators are not split", len(l), ok)
	}
	long := strings.Repeat("x", impl.MaxString+1)
	for _, c := range [][2]string{
		{long, ","}, {long, "x"}, {long, ""}, {"a", ""}, {"", ""}, {"a,b", ",,"}, {"a,,b", ",,"}, {"aéb", "é"}, {"", "ab"},
	} {
		if l, ok := impl.SplitString(c[0], c[1]); ok || len(l) != 0 {
			t.Errorf("SplitString of %d bytes at %q = %d elements, %v", len(c[0]), c[1], len(l), ok)
		}
	}
}

func TestSplitStringGivesNewMemory(t *testing.T) {
	a, _ := impl.SplitString("a,b", ",")
	b, _ := impl.SplitString("a,b", ",")
	a[0] = "changed"
	if b[0] != "a" {
		t.Error("two results share memory")
	}
}

func TestJoinStrings(t *testing.T) {
	for _, c := range []struct {
		parts []string
		sep   string
		want  string
	}{
		{[]string{"a", "", "b"}, ";", "a;;b"},
		{[]string{""}, ";", ""},
		{[]string{"", ""}, ";", ";"},
		{[]string{"a"}, ";", "a"},
		{[]string{"a,b", "c"}, ";", "a,b;c"},
		{[]string{"", "a", ""}, "\x00", "\x00a\x00"},
		{[]string{"a", "b"}, "\xff", "a\xffb"},
	} {
		if s, ok := impl.JoinStrings(c.parts, c.sep); !ok || s != c.want {
			t.Errorf("JoinStrings(%q, %q) = %q, %v", c.parts, c.sep, s, ok)
		}
	}
}

func TestJoinStringsRejects(t *testing.T) {
	for _, c := range []struct {
		parts []string
		sep   string
	}{
		{nil, ";"}, {[]string{}, ";"}, {nil, ""},
		{[]string{"a", "b"}, ""}, {[]string{"a", "b"}, ";;"}, {[]string{"a"}, "é"}, {[]string{"a"}, ""},
		{[]string{";"}, ";"}, {[]string{"a;b"}, ";"}, {[]string{";a", "b"}, ";"}, {[]string{"a", "b;"}, ";"},
		{[]string{"a", "b;c", "d"}, ";"}, {[]string{"a", "é"}, "\xa9"}, {[]string{"a", "\x00"}, "\x00"},
	} {
		if s, ok := impl.JoinStrings(c.parts, c.sep); ok || s != "" {
			t.Errorf("JoinStrings(%q, %q) = %q, %v", c.parts, c.sep, s, ok)
		}
	}
}

func TestJoinStringsLimits(t *testing.T) {
	half := strings.Repeat("x", impl.MaxString/2)
	for _, c := range []struct {
		name  string
		parts []string
		fits  bool
	}{
		{"one long element", []string{half + half}, true},
		{"one longer element", []string{half + half + "x"}, false},
		{"two elements", []string{half, half[1:]}, true},
		{"two elements and the separator", []string{half, half}, false},
		{"empty elements", make([]string, impl.MaxString+1), true},
		{"one more empty element", make([]string, impl.MaxString+2), false},
		{"very many empty elements", make([]string, 1000000), false},
	} {
		want := ""
		if c.fits {
			want = strings.Join(c.parts, ",")
		}
		if s, ok := impl.JoinStrings(c.parts, ","); ok != c.fits || s != want {
			t.Errorf("%s: %d bytes, %v", c.name, len(s), ok)
		}
	}
}

func TestJoinStringsKeepsItsArgument(t *testing.T) {
	array := []string{"a", "b", "beyond"}
	if s, ok := impl.JoinStrings(array[:2], "-"); !ok || s != "a-b" {
		t.Errorf("joined %q, %v", s, ok)
	}
	if !slices.Equal(array, []string{"a", "b", "beyond"}) {
		t.Errorf("argument is now %q", array)
	}
}

// stringsOver returns all strings of at most length signs.
func stringsOver(signs string, length int) []string {
	all := []string{""}
	last := all
	for range length {
		var next []string
		for _, s := range last {
			for i := range len(signs) {
				next = append(next, s+signs[i:i+1])
			}
		}
		all = append(all, next...)
		last = next
	}
	return all
}

func TestSplitAndJoinRoundTrip(t *testing.T) {
	for _, s := range stringsOver("ab,;", 5) {
		l, ok := impl.SplitString(s, ",")
		if !ok || len(l) != strings.Count(s, ",")+1 {
			t.Fatalf("SplitString(%q) = %q, %v", s, l, ok)
		}
		if back, ok := impl.JoinStrings(l, ","); !ok || back != s {
			t.Fatalf("%q is joined to %q, %v", s, back, ok)
		}
	}
	elements := stringsOver("a,;", 2)
	for _, a := range elements {
		for _, b := range elements {
			parts := []string{a, b}
			s, ok := impl.JoinStrings(parts, ",")
			if ok == strings.Contains(a+b, ",") {
				t.Fatalf("JoinStrings(%q) = %q, %v", parts, s, ok)
			}
			if l, _ := impl.SplitString(s, ","); ok && !slices.Equal(l, parts) {
				t.Fatalf("%q is split to %q", parts, l)
			}
		}
	}
}

func TestLessString(t *testing.T) {
	// In ascending order.
	list := []string{"", "\x00", "\x00a", "10", "9", "B", "a", "a\x00", "a b", "ab", "b", "z", "é", "\xff", "\xff\x00"}
	for i, a := range list {
		for j, b := range list {
			if impl.LessString(a, b) != (i < j) {
				t.Errorf("LessString(%q, %q) = %v", a, b, !(i < j))
			}
		}
	}
}

func TestChecksum(t *testing.T) {
	for s, want := range map[string]int{
		"":         7,
		"\x00":     288,
		"a":        385,
		"\xff":     543,
		"ab":       15884,
		"ba":       15924,
		"abc":      651344,
		"abcd":     705751,
		"#":        323,
		"\xc3\xa9": 19973,
	} {
		if n, ok := impl.Checksum(s); !ok || n != want {
			t.Errorf("Checksum(%q) = %d, %v", s, n, ok)
		}
	}
}

func TestChecksumLimits(t *testing.T) {
	full := strings.Repeat("\xff", impl.MaxString)
	want := 7
	for range impl.MaxString {
		want = (41*want + 255 + 1) % 999979
	}
	if n, ok := impl.Checksum(full); !ok || n != want {
		t.Error("MaxString bytes", n, ok)
	}
	if n, ok := impl.Checksum(full + "x"); ok || n != 0 {
		t.Error("one byte more", n, ok)
	}
}

func TestAppendChecksum(t *testing.T) {
	for s, want := range map[string]string{
		"": "#7", "a": "a#385", "ab": "ab#15884", "abcd": "abcd#705751", "\xff": "\xff#543", "a b\n": "a b\n#594674",
	} {
		if x, ok := impl.AppendChecksum(s); !ok || x != want {
			t.Errorf("AppendChecksum(%q) = %q, %v", s, x, ok)
		}
	}
	for _, s := range []string{
		"#", "a#", "#a", "a#b", "a#385", "##", strings.Repeat("x", impl.MaxString), strings.Repeat("x", impl.MaxString+1),
	} {
		if x, ok := impl.AppendChecksum(s); ok || x != "" {
			t.Errorf("AppendChecksum of %d bytes = %q, %v", len(s), x, ok)
		}
	}
}

// The bytes that fit depend on the number of digits of the checksum.
func TestAppendChecksumLimits(t *testing.T) {
	for size := impl.MaxString - 10; size <= impl.MaxString; size++ {
		for c := byte('a'); c <= 'z'; c++ {
			s := strings.Repeat(string(c), size)
			n, _ := impl.Checksum(s)
			want := s + "#" + strconv.Itoa(n)
			fits := len(want) <= impl.MaxString
			if !fits {
				want = ""
			}
			x, ok := impl.AppendChecksum(s)
			if ok != fits || x != want {
				t.Fatalf("%d bytes: %d bytes, %v", size, len(x), ok)
			}
			if y, fine := impl.VerifyChecksum(x); fine != fits || fits && y != s {
				t.Fatalf("%d bytes: verified %d bytes, %v", size, len(y), fine)
			}
		}
	}
}

func TestVerifyChecksum(t *testing.T) {
	for _, s := range stringsOver("a,#\xff", 4) {
		x, ok := impl.AppendChecksum(s)
		if ok == strings.Contains(s, "#") {
			t.Fatalf("AppendChecksum(%q) = %q, %v", s, x, ok)
		}
		if y, fine := impl.VerifyChecksum(x); fine != ok || ok && y != s {
			t.Fatalf("VerifyChecksum(%q) = %q, %v", x, y, fine)
		}
	}
	long := strings.Repeat("x", impl.MaxString)
	sum, _ := impl.Checksum(long)
	for _, s := range []string{
		"", "#", "7", "a", "a#", "#385", "a#384", "a#386", "a#0385", "a#+385", "a#-385", "a# 385", "a#385 ", "a#385\n",
		"a385", "a##385", "a#385#", "a#385#1", "b#385", "#07", "##323", "ab#385",
		"a#" + strconv.Itoa(385+999979), "a#" + strconv.Itoa(385-999979),
		long, long + "#" + strconv.Itoa(sum), long[1:] + "#7", strings.Repeat("#", 10*impl.MaxString),
	} {
		if x, ok := impl.VerifyChecksum(s); ok || x != "" {
			t.Errorf("VerifyChecksum of %d bytes = %q, %v", len(s), x, ok)
		}
	}
}

func TestEveryChangedByteIsDetected(t *testing.T) {
	digits := strings.Repeat("0123456789", 20)
	for _, s := range []string{"", "a", "ab", "a,b", "0", "\x00\x00", "\xff\xfe", "0 trip 1 l1 06:00", digits} {
		sealed, ok := impl.AppendChecksum(s)
		if !ok {
			t.Fatalf("AppendChecksum(%q) fails", s)
		}
		for i := range len(sealed) {
			rejectOtherBytes(t, sealed, i)
		}
	}
}

func TestEveryChangedByteOfLongStringsIsDetected(t *testing.T) {
	sealed, ok := impl.AppendChecksum(strings.Repeat("stop port\n", impl.MaxString/10-1))
	if !ok {
		t.Fatal("AppendChecksum fails")
	}
	for i := 0; i < len(sealed); i += 250 {
		rejectOtherBytes(t, sealed, i)
	}
	for i := len(sealed) - 10; i < len(sealed); i++ {
		rejectOtherBytes(t, sealed, i)
	}
}

// rejectOtherBytes puts every other byte at place i of a string with its checksum.
func rejectOtherBytes(t *testing.T, sealed string, i int) {
	t.Helper()
	for c := range 256 {
		if byte(c) == sealed[i] {
			continue
		}
		changed := []byte(sealed)
		changed[i] = byte(c)
		if x, ok := impl.VerifyChecksum(string(changed)); ok || x != "" {
			t.Fatalf("byte %d of %q changed to %d is not detected", i, sealed, c)
		}
	}
}
