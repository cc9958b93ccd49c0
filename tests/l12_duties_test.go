package tests

import (
	"fmt"
	"math"
	"reflect"
	"slices"
	"testing"

	"loop.example/g00900/impl"
)

// plan12 is what duties are checked against.
type plan12 struct {
	x      sample11
	blocks [][]int
	r      impl.Rules
}

// day12 has these blocks, where all trips last 10 minutes: trips 1, 2, 3 and 4 go to and fro
// between the stops 0 and 1, and start at 360, 380, 400 and 420; trips 5, 6 and 7 go from 2 to 3,
// from 4 to 6 and from 2 to 3, and start at 361, 450 and 500; and trip 9 goes from 0 to 1 and
// starts at 365.
func day12() plan12 {
	t := town11([3]int{1, 0, 360}, [3]int{2, 1, 380}, [3]int{3, 0, 400}, [3]int{4, 1, 420}, [3]int{5, 2, 361}, [3]int{6, 3, 450}, [3]int{7, 2, 500}, [3]int{9, 0, 365})
	f := fleet11(5, 10, [3]int{0, 4, 12}, [3]int{4, 0, 50}, [3]int{3, 0, 29}, [3]int{0, 3, 3})
	r := impl.Rules{SignOn: 10, SignOff: 5, MaxDrive: 200, MinBreak: 0, PaidBreak: 20, MaxLength: 300}
	return plan12{sample11{t, f}, blocks11([]int{1, 2, 3, 4}, []int{5, 6, 7}, []int{9}), r}
}

// duty12 returns a duty of which each piece is written as its Ids.
func duty12(pieces ...[]int) impl.Duty { return impl.Duty{Pieces: pieces} }

// pieces returns all pieces.
func (p plan12) pieces() [][]int {
	var list [][]int
	for _, block := range p.blocks {
		for i := range block {
			for k := i + 1; k <= len(block); k++ {
				list = append(list, slices.Clone(block[i:k]))
			}
		}
	}
	return list
}

// span returns the times that a piece lasts.
func (p plan12) span(piece []int) impl.Span {
	n, back := p.x.t.Network, slices.Clone(piece)
	slices.Reverse(back)
	return impl.Span{From: span11(n, p.x.trip(piece[0])).From, To: span11(n, p.x.trip(back[0])).To}
}

// gap returns the gap between two pieces.
func (p plan12) gap(a []int, b []int) int {
	last, first := p.x.trip(a[len(a)-1]), p.x.trip(b[0])
	return p.span(b).From - p.span(a).To - dead11(p.x.t.Network, p.x.f, last, first)
}

// all12 is what a duty of pieces has.
type all12 struct {
	lasts  []int
	gaps   []int
	length int
	paid   int
}

func (p plan12) all(d impl.Duty) all12 {
	all := all12{paid: p.r.SignOn + p.r.SignOff}
	for i, piece := range d.Pieces {
		s := p.span(piece)
		all.lasts = append(all.lasts, s.To-s.From)
		all.paid += s.To - s.From
		if i > 0 {
			all.gaps = append(all.gaps, p.gap(d.Pieces[i-1], piece))
			all.paid += min(p.gap(d.Pieces[i-1], piece), p.r.PaidBreak)
		}
	}
	first, last := p.span(d.Pieces[0]), p.span(d.Pieces[len(d.Pieces)-1])
	all.length = p.r.SignOn + (last.To - first.From) + p.r.SignOff
	return all
}

// breaks returns for every rule whether a duty breaks it; if not all of its pieces are pieces,
// only for RulePiece.
func (p plan12) breaks(d impl.Duty) map[int]bool {
	var ids []int
	for _, piece := range d.Pieces {
		if !slices.ContainsFunc(p.pieces(), func(x []int) bool { return slices.Equal(x, piece) }) {
			return map[int]bool{impl.RulePiece: true}
		}
		ids = append(ids, piece...)
	}
	if len(d.Pieces) == 0 {
		return map[int]bool{impl.RulePiece: true}
	}
	twice := false
	for i, id := range ids {
		twice = twice || slices.Contains(ids[:i], id)
	}
	all := p.all(d)
	return map[int]bool{
		impl.RulePiece:  len(d.Pieces) > 3 || twice,
		impl.RuleDrive:  slices.Max(all.lasts) > p.r.MaxDrive,
		impl.RuleBreak:  len(all.gaps) > 0 && slices.Min(all.gaps) < p.r.MinBreak,
		impl.RuleLength: all.length > p.r.MaxLength,
	}
}

// broken returns what BrokenRule should.
func (p plan12) broken(d impl.Duty) int {
	breaks := p.breaks(d)
	for _, rule := range []int{impl.RulePiece, impl.RuleDrive, impl.RuleBreak, impl.RuleLength} {
		if breaks[rule] {
			return rule
		}
	}
	return impl.RuleNone
}

// from returns what PiecesFrom should.
func (p plan12) from(id int) [][]int {
	var list [][]int
	for _, piece := range p.pieces() {
		if s := p.span(piece); piece[0] == id && s.To-s.From <= p.r.MaxDrive {
			list = append(list, piece)
		}
	}
	return list
}

// checkRule12 checks that a duty breaks a rule, and that it has nothing that only valid duties
// have.
func checkRule12(t *testing.T, about string, p plan12, d impl.Duty, rule int) {
	t.Helper()
	if got, ok := impl.BrokenRule(p.x.t, p.x.f, p.blocks, p.r, d); !ok || got != rule {
		t.Error(about, p.r, d, "BrokenRule", got, ok, "and not", rule)
	}
	if len(d.Pieces) == 2 {
		if yes, ok := impl.CanCombine(p.x.t, p.x.f, p.blocks, p.r, d.Pieces[0], d.Pieces[1]); !ok || yes != (rule == impl.RuleNone) {
			t.Error(about, p.r, d, "CanCombine", yes, ok)
		}
	}
	if rule == impl.RuleNone {
		return
	}
	if n, ok := impl.DutyLength(p.x.t, p.x.f, p.blocks, p.r, d); ok || n != 0 {
		t.Error(about, p.r, d, "DutyLength", n, ok)
	}
	if n, ok := impl.PaidMinutes(p.x.t, p.x.f, p.blocks, p.r, d); ok || n != 0 {
		t.Error(about, p.r, d, "PaidMinutes", n, ok)
	}
	if l, ok := impl.FreeMinutes(p.x.t, p.x.f, p.blocks, p.r, d); ok || len(l) != 0 {
		t.Error(about, p.r, d, "FreeMinutes", l, ok)
	}
}

// checkValid12 checks that a duty is valid and has this length, these paid minutes and these gaps.
func checkValid12(t *testing.T, about string, p plan12, d impl.Duty, length int, paid int, gaps ...int) {
	t.Helper()
	checkRule12(t, about, p, d, impl.RuleNone)
	if n, ok := impl.DutyLength(p.x.t, p.x.f, p.blocks, p.r, d); !ok || n != length {
		t.Error(about, p.r, d, "DutyLength", n, ok, "and not", length)
	}
	if n, ok := impl.PaidMinutes(p.x.t, p.x.f, p.blocks, p.r, d); !ok || n != paid {
		t.Error(about, p.r, d, "PaidMinutes", n, ok, "and not", paid)
	}
	if l, ok := impl.FreeMinutes(p.x.t, p.x.f, p.blocks, p.r, d); !ok || !slices.Equal(l, gaps) {
		t.Error(about, p.r, d, "FreeMinutes", l, ok, "and not", gaps)
	}
}

// checkDuty12 checks everything of a duty, valid or not, and returns the rule that it breaks.
func checkDuty12(t *testing.T, about string, p plan12, d impl.Duty) int {
	t.Helper()
	rule := p.broken(d)
	if rule == impl.RuleNone {
		all := p.all(d)
		checkValid12(t, about, p, d, all.length, all.paid, all.gaps...)
	} else {
		checkRule12(t, about, p, d, rule)
	}
	return rule
}

func TestLimitsOfDuties(t *testing.T) {
	if impl.MaxMinutes != 900 {
		t.Error(impl.MaxMinutes)
	}
	if impl.RuleNone != 0 || impl.RulePiece != 1 || impl.RuleDrive != 2 || impl.RuleBreak != 3 || impl.RuleLength != 4 {
		t.Error(impl.RuleNone, impl.RulePiece, impl.RuleDrive, impl.RuleBreak, impl.RuleLength)
	}
}

// noMinutes12 are numbers that no field of Rules can have.
var noMinutes12 = []int{-1, -2, -900, 901, 902, 1000, 1 << 32, 1<<32 + 5, -1 << 32, math.MaxInt, math.MinInt, math.MinInt + 900}

// fields12 returns the fields of rules.
func fields12(r *impl.Rules) []*int {
	return []*int{&r.SignOn, &r.SignOff, &r.MaxDrive, &r.MinBreak, &r.PaidBreak, &r.MaxLength}
}

// rules12 returns rules with all fields equal, but for one.
func rules12(minutes int, field int, other int) impl.Rules {
	var r impl.Rules
	for i, at := range fields12(&r) {
		*at = minutes
		if i == field {
			*at = other
		}
	}
	return r
}

func TestIsValidRules(t *testing.T) {
	for _, minutes := range []int{0, 1, 450, impl.MaxMinutes} {
		for field := range 6 {
			for _, other := range []int{0, 1, 2, 899, impl.MaxMinutes} {
				if r := rules12(minutes, field, other); !impl.IsValidRules(r) {
					t.Error(r, "are invalid")
				}
			}
			for _, other := range noMinutes12 {
				if r := rules12(minutes, field, other); impl.IsValidRules(r) {
					t.Error(r, "are valid")
				}
			}
		}
	}
	if !impl.IsValidRules(impl.Rules{}) {
		t.Error("no minutes are invalid")
	}
	if impl.IsValidRules(rules12(-1, 0, -1)) || impl.IsValidRules(rules12(901, 0, 901)) {
		t.Error("all fields out of range are valid")
	}
}

// checkFails12 calls all functions that take rules with arguments of which at least one is
// invalid.
func checkFails12(t *testing.T, about string, p plan12, pieces [][]int) {
	t.Helper()
	for _, d := range []impl.Duty{{}, duty12([]int{}), duty12(pieces...), duty12(slices.Concat(pieces...))} {
		if rule, ok := impl.BrokenRule(p.x.t, p.x.f, p.blocks, p.r, d); ok || rule != 0 {
			t.Error(about, d, "BrokenRule", rule, ok)
		}
		if n, ok := impl.DutyLength(p.x.t, p.x.f, p.blocks, p.r, d); ok || n != 0 {
			t.Error(about, d, "DutyLength", n, ok)
		}
		if n, ok := impl.PaidMinutes(p.x.t, p.x.f, p.blocks, p.r, d); ok || n != 0 {
			t.Error(about, d, "PaidMinutes", n, ok)
		}
		if l, ok := impl.FreeMinutes(p.x.t, p.x.f, p.blocks, p.r, d); ok || len(l) != 0 {
			t.Error(about, d, "FreeMinutes", l, ok)
		}
	}
	for _, a := range pieces {
		for _, b := range pieces {
			if yes, ok := impl.CanCombine(p.x.t, p.x.f, p.blocks, p.r, a, b); ok || yes {
				t.Error(about, a, b, "CanCombine", yes, ok)
			}
		}
	}
	for _, id := range append(slices.Concat(pieces...), 0, 777) {
		if l, ok := impl.PiecesFrom(p.x.t, p.x.f, p.blocks, p.r, id); ok || len(l) != 0 {
			t.Error(about, id, "PiecesFrom", l, ok)
		}
	}
}

// checkNoPieces12 does the same, and calls IsPiece, where it is not only the rules that are
// invalid.
func checkNoPieces12(t *testing.T, about string, p plan12, pieces [][]int) {
	t.Helper()
	checkFails12(t, about, p, pieces)
	for _, piece := range append(slices.Clone(pieces), nil, slices.Concat(pieces...)) {
		if yes, ok := impl.IsPiece(p.x.t, p.x.f, p.blocks, piece); ok || yes {
			t.Error(about, piece, "IsPiece", yes, ok)
		}
	}
}

func TestInvalidRulesHaveNoDuties(t *testing.T) {
	p := day12()
	for field := range 6 {
		for _, minutes := range noMinutes12 {
			p.r = day12().r
			*fields12(&p.r)[field] = minutes
			checkFails12(t, fmt.Sprint(p.r), p, blocks11([]int{1, 2}, []int{6}))
			checkFails12(t, fmt.Sprint(p.r), p, blocks11([]int{3}))
			if yes, ok := impl.IsPiece(p.x.t, p.x.f, p.blocks, []int{1, 2}); !ok || !yes {
				t.Error("IsPiece, which has no rules", yes, ok)
			}
		}
	}
}

func TestRulesAtTheirLimitsHaveDuties(t *testing.T) {
	p := day12()
	for field := range 6 {
		for _, minutes := range []int{0, 1, impl.MaxMinutes - 1, impl.MaxMinutes} {
			p.r = day12().r
			*fields12(&p.r)[field] = minutes
			for _, d := range []impl.Duty{duty12([]int{1, 2}, []int{6}), duty12([]int{3}), duty12([]int{1}, []int{3}, []int{7}), duty12([]int{3}, []int{1}), {}} {
				checkDuty12(t, "limits", p, d)
			}
		}
	}
	for _, minutes := range []int{0, impl.MaxMinutes} {
		p.r = rules12(minutes, 0, minutes)
		checkRule12(t, "all at a limit", p, duty12(), impl.RulePiece)
	}
	checkRule12(t, "all at MaxMinutes", p, duty12([]int{1}, []int{2}), impl.RuleBreak)
	checkRule12(t, "all at MaxMinutes", p, duty12([]int{1}), impl.RuleLength)
	p.r = impl.Rules{}
	checkRule12(t, "all at 0", p, duty12([]int{1}), impl.RuleDrive)
}

func TestInvalidTimetablesHaveNoDuties(t *testing.T) {
	for _, c := range validities5() {
		if c.valid {
			continue
		}
		p := plan12{x: sample11{c.t, fitting11(c.t.Network)}, r: day12().r}
		for _, trip := range c.t.Trips[:min(len(c.t.Trips), 20)] {
			p.blocks = append(p.blocks, []int{trip.Id})
		}
		checkNoPieces12(t, c.about, p, slices.Concat(p.blocks[:min(len(p.blocks), 2)], blocks11([]int{1, 2})))
		p.blocks = nil
		checkNoPieces12(t, c.about, p, blocks11([]int{1}))
	}
}

func TestInvalidFleetsHaveNoDuties(t *testing.T) {
	for _, c := range validities11() {
		if c.valid {
			continue
		}
		two := sample11{impl.Timetable{Network: c.n, Trips: []impl.Trip{{Id: 1, Start: 100}, {Id: 2, Start: 1000}}}, c.f}
		checkNoPieces12(t, c.about, plan12{two, blocks11([]int{1}, []int{2}), day12().r}, blocks11([]int{1}, []int{2}))
		checkNoPieces12(t, c.about, plan12{two, blocks11([]int{1, 2}), day12().r}, blocks11([]int{1}, []int{2}, []int{1, 2}))
		empty := sample11{impl.Timetable{Network: c.n}, c.f}
		checkNoPieces12(t, c.about, plan12{empty, nil, day12().r}, blocks11([]int{1}))
	}
}

func TestInvalidBlocksHaveNoDuties(t *testing.T) {
	p := day12()
	for _, c := range []struct {
		about  string
		blocks [][]int
	}{
		{"no blocks", nil},
		{"a trip is missing", blocks11([]int{1, 2, 3, 4}, []int{5, 6, 7})},
		{"a trip twice", blocks11([]int{1, 2, 3, 4}, []int{5, 6, 7}, []int{9, 4})},
		{"a block twice", blocks11([]int{1, 2, 3, 4}, []int{5, 6, 7}, []int{9}, []int{9})},
		{"an empty block", blocks11([]int{}, []int{1, 2, 3, 4}, []int{5, 6, 7}, []int{9})},
		{"an empty block at the end", blocks11([]int{1, 2, 3, 4}, []int{5, 6, 7}, []int{9}, nil)},
		{"another order of blocks", blocks11([]int{5, 6, 7}, []int{1, 2, 3, 4}, []int{9})},
		{"another order of trips", blocks11([]int{1, 3, 2, 4}, []int{5, 6, 7}, []int{9})},
		{"a trip that cannot follow", blocks11([]int{1, 9}, []int{2, 3, 4}, []int{5, 6, 7})},
		{"a trip that does not exist", blocks11([]int{1, 2, 3, 4}, []int{5, 6, 7}, []int{9}, []int{10})},
	} {
		p.blocks = c.blocks
		checkNoPieces12(t, c.about, p, blocks11([]int{1}, []int{5, 6}))
		checkNoPieces12(t, c.about, p, blocks11([]int{6}, []int{7}, []int{9}))
	}
}

func TestTimetablesWithoutTripsHaveNoPieces(t *testing.T) {
	p := plan12{sample11{town11(), fleet11(5, 10)}, nil, day12().r}
	for _, piece := range [][]int{nil, {}, {0}, {1}, {-1}} {
		if yes, ok := impl.IsPiece(p.x.t, p.x.f, p.blocks, piece); !ok || yes {
			t.Error(piece, yes, ok)
		}
		checkRule12(t, "without trips", p, duty12(piece), impl.RulePiece)
		checkRule12(t, "without trips", p, duty12(piece, piece), impl.RulePiece)
	}
	checkRule12(t, "without trips", p, duty12(), impl.RulePiece)
	if l, ok := impl.PiecesFrom(p.x.t, p.x.f, p.blocks, p.r, 1); ok || len(l) != 0 {
		t.Error("PiecesFrom", l, ok)
	}
}

// noPieces12 returns lists that are no pieces of day12.
func noPieces12() [][]int {
	list := [][]int{
		nil,
		{},
		{4, 5},           // the last trip of a block and the first one of the next one
		{1, 6},           // trips of two blocks
		{3, 4, 9},        // a trip of another block behind a piece
		{9, 5, 6},        // and ahead of one
		{2, 6, 3},        // and in between
		{1, 2, 3, 4, 5},  // a block and more
		{5, 6, 7, 9},     // a block and another one
		{2, 1},           // another order
		{4, 3, 2, 1},     // the opposite order
		{1, 3, 2, 4},     // another order in the middle
		{6, 7, 5},        // around the end
		{4, 1},           // from the last one to the first one
		{1, 3},           // one is left out
		{1, 2, 4},        // also behind a piece
		{5, 7},           // the middle one
		{1, 4},           // two are left out
		{1, 1},           // twice
		{9, 9},           // twice, a whole block
		{1, 2, 2},        // twice at the end
		{1, 2, 1},        // twice, apart
		{1, 2, 3, 4, 4},  // a block and its last trip
		{5, 5, 6, 7},     // its first trip and a block
		{1, 2, 3, 4, 1},  // all around
		{1, 2, 0},        // 0 behind a piece
		{0, 1, 2},        // and ahead of it
		{1, 8},           // an Id between others that does not exist
		{9, 10},          // and behind all of them
		{1, 2, 99, 3},    // and in between
		{-1}, {8}, {777}, // and alone
	}
	for _, id := range noIds5 {
		list = append(list, []int{id}, []int{id, 1}, []int{4, id}, []int{1, id, 2})
	}
	return append(list, slices.Repeat([]int{1, 2, 3, 4}, 500), make([]int, 5000))
}

func TestIsPiece(t *testing.T) {
	p := day12()
	for _, piece := range blocks11([]int{1, 2, 3, 4}, []int{5, 6, 7}, []int{9}, []int{1}, []int{2}, []int{3}, []int{4}, []int{5}, []int{6}, []int{7}, []int{1, 2}, []int{2, 3}, []int{3, 4}, []int{1, 2, 3}, []int{2, 3, 4}, []int{5, 6}, []int{6, 7}) {
		if yes, ok := impl.IsPiece(p.x.t, p.x.f, p.blocks, piece); !ok || !yes {
			t.Error(piece, "is no piece", yes, ok)
		}
	}
	for _, piece := range noPieces12() {
		if yes, ok := impl.IsPiece(p.x.t, p.x.f, p.blocks, piece); !ok || yes {
			t.Error(piece, "is a piece", yes, ok)
		}
	}
	if pieces := p.pieces(); len(pieces) != 17 {
		t.Error("the test expects", len(pieces), "pieces")
	}
}

// The trips of a piece stand in the order of the block, not in that of their Ids.
func TestIsPieceOfIdsInAnotherOrder(t *testing.T) {
	x, f := night11()
	blocks := blocks11([]int{5, 2, 3}, []int{7, 6})
	for _, c := range []struct {
		piece []int
		want  bool
	}{
		{[]int{5, 2, 3}, true}, {[]int{5, 2}, true}, {[]int{2, 3}, true}, {[]int{7, 6}, true}, {[]int{6}, true},
		{[]int{2, 3, 5}, false}, {[]int{2, 5}, false}, {[]int{3, 5}, false}, {[]int{6, 7}, false}, {[]int{5, 3}, false}, {[]int{5, 6}, false}, {[]int{3, 7}, false}, {[]int{3, 7, 6}, false},
	} {
		if yes, ok := impl.IsPiece(x, f, blocks, c.piece); !ok || yes != c.want {
			t.Error(c.piece, yes, ok)
		}
	}
}

func TestBrokenRuleOfPieces(t *testing.T) {
	p := day12()
	p.r.MaxDrive, p.r.MaxLength = impl.MaxMinutes, impl.MaxMinutes
	for _, d := range []impl.Duty{
		duty12([]int{1, 2, 3, 4}), duty12([]int{5, 6, 7}), duty12([]int{9}), duty12([]int{2, 3}),
		duty12([]int{1, 2}, []int{3, 4}), duty12([]int{1}, []int{4}), duty12([]int{1, 2, 3, 4}, []int{6, 7}), duty12([]int{9}, []int{2, 3}),
		duty12([]int{1}, []int{2}, []int{3}), duty12([]int{9}, []int{4}, []int{7}), duty12([]int{1, 2}, []int{3, 4}, []int{6, 7}), duty12([]int{5}, []int{6}, []int{7}),
	} {
		checkRule12(t, "valid", p, d, impl.RuleNone)
	}
	for _, d := range []impl.Duty{
		duty12(), {Pieces: [][]int{}},
		duty12([]int{1}, []int{2}, []int{3}, []int{4}), duty12([]int{1}, []int{2}, []int{3}, []int{6}, []int{7}), duty12([]int{9}, []int{2}, []int{3}, []int{}),
		duty12([]int{1}, []int{1}), duty12([]int{1, 2}, []int{2, 3}), duty12([]int{2}, []int{1, 2, 3, 4}), duty12([]int{1, 2, 3}, []int{2}), duty12([]int{2, 3}, []int{1, 2}),
		duty12([]int{1}, []int{2}, []int{1}), duty12([]int{9}, []int{3, 4}, []int{4}), duty12([]int{5, 6}, []int{5, 6}, []int{7}), duty12([]int{7}, []int{7}, []int{7}),
		duty12(slices.Repeat([][]int{{1}}, 1000)...), duty12(make([][]int, 3)...), duty12(make([][]int, 4)...),
	} {
		checkRule12(t, "pieces", p, d, impl.RulePiece)
	}
	for _, piece := range noPieces12() {
		for _, d := range []impl.Duty{duty12(piece), duty12(piece, []int{7}), duty12([]int{9}, piece), duty12([]int{9}, piece, []int{7}), duty12([]int{9}, []int{2}, piece), duty12(piece, piece)} {
			checkRule12(t, "no piece", p, d, impl.RulePiece)
		}
	}
}

func TestBrokenRuleOfPiecesThatLastLong(t *testing.T) {
	for _, c := range []struct {
		d    impl.Duty
		most int // the minutes of the longest piece
	}{
		{duty12([]int{1}), 10}, {duty12([]int{1, 2}), 30}, {duty12([]int{1, 2, 3, 4}), 70}, {duty12([]int{5, 6, 7}), 149}, {duty12([]int{6, 7}), 60},
		{duty12([]int{1, 2}, []int{3}, []int{4}), 30}, {duty12([]int{1}, []int{2, 3}, []int{4}), 30}, {duty12([]int{1}, []int{2}, []int{3, 4}), 30},
		{duty12([]int{1, 2}, []int{6, 7}), 60}, {duty12([]int{1, 2, 3, 4}, []int{6}), 70}, {duty12([]int{9}, []int{2, 3}), 30},
	} {
		p := day12()
		for _, over := range []int{0, 1, 10, 100} {
			p.r.MaxDrive = c.most + over
			checkRule12(t, "not longer than MaxDrive", p, c.d, impl.RuleNone)
		}
		for _, under := range []int{1, 2, c.most} {
			p.r.MaxDrive = c.most - under
			checkRule12(t, "longer than MaxDrive", p, c.d, impl.RuleDrive)
		}
	}
}

func TestPiecesOfMaxMinutes(t *testing.T) {
	for late, rule := range []int{impl.RuleNone, impl.RuleDrive} {
		x := town11([3]int{1, 0, 600}, [3]int{2, 0, 1490 + late})
		p := plan12{sample11{x, fleet11(0, 0)}, blocks11([]int{1, 2}), impl.Rules{MaxDrive: impl.MaxMinutes, MaxLength: impl.MaxMinutes}}
		checkRule12(t, "a piece of 900 minutes or one more", p, duty12([]int{1, 2}), rule)
		p.r.SignOff = 1
		checkRule12(t, "and with a minute of SignOff", p, duty12([]int{1, 2}), max(rule, []int{impl.RuleLength, impl.RuleDrive}[late]))
	}
}

func TestBrokenRuleOfShortGaps(t *testing.T) {
	for _, c := range []struct {
		d     impl.Duty
		least int // the smallest gap
	}{
		{duty12([]int{1}, []int{2}), 10},                 // 10 minutes at the same stop
		{duty12([]int{1}, []int{3}), 20},                 // 30 minutes, 10 of them from stop 1 to 0
		{duty12([]int{9}, []int{2}), 5},                  // 5 minutes at the same stop
		{duty12([]int{5}, []int{3}), 0},                  // 29 minutes, all of them from stop 3 to 0
		{duty12([]int{1, 2, 3, 4}, []int{6}), 8},         // 20 minutes, 12 of them from stop 0 to 4
		{duty12([]int{1, 2}, []int{6, 7}), 48},           // 60 minutes, 12 of them from stop 0 to 4
		{duty12([]int{2, 3}, []int{6}), 30},              // 40 minutes, 10 of them from stop 1 to 4
		{duty12([]int{1}, []int{2}, []int{4}), 10},       // 10 minutes, and 30 of which 10 are from stop 0 to 1
		{duty12([]int{1}, []int{3}, []int{4}), 10},       // 30 minutes of which 10 are from stop 1 to 0, and 10
		{duty12([]int{9}, []int{3, 4}, []int{6, 7}), 8},  // 25 minutes of which 10 are from stop 1 to 0, and 20 of which 12 are
		{duty12([]int{5}, []int{3, 4}, []int{7}), 0},     // 29 of 29 minutes, and 70 of which 10 are from stop 0 to 2
		{duty12([]int{1, 2}, []int{6}, []int{7}), 30},    // 60 minutes of which 12 are, and 40 of which 10 are from stop 6 to 2
		{duty12([]int{9}, []int{2, 3, 4}, []int{6}), 5},  // 5 minutes, and 20 of which 12 are
		{duty12([]int{1, 2, 3}, []int{4}, []int{7}), 10}, // 10 minutes, and 70 of which 10 are from stop 0 to 2
	} {
		p := day12()
		for least := range c.least + 1 {
			p.r.MinBreak = least
			checkRule12(t, "not less than MinBreak", p, c.d, impl.RuleNone)
		}
		for _, over := range []int{1, 2, 100} {
			p.r.MinBreak = c.least + over
			checkRule12(t, "less than MinBreak", p, c.d, impl.RuleBreak)
		}
	}
}

// A negative gap is less than every MinBreak, also where it is 0.
func TestBrokenRuleOfNegativeGaps(t *testing.T) {
	for _, d := range []impl.Duty{
		duty12([]int{5}, []int{2}),              // 9 minutes, and 10 of them from stop 3 to 1
		duty12([]int{1}, []int{9}),              // trip 9 starts 5 minutes too early
		duty12([]int{9}, []int{1}),              // trip 1 starts 15 minutes too early
		duty12([]int{1}, []int{5}),              // both trips run at the same time
		duty12([]int{2}, []int{1}),              // in the opposite order of time
		duty12([]int{3, 4}, []int{1, 2}),        // in the opposite order of time
		duty12([]int{7}, []int{9}),              // in the opposite order of time
		duty12([]int{1, 2, 3, 4}, []int{9}),     // at the same time as a part of it
		duty12([]int{5, 6}, []int{4}),           // at the same time as a break of it
		duty12([]int{1}, []int{9}, []int{6}),    // the first one of two gaps
		duty12([]int{1}, []int{6}, []int{4}),    // the second one of two gaps
		duty12([]int{3}, []int{2}, []int{1}),    // both gaps
		duty12([]int{2}, []int{1}, []int{3}),    // the first two in the opposite order
		duty12([]int{1}, []int{3}, []int{2}),    // the last two in the opposite order
		duty12([]int{5}, []int{2, 3}, []int{7}), // a gap of -1 ahead of one of 80
		duty12([]int{7}, []int{1}, []int{6}),    // much too early, and then much later
	} {
		p := day12()
		for _, least := range []int{0, 1, 10, impl.MaxMinutes} {
			p.r.MinBreak = least
			checkRule12(t, "a negative gap", p, d, impl.RuleBreak)
		}
		p.r.MinBreak, p.r.PaidBreak = 0, 0
		checkRule12(t, "a negative gap", p, d, impl.RuleBreak)
		p.r.SignOn, p.r.SignOff, p.r.MaxLength = 0, 0, 0
		checkRule12(t, "a negative gap, and too long", p, d, impl.RuleBreak)
	}
}

// Only the Dead from the last stop of a piece to the first stop of the next one counts.
func TestGapsWithDeadOfBothDirections(t *testing.T) {
	for dead := range impl.MaxDead + 1 {
		p := day12()
		p.x.f = fleet11(5, 10, [3]int{0, 4, dead}, [3]int{4, 0, impl.MaxDead - dead})
		d := duty12([]int{3, 4}, []int{6, 7})
		if dead > 20 {
			checkRule12(t, "a gap below 0", p, d, impl.RuleBreak)
		} else {
			checkValid12(t, "a gap", p, d, 125, 105+20-dead, 20-dead)
		}
		p.x.f = fleet11(5, 10, [3]int{4, 0, dead})
		checkValid12(t, "the other direction", p, d, 125, 115, 10)
		// The stops on the way of trip 6 do not count.
		p.x.f = fleet11(5, 10, [3]int{0, 5, dead}, [3]int{0, 6, dead}, [3]int{1, 4, dead})
		checkValid12(t, "other stops", p, d, 125, 115, 10)
	}
}

// The Turn, which vehicles stand, is no part of a gap.
func TestGapsWithoutTurn(t *testing.T) {
	p := day12()
	for turn := range 11 {
		p.x.f.Turn = turn
		checkValid12(t, "in the same block", p, duty12([]int{1}, []int{2}), 45, 45, 10)
		checkValid12(t, "in different blocks", p, duty12([]int{9}, []int{2}), 40, 40, 5)
	}
}

// The greatest MinBreak leaves room only for duties that are too long.
func TestGapsOfMaxMinutes(t *testing.T) {
	for _, c := range []struct {
		gap  int
		rule int
	}{{898, impl.RuleBreak}, {899, impl.RuleBreak}, {900, impl.RuleLength}, {901, impl.RuleLength}} {
		x := town11([3]int{1, 0, 100}, [3]int{2, 1, 110 + c.gap})
		p := plan12{sample11{x, fleet11(0, 0)}, blocks11([]int{1, 2}), impl.Rules{MaxDrive: impl.MaxMinutes, MinBreak: impl.MaxMinutes, MaxLength: impl.MaxMinutes}}
		checkRule12(t, fmt.Sprint("a gap of ", c.gap), p, duty12([]int{1}, []int{2}), c.rule)
	}
}

func TestDutyLength(t *testing.T) {
	for _, c := range []struct {
		d       impl.Duty
		minutes int // without SignOn and SignOff
	}{
		{duty12([]int{1}), 10}, {duty12([]int{1, 2}), 30}, {duty12([]int{1, 2, 3, 4}), 70}, {duty12([]int{5, 6, 7}), 149}, {duty12([]int{9}), 10},
		{duty12([]int{1}, []int{2}), 30}, {duty12([]int{1, 2}, []int{3, 4}), 70}, {duty12([]int{9}, []int{2}), 25}, {duty12([]int{1, 2}, []int{6}), 100}, {duty12([]int{9}, []int{7}), 145},
		{duty12([]int{1}, []int{2}, []int{3}), 50}, {duty12([]int{9}, []int{2, 3}, []int{7}), 145}, {duty12([]int{5}, []int{6}, []int{7}), 149},
	} {
		for _, sign := range [][2]int{{0, 0}, {10, 5}, {5, 10}, {0, 1}, {1, 0}, {700, 30}, {30, 700}} {
			p := day12()
			p.r.SignOn, p.r.SignOff = sign[0], sign[1]
			length := sign[0] + c.minutes + sign[1]
			for _, over := range []int{0, 1, 10} {
				p.r.MaxLength = length + over
				if n, ok := impl.DutyLength(p.x.t, p.x.f, p.blocks, p.r, c.d); !ok || n != length {
					t.Error(p.r, c.d, n, ok, "and not", length)
				}
				checkRule12(t, "not longer than MaxLength", p, c.d, impl.RuleNone)
			}
			for _, under := range []int{1, 2, length} {
				p.r.MaxLength = length - under
				checkRule12(t, "longer than MaxLength", p, c.d, impl.RuleLength)
			}
		}
	}
}

func TestDutiesOfMaxLength(t *testing.T) {
	p := day12()
	for _, sign := range [][2]int{{890, 0}, {0, 890}, {450, 440}, {889, 1}} {
		p.r = impl.Rules{SignOn: sign[0], SignOff: sign[1], MaxDrive: 10, MaxLength: impl.MaxMinutes}
		checkValid12(t, "900 minutes", p, duty12([]int{1}), 900, 900)
		p.r.SignOn++
		checkRule12(t, "901 minutes", p, duty12([]int{1}), impl.RuleLength)
	}
	p.r.SignOn, p.r.SignOff = impl.MaxMinutes, impl.MaxMinutes
	checkRule12(t, "1810 minutes", p, duty12([]int{1}), impl.RuleLength)
}

// The duties with the pieces 1, 2, 3 and 1, 2, 3, 4 have pieces of 10 minutes and gaps of 10
// minutes. Each rule is broken by one piece or by one minute, or not broken.
func TestBrokenRuleOfSeveralRules(t *testing.T) {
	for set := range 16 {
		p := day12()
		d, length := duty12([]int{1}, []int{2}, []int{3}), 65
		first := impl.RuleNone
		for _, rule := range []int{impl.RuleLength, impl.RuleBreak, impl.RuleDrive, impl.RulePiece} {
			if set>>(rule-1)&1 == 1 {
				first = rule
			}
		}
		if set&1 == 1 {
			d, length = duty12([]int{1}, []int{2}, []int{3}, []int{4}), 85
		}
		p.r.MaxDrive = 10 - set>>1&1
		p.r.MinBreak = 10 + set>>2&1
		p.r.MaxLength = length - set>>3&1
		checkRule12(t, fmt.Sprintf("the rules of %04b", set), p, d, first)
		for rule, breaks := range p.breaks(d) {
			if breaks != (set>>(rule-1)&1 == 1) {
				t.Errorf("the test breaks rule %v with %04b: %v", rule, set, breaks)
			}
		}
	}
}

func TestBrokenRuleOfSeveralRulesAtOtherPlaces(t *testing.T) {
	p := day12()
	p.r = impl.Rules{SignOn: 10, SignOff: 5, MaxDrive: 20, MinBreak: 15, PaidBreak: 5, MaxLength: 50}
	for _, c := range []struct {
		d    impl.Duty
		want int
	}{
		{duty12([]int{1, 2}, []int{2}), impl.RulePiece},           // all rules
		{duty12([]int{1}, []int{3}, []int{1}), impl.RulePiece},    // too long and a negative gap
		{duty12([]int{9, 2}), impl.RulePiece},                     // would be too long
		{duty12([]int{1}, []int{2}, []int{}), impl.RulePiece},     // would have a short gap
		{duty12([]int{1}, []int{2}, []int{3, 4}), impl.RuleDrive}, // the last piece, the first gap, and the length
		{duty12([]int{5, 6}, []int{9}), impl.RuleDrive},           // and a negative gap
		{duty12([]int{2, 3}, []int{1}), impl.RuleDrive},           // and a negative gap
		{duty12([]int{6}, []int{2, 3}), impl.RuleDrive},           // and a negative gap
		{duty12([]int{1}, []int{3}, []int{4}), impl.RuleBreak},    // the second gap, and the length
		{duty12([]int{1}, []int{2}, []int{6}), impl.RuleBreak},    // the first gap, and the length
		{duty12([]int{7}, []int{1}), impl.RuleBreak},              // a negative gap
		{duty12([]int{1}, []int{9}, []int{7}), impl.RuleBreak},    // a negative gap, and the length
		{duty12([]int{1}, []int{3}), impl.RuleLength},
		{duty12([]int{1}), impl.RuleNone},
	} {
		checkRule12(t, "several rules", p, c.d, c.want)
	}
}

func TestPaidMinutes(t *testing.T) {
	p := day12()
	for _, c := range []struct {
		about string
		d     impl.Duty
		paid  int // the paid break
		want  int
	}{
		{"one trip", duty12([]int{1}), 20, 25},
		{"one piece, with the minutes between its trips", duty12([]int{1, 2}), 20, 45},
		{"a block", duty12([]int{5, 6, 7}), 20, 164},
		{"one piece without a PaidBreak", duty12([]int{5, 6, 7}), 0, 164},
		{"a gap of 10 below PaidBreak", duty12([]int{1}, []int{2}), 11, 45},
		{"a gap of 10 far below PaidBreak", duty12([]int{1}, []int{2}), impl.MaxMinutes, 45},
		{"a gap of 10 at PaidBreak", duty12([]int{1}, []int{2}), 10, 45},
		{"a gap of 10 above PaidBreak", duty12([]int{1}, []int{2}), 9, 44},
		{"a gap of 10 without a PaidBreak", duty12([]int{1}, []int{2}), 0, 35},
		{"a gap of 48 below PaidBreak", duty12([]int{1, 2}, []int{6}), 49, 103},
		{"a gap of 48 at PaidBreak", duty12([]int{1, 2}, []int{6}), 48, 103},
		{"a gap of 48 above PaidBreak", duty12([]int{1, 2}, []int{6}), 47, 102},
		{"a gap of 48, 60 minutes with the Dead, above PaidBreak", duty12([]int{1, 2}, []int{6}), 55, 103},
		{"a gap of 0", duty12([]int{5}, []int{3}), 20, 35},
		{"a gap of 0 without a PaidBreak", duty12([]int{5}, []int{3}), 0, 35},
		{"two gaps of 10 and 20 below PaidBreak", duty12([]int{1}, []int{2}, []int{4}), 21, 75},
		{"two gaps of 10 and 20, the second one at PaidBreak", duty12([]int{1}, []int{2}, []int{4}), 20, 75},
		{"two gaps of 10 and 20, the second one above PaidBreak", duty12([]int{1}, []int{2}, []int{4}), 19, 74},
		{"two gaps of 10 and 20, both at or above PaidBreak", duty12([]int{1}, []int{2}, []int{4}), 10, 65},
		{"two gaps of 10 and 20 above PaidBreak", duty12([]int{1}, []int{2}, []int{4}), 7, 59},
		{"two gaps of 20 and 10, the first one above PaidBreak", duty12([]int{1}, []int{3}, []int{4}), 15, 70},
		{"two gaps without a PaidBreak", duty12([]int{1}, []int{3}, []int{4}), 0, 45},
	} {
		p.r.PaidBreak = c.paid
		if n, ok := impl.PaidMinutes(p.x.t, p.x.f, p.blocks, p.r, c.d); !ok || n != c.want {
			t.Error(c.about, n, ok, "and not", c.want)
		}
	}
	for _, sign := range [][2]int{{0, 0}, {0, 7}, {7, 0}, {30, 60}} {
		p.r.SignOn, p.r.SignOff, p.r.PaidBreak = sign[0], sign[1], 5
		if n, ok := impl.PaidMinutes(p.x.t, p.x.f, p.blocks, p.r, duty12([]int{1}, []int{2, 3})); !ok || n != sign[0]+sign[1]+45 {
			t.Error(sign, n, ok)
		}
	}
}

func TestPiecesFrom(t *testing.T) {
	p := day12()
	for _, c := range []struct {
		id   int
		most int // MaxDrive
		want [][]int
	}{
		{1, 70, blocks11([]int{1}, []int{1, 2}, []int{1, 2, 3}, []int{1, 2, 3, 4})},
		{1, 69, blocks11([]int{1}, []int{1, 2}, []int{1, 2, 3})},
		{1, 50, blocks11([]int{1}, []int{1, 2}, []int{1, 2, 3})},
		{1, 49, blocks11([]int{1}, []int{1, 2})},
		{1, 30, blocks11([]int{1}, []int{1, 2})},
		{1, 29, blocks11([]int{1})},
		{1, 10, blocks11([]int{1})},
		{1, 9, nil},
		{1, 0, nil},
		{1, impl.MaxMinutes, blocks11([]int{1}, []int{1, 2}, []int{1, 2, 3}, []int{1, 2, 3, 4})},
		{2, impl.MaxMinutes, blocks11([]int{2}, []int{2, 3}, []int{2, 3, 4})},
		{2, 50, blocks11([]int{2}, []int{2, 3}, []int{2, 3, 4})},
		{2, 49, blocks11([]int{2}, []int{2, 3})},
		{2, 29, blocks11([]int{2})},
		{2, 9, nil},
		{4, impl.MaxMinutes, blocks11([]int{4})},
		{4, 10, blocks11([]int{4})},
		{4, 9, nil},
		{4, 0, nil},
		{5, 149, blocks11([]int{5}, []int{5, 6}, []int{5, 6, 7})},
		{5, 148, blocks11([]int{5}, []int{5, 6})},
		{5, 99, blocks11([]int{5}, []int{5, 6})},
		{5, 98, blocks11([]int{5})},
		{6, 60, blocks11([]int{6}, []int{6, 7})},
		{6, 59, blocks11([]int{6})},
		{7, impl.MaxMinutes, blocks11([]int{7})},
		{9, impl.MaxMinutes, blocks11([]int{9})},
		{9, 9, nil},
	} {
		p.r.MaxDrive = c.most
		// No other rule counts for a piece.
		for _, r := range []impl.Rules{p.r, {MaxDrive: c.most}, rules12(impl.MaxMinutes, 2, c.most)} {
			l, ok := impl.PiecesFrom(p.x.t, p.x.f, p.blocks, r, c.id)
			if !ok || !sameBlocks11(l, c.want) {
				t.Error(r, c.id, l, ok, "and not", c.want)
			}
		}
	}
	for _, id := range append([]int{8, 10, 77, 100, 999}, noIds5...) {
		for _, most := range []int{0, 200, impl.MaxMinutes} {
			p.r.MaxDrive = most
			if l, ok := impl.PiecesFrom(p.x.t, p.x.f, p.blocks, p.r, id); ok || len(l) != 0 {
				t.Error("trip", id, l, ok)
			}
		}
	}
}

func TestPiecesFromIdsInAnotherOrder(t *testing.T) {
	x, f := night11()
	r := impl.Rules{MaxDrive: 40}
	for id, want := range map[int][][]int{
		5: {{5}, {5, 2}, {5, 2, 3}}, 2: {{2}, {2, 3}}, 3: {{3}}, 7: {{7}, {7, 6}}, 6: {{6}},
	} {
		if l, ok := impl.PiecesFrom(x, f, blocks11([]int{5, 2, 3}, []int{7, 6}), r, id); !ok || !sameBlocks11(l, want) {
			t.Error(id, l, ok)
		}
	}
}

func TestCanCombine(t *testing.T) {
	p := day12()
	for _, c := range []struct {
		about string
		a     []int
		b     []int
		want  bool
	}{
		{"one behind the other", []int{1, 2}, []int{3}, true},
		{"in the other order", []int{3}, []int{1, 2}, false},
		{"with trips between them", []int{1}, []int{4}, true},
		{"with trips between them in the other order", []int{4}, []int{1}, false},
		{"in different blocks", []int{9}, []int{6, 7}, true},
		{"in different blocks in the other order", []int{6, 7}, []int{9}, false},
		{"with a gap of 0", []int{5}, []int{3, 4}, true},
		{"with a gap of 0 in the other order", []int{3, 4}, []int{5}, false},
		{"with a gap of -1", []int{5}, []int{2}, false},
		{"at the same time", []int{1}, []int{5}, false},
		{"at the same time in the other order", []int{5}, []int{1}, false},
		{"with itself", []int{1}, []int{1}, false},
		{"a block with itself", []int{1, 2, 3, 4}, []int{1, 2, 3, 4}, false},
		{"with a common trip", []int{1, 2}, []int{2, 3}, false},
		{"with a part of it", []int{1, 2, 3}, []int{3}, false},
	} {
		if yes, ok := impl.CanCombine(p.x.t, p.x.f, p.blocks, p.r, c.a, c.b); !ok || yes != c.want {
			t.Error(c.about, yes, ok)
		}
	}
	for _, piece := range noPieces12() {
		for _, other := range [][]int{{9}, {7}, {1, 2}, nil, piece} {
			if yes, ok := impl.CanCombine(p.x.t, p.x.f, p.blocks, p.r, piece, other); !ok || yes {
				t.Error(piece, other, yes, ok)
			}
			if yes, ok := impl.CanCombine(p.x.t, p.x.f, p.blocks, p.r, other, piece); !ok || yes {
				t.Error(other, piece, yes, ok)
			}
		}
	}
}

func TestCanCombineKeepsEveryRule(t *testing.T) {
	p := day12()
	for _, c := range []struct {
		r    impl.Rules
		want bool
	}{
		{impl.Rules{SignOn: 10, SignOff: 5, MaxDrive: 30, MinBreak: 10, MaxLength: 85}, true},
		{impl.Rules{SignOn: 10, SignOff: 5, MaxDrive: 29, MinBreak: 10, MaxLength: 85}, false},
		{impl.Rules{SignOn: 10, SignOff: 5, MaxDrive: 30, MinBreak: 11, MaxLength: 85}, false},
		{impl.Rules{SignOn: 10, SignOff: 5, MaxDrive: 30, MinBreak: 10, MaxLength: 84}, false},
		{impl.Rules{SignOn: 11, SignOff: 5, MaxDrive: 30, MinBreak: 10, MaxLength: 85}, false},
		{impl.Rules{SignOn: 10, SignOff: 6, MaxDrive: 30, MinBreak: 10, MaxLength: 85}, false},
		{impl.Rules{SignOn: 10, SignOff: 5, MaxDrive: 30, MinBreak: 10, PaidBreak: impl.MaxMinutes, MaxLength: 85}, true},
	} {
		if yes, ok := impl.CanCombine(p.x.t, p.x.f, p.blocks, c.r, []int{1, 2}, []int{3, 4}); !ok || yes != c.want {
			t.Error(c.r, yes, ok)
		}
	}
}

func TestFreeMinutes(t *testing.T) {
	p := day12()
	for _, c := range []struct {
		d    impl.Duty
		want []int
	}{
		{duty12([]int{1}), nil},
		{duty12([]int{1, 2, 3, 4}), nil},
		{duty12([]int{5, 6, 7}), nil},
		{duty12([]int{1}, []int{2}), []int{10}},
		{duty12([]int{9}, []int{2}), []int{5}},
		{duty12([]int{5}, []int{3}), []int{0}},
		{duty12([]int{1, 2, 3, 4}, []int{6}), []int{8}},
		{duty12([]int{1, 2}, []int{6, 7}), []int{48}},
		{duty12([]int{1}, []int{2}, []int{4}), []int{10, 20}},
		{duty12([]int{1}, []int{3}, []int{4}), []int{20, 10}},
		{duty12([]int{9}, []int{2, 3, 4}, []int{6}), []int{5, 8}},
		{duty12([]int{5}, []int{3, 4}, []int{7}), []int{0, 60}},
		{duty12([]int{1}, []int{2}, []int{3}), []int{10, 10}},
	} {
		// Paid breaks are free as well.
		for _, paid := range []int{0, 10, impl.MaxMinutes} {
			p.r.PaidBreak = paid
			if l, ok := impl.FreeMinutes(p.x.t, p.x.f, p.blocks, p.r, c.d); !ok || !slices.Equal(l, c.want) {
				t.Error(c.d, l, ok, "and not", c.want)
			}
		}
	}
}

func TestDutiesOfIdsInAnotherOrder(t *testing.T) {
	x, f := night11()
	p := plan12{sample11{x, f}, blocks11([]int{5, 2, 3}, []int{7, 6}), impl.Rules{SignOn: 1, SignOff: 2, MaxDrive: 25, PaidBreak: 3, MaxLength: 60}}
	checkValid12(t, "a piece", p, duty12([]int{5, 2}), 28, 28)
	checkValid12(t, "two pieces", p, duty12([]int{5}, []int{2, 3}), 43, 41, 5)
	checkValid12(t, "three pieces", p, duty12([]int{5}, []int{2}, []int{3}), 43, 39, 5, 5)
	checkRule12(t, "in the order of Ids", p, duty12([]int{2, 3}, []int{5}), impl.RuleBreak)
	checkRule12(t, "a block", p, duty12([]int{5, 2, 3}), impl.RuleDrive)
}

// Pieces may lie behind midnight and at both ends of the day.
func TestDutiesBehindMidnight(t *testing.T) {
	x := town11([3]int{1, 0, 0}, [3]int{2, 0, 1300}, [3]int{3, 1, 1435}, [3]int{4, 3, 1789})
	p := plan12{sample11{x, fleet11(0, 7)}, blocks11([]int{1}, []int{2, 3}, []int{4}), impl.Rules{SignOn: 30, SignOff: 20, MaxDrive: impl.MaxMinutes, PaidBreak: 60, MaxLength: impl.MaxMinutes}}
	checkValid12(t, "around midnight", p, duty12([]int{2, 3}), 195, 195)
	checkValid12(t, "until the end of the day", p, duty12([]int{2}, []int{3}, []int{4}), 549, 200, 125, 337)
	checkValid12(t, "the first minutes", p, duty12([]int{1}), 60, 60)
	checkRule12(t, "a whole day", p, duty12([]int{1}, []int{4}), impl.RuleLength)
}

// fixed12 returns day12 with several rules.
func fixed12() []plan12 {
	var list []plan12
	for _, r := range []impl.Rules{
		{MaxDrive: impl.MaxMinutes, MaxLength: impl.MaxMinutes},
		{MaxDrive: impl.MaxMinutes, MaxLength: impl.MaxMinutes, PaidBreak: 10, SignOn: 5, SignOff: 10},
		{MaxDrive: 30, MinBreak: 5, PaidBreak: 20, MaxLength: 100, SignOn: 7, SignOff: 3},
		{MaxDrive: 70, MinBreak: 10, PaidBreak: 9, MaxLength: 130},
		{MaxDrive: 60, MinBreak: 11, PaidBreak: impl.MaxMinutes, MaxLength: 160, SignOff: 12},
	} {
		p := day12()
		p.r = r
		list = append(list, p)
	}
	return list
}

func TestAllDutiesOfADay(t *testing.T) {
	found := map[int]int{}
	for _, p := range fixed12() {
		pieces := p.pieces()
		for _, a := range pieces {
			found[checkDuty12(t, "one piece", p, duty12(a))]++
			for _, b := range pieces {
				found[checkDuty12(t, "two pieces", p, duty12(a, b))]++
				for _, c := range pieces {
					found[checkDuty12(t, "three pieces", p, duty12(a, b, c))]++
				}
			}
		}
	}
	for rule := range 5 {
		if found[rule] < 100 {
			t.Error("rule", rule, "only", found[rule])
		}
	}
}

// duty12 returns a random duty, in which pieces often come in the order of time.
func (r *random2) duty12(p plan12) impl.Duty {
	var d impl.Duty
	pieces := p.pieces()
	for range []int{0, 1, 1, 2, 2, 2, 2, 3, 3, 3, 3, 4}[r.below(12)] {
		next := slices.Clone(pieces)
		if len(d.Pieces) > 0 && r.below(6) > 0 {
			next = slices.DeleteFunc(next, func(x []int) bool { return p.gap(d.Pieces[len(d.Pieces)-1], x) < 0 })
		}
		if len(next) > 0 {
			d.Pieces = append(d.Pieces, next[r.below(len(next))])
		}
	}
	return d
}

// noDuty12 returns a duty with one random change, after which its pieces may be pieces or not.
func (r *random2) noDuty12(p plan12, d impl.Duty) impl.Duty {
	if len(d.Pieces) == 0 {
		return d
	}
	changed := impl.Duty{Pieces: cloneBlocks11(d.Pieces)}
	i, k := r.below(len(changed.Pieces)), r.below(len(changed.Pieces))
	piece, ids := changed.Pieces[i], p.x.ids()
	place := r.below(len(piece))
	switch r.below(5) {
	case 0:
		changed.Pieces[i], changed.Pieces[k] = changed.Pieces[k], changed.Pieces[i]
	case 1:
		changed.Pieces[i] = slices.Delete(piece, place, place+1)
	case 2:
		changed.Pieces[i] = slices.Insert(piece, place, ids[r.below(len(ids))])
	case 3:
		piece[place] = ids[r.below(len(ids))]
	case 4:
		changed.Pieces[i] = slices.Concat(piece, changed.Pieces[k])
	}
	return changed
}

// inRange12 returns the minutes in 0..MaxMinutes that are closest to others.
func inRange12(minutes int) int { return max(0, min(minutes, impl.MaxMinutes)) }

// rules12 returns random rules that a duty of pieces often just keeps or just breaks.
func (r *random2) rules12(p plan12, d impl.Duty) impl.Rules {
	near := func() int { return []int{0, 0, 0, 1, -1, 30, -30, 200}[r.below(8)] }
	p.r = impl.Rules{SignOn: []int{0, 5, 15, 120}[r.below(4)], SignOff: []int{0, 5, 10, 60}[r.below(4)]}
	all := all12{lasts: []int{60}}
	if len(d.Pieces) > 0 {
		all = p.all(d)
	}
	p.r.MaxDrive = inRange12(slices.Max(all.lasts) + near())
	p.r.MaxLength = inRange12(all.length + near())
	if len(all.gaps) > 0 {
		p.r.MinBreak = inRange12(slices.Min(all.gaps) - near())
		p.r.PaidBreak = inRange12(all.gaps[r.below(len(all.gaps))] + near())
	}
	return p.r
}

// plans12 returns random plans, in which there is a trip at least.
func plans12(seed int, count int) []plan12 {
	r := random2(seed)
	var list []plan12
	for _, x := range samples11(count, impl.MaxTrips) {
		if len(x.t.Trips) > 0 {
			list = append(list, plan12{x: x, blocks: r.someBlocks11(x)})
		}
	}
	return list
}

func TestRandomDuties(t *testing.T) {
	r := random2(12)
	found := map[int]int{}
	for _, p := range plans12(121, 1200) {
		for range 8 {
			d := r.duty12(p)
			p.r = r.rules12(p, d)
			found[checkDuty12(t, "random", p, d)]++
			found[checkDuty12(t, "changed", p, r.noDuty12(p, d))]++
		}
		if t.Failed() {
			t.FailNow()
		}
	}
	for rule := range 5 {
		if found[rule] < 1000 {
			t.Error("rule", rule, "only", found[rule])
		}
	}
}

func TestRandomPieces(t *testing.T) {
	r := random2(122)
	none, some := 0, 0
	for _, p := range plans12(1212, 800) {
		pieces := p.pieces()
		p.r = r.rules12(p, duty12(pieces[r.below(len(pieces))]))
		for _, id := range p.x.ids() {
			want := p.from(id)
			l, ok := impl.PiecesFrom(p.x.t, p.x.f, p.blocks, p.r, id)
			if !ok || !sameBlocks11(l, want) {
				t.Fatal(p, id, l, ok, "and not", want)
			}
			if len(want) == 0 {
				none++
			} else {
				some++
			}
		}
		for _, piece := range pieces {
			if yes, ok := impl.IsPiece(p.x.t, p.x.f, p.blocks, piece); !ok || !yes {
				t.Fatal(p, piece, yes, ok)
			}
			changed := r.noDuty12(p, duty12(piece)).Pieces[0]
			want := slices.ContainsFunc(pieces, func(x []int) bool { return slices.Equal(x, changed) })
			if yes, ok := impl.IsPiece(p.x.t, p.x.f, p.blocks, changed); !ok || yes != want {
				t.Fatal(p, changed, yes, ok)
			}
		}
	}
	if none < 200 || some < 2000 {
		t.Error("only", none, "and", some)
	}
}

// checkRules12 checks, without BrokenRule, that a duty obeys every rule.
func checkRules12(t *testing.T, p plan12, d impl.Duty) {
	t.Helper()
	if len(d.Pieces) < 1 || len(d.Pieces) > 3 {
		t.Fatal(p, d, "has", len(d.Pieces), "pieces")
	}
	driven := map[int]bool{}
	for i, piece := range d.Pieces {
		if yes, ok := impl.IsPiece(p.x.t, p.x.f, p.blocks, piece); !ok || !yes {
			t.Fatal(p, d, "has no piece", piece)
		}
		for _, id := range piece {
			if driven[id] {
				t.Fatal(p, d, "has trip", id, "twice")
			}
			driven[id] = true
		}
		s := p.span(piece)
		if s.To-s.From > p.r.MaxDrive {
			t.Fatal(p, d, "drives too long in", piece)
		}
		if i > 0 && p.gap(d.Pieces[i-1], piece) < p.r.MinBreak {
			t.Fatal(p, d, "has a short break before", piece)
		}
	}
	if p.all(d).length > p.r.MaxLength {
		t.Fatal(p, d, "is too long")
	}
}

// Promise 12. The rules are also as tight as they can be: a minute less, and one of them is
// broken.
func TestAValidDutyObeysEveryRule(t *testing.T) {
	r := random2(123)
	valid := 0
	for _, p := range plans12(1231, 1500) {
		for range 8 {
			d := r.duty12(p)
			p.r = r.rules12(p, d)
			if rule, ok := impl.BrokenRule(p.x.t, p.x.f, p.blocks, p.r, d); !ok || rule != impl.RuleNone {
				continue
			}
			valid++
			checkRules12(t, p, d)
			checkTight12(t, p, d)
		}
		if t.Failed() {
			t.FailNow()
		}
	}
	if valid < 2000 {
		t.Error("only", valid)
	}
}

// checkTight12 checks that a valid duty is valid with the tightest rules that it obeys, and with
// no tighter ones.
func checkTight12(t *testing.T, p plan12, d impl.Duty) {
	t.Helper()
	all := p.all(d)
	p.r.MaxDrive, p.r.MaxLength = slices.Max(all.lasts), all.length
	if len(all.gaps) > 0 {
		p.r.MinBreak = slices.Min(all.gaps)
	}
	checkRule12(t, "tight", p, d, impl.RuleNone)
	tighter := p
	tighter.r.MaxDrive--
	checkRule12(t, "tighter", tighter, d, impl.RuleDrive)
	tighter = p
	tighter.r.MaxLength--
	checkRule12(t, "tighter", tighter, d, impl.RuleLength)
	if len(all.gaps) > 0 && p.r.MinBreak < impl.MaxMinutes {
		tighter = p
		tighter.r.MinBreak++
		checkRule12(t, "tighter", tighter, d, impl.RuleBreak)
	}
}

// Promise 12: no driver is in two places.
func TestDriversArriveBeforeTheyGoOn(t *testing.T) {
	for _, p := range fixed12() {
		pieces := p.pieces()
		for _, a := range pieces {
			for _, b := range pieces {
				yes, ok := impl.CanCombine(p.x.t, p.x.f, p.blocks, p.r, a, b)
				if !ok || yes && p.gap(a, b) < 0 {
					t.Fatal(p.r, a, b, yes, ok)
				}
				if back, ok := impl.CanCombine(p.x.t, p.x.f, p.blocks, p.r, b, a); !ok || yes && back {
					t.Fatal(p.r, a, b, "in both orders", back, ok)
				}
			}
		}
	}
}

// results12 returns all results of the functions of the chapter, and changes everything that
// they hold afterwards.
func results12(t *testing.T, p plan12, d impl.Duty) string {
	t.Helper()
	s := fmt.Sprintln(impl.IsValidRules(p.r))
	s += fmt.Sprintln(impl.BrokenRule(p.x.t, p.x.f, p.blocks, p.r, d))
	s += fmt.Sprintln(impl.DutyLength(p.x.t, p.x.f, p.blocks, p.r, d))
	s += fmt.Sprintln(impl.PaidMinutes(p.x.t, p.x.f, p.blocks, p.r, d))
	gaps, ok := impl.FreeMinutes(p.x.t, p.x.f, p.blocks, p.r, d)
	s += fmt.Sprintln(gaps, ok)
	fill2(gaps)
	for _, id := range p.x.ids() {
		pieces, ok := impl.PiecesFrom(p.x.t, p.x.f, p.blocks, p.r, id)
		s += fmt.Sprintln(showBlocks11(t, pieces), ok)
	}
	for _, a := range d.Pieces {
		s += fmt.Sprintln(impl.IsPiece(p.x.t, p.x.f, p.blocks, a))
		for _, b := range d.Pieces {
			s += fmt.Sprintln(impl.CanCombine(p.x.t, p.x.f, p.blocks, p.r, a, b))
		}
	}
	return s
}

func TestDutiesAreNotModifiedAndNotReadBeyondTheEnd(t *testing.T) {
	r := random2(124)
	for _, p := range plans12(1241, 250) {
		d := r.duty12(p)
		p.r = r.rules12(p, d)
		roomy := plan12{sample11{roomy5(p.x.t), roomyFleet11(p.x.f)}, roomyBlocks11(p.blocks), p.r}
		roomyDuty := impl.Duty{Pieces: roomyBlocks11(d.Pieces)}
		before, beforeDead := wide5(roomy.x.t), wideBlocks11(roomy.x.f.Dead)
		beforeBlocks, beforePieces := wideBlocks11(roomy.blocks), wideBlocks11(roomyDuty.Pieces)
		got := results12(t, roomy, roomyDuty)
		if after := wide5(roomy.x.t); !reflect.DeepEqual(after, before) {
			t.Fatal("the timetable was", before, "and is", after)
		}
		if after := wideBlocks11(roomy.x.f.Dead); roomy.x.f.Turn != p.x.f.Turn || !reflect.DeepEqual(after, beforeDead) {
			t.Fatal("the fleet was", beforeDead, "and is", roomy.x.f)
		}
		if after := wideBlocks11(roomy.blocks); !reflect.DeepEqual(after, beforeBlocks) {
			t.Fatal("the blocks were", beforeBlocks, "and are", after)
		}
		if after := wideBlocks11(roomyDuty.Pieces); !reflect.DeepEqual(after, beforePieces) {
			t.Fatal("the pieces were", beforePieces, "and are", after)
		}
		for range 2 {
			clone := plan12{sample11{clone5(p.x.t), impl.Fleet{Dead: cloneBlocks11(p.x.f.Dead), Turn: p.x.f.Turn}}, cloneBlocks11(p.blocks), p.r}
			if got != results12(t, clone, impl.Duty{Pieces: cloneBlocks11(d.Pieces)}) {
				t.Fatal("other results for", p, d)
			}
		}
	}
}

// Pieces may be parts of the blocks in memory, with further trips of the block beyond their ends.
func TestPiecesThatArePartsOfTheBlocks(t *testing.T) {
	p := day12()
	block := p.blocks[0]
	d := duty12(block[:1], block[1:2], block[2:3])
	want := results12(t, day12(), duty12([]int{1}, []int{2}, []int{3}))
	if got := results12(t, p, d); got != want {
		t.Error(got, "and not", want)
	}
	if !sameBlocks11(p.blocks, day12().blocks) || !sameBlocks11(d.Pieces, blocks11([]int{1}, []int{2}, []int{3})) {
		t.Error("the blocks are", p.blocks, "and the pieces", d)
	}
	checkValid12(t, "parts", p, d, 65, 65, 10, 10)
}

// Blocks may lie one behind the other in memory, and still no piece is of two of them.
func TestPiecesOfBlocksThatAreNeighborsInMemory(t *testing.T) {
	p := day12()
	ids := slices.Concat(p.blocks...)
	p.blocks = blocks11(ids[:4], ids[4:7], ids[7:])
	for _, piece := range noPieces12() {
		if yes, ok := impl.IsPiece(p.x.t, p.x.f, p.blocks, piece); !ok || yes {
			t.Error(piece, "is a piece", yes, ok)
		}
		checkRule12(t, "no piece", p, duty12(piece), impl.RulePiece)
	}
	for _, id := range ids {
		if l, ok := impl.PiecesFrom(p.x.t, p.x.f, p.blocks, p.r, id); !ok || !sameBlocks11(l, p.from(id)) {
			t.Error("from", id, l, ok)
		}
	}
}

func TestPiecesShareNoMemoryWithTheBlocks(t *testing.T) {
	p := day12()
	pieces, ok := impl.PiecesFrom(p.x.t, p.x.f, p.blocks, p.r, 1)
	if !ok {
		t.Fatal("no pieces")
	}
	for _, block := range p.blocks {
		fill2(block)
	}
	clear(p.blocks)
	if want := blocks11([]int{1}, []int{1, 2}, []int{1, 2, 3}, []int{1, 2, 3, 4}); !sameBlocks11(pieces, want) {
		t.Error("were", want, "and are", pieces)
	}
}
