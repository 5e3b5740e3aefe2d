package mode_test

import (
	"math"
	"slices"
	"strings"
	"testing"

	"flotilla/api"
	"flotilla/mode"
)

// The modes by their numbers, written out: tests that took them from api alone could not see them changed.
const (
	none = api.Mode(0)
	is   = api.Mode(1)
	ix   = api.Mode(2)
	s    = api.Mode(3)
	six  = api.Mode(4)
	x    = api.Mode(5)
)

func modes() []api.Mode { return []api.Mode{none, is, ix, s, six, x} }

// wrong has numbers that are no mode: near the edges, such as could be taken for a mode when cut short, and the ends.
func wrong() []api.Mode {
	return []api.Mode{
		math.MinInt, math.MinInt + 1, math.MinInt + 5, math.MinInt32, -256, -255, -6, -5, -4, -3, -2, -1,
		6, 7, 8, 9, 10, 11, 12, 64, 127, 128, 255, 256, 257, 1 << 16, math.MaxInt32, 1 << 32, 1<<32 + 1, math.MaxInt - 5, math.MaxInt - 1, math.MaxInt,
	}
}

// few has all modes, and one or two of the wrong numbers of each kind, where all of them would take too long.
func few() []api.Mode { return append(modes(), -1, 6, math.MinInt, math.MaxInt) }

func anyOnes() []api.Mode { return append(modes(), wrong()...) }

// as is the mode as which the document counts a number.
func as(m api.Mode) api.Mode {
	if slices.Contains(modes(), m) {
		return m
	}
	return x
}

// besideByWords is the document's section 'Words', read with 'one another': what stands there holds both ways round.
func besideByWords(a, b api.Mode) bool {
	said := map[api.Mode][]api.Mode{
		none: {none, is, ix, s, six, x},
		is:   {none, is, ix, s, six},
		ix:   {is, ix},
		s:    {is, s},
		six:  {is},
		x:    {none},
	}
	a, b = as(a), as(b)
	return slices.Contains(said[a], b) || slices.Contains(said[b], a)
}

// below is the document's strength: what stands there, and what follows from it step by step.
func below(a, b api.Mode) bool {
	said := map[api.Mode][]api.Mode{
		none: {is, ix, s, six, x},
		is:   {ix, s},
		ix:   {six},
		s:    {six},
		six:  {x},
	}
	for _, next := range said[a] {
		if next == b || below(next, b) {
			return true
		}
	}
	return false
}

func coversByWords(a, b api.Mode) bool {
	a, b = as(a), as(b)
	return a == b || below(b, a)
}

// weakest is the one that is as strong as all of l, and below any other one that is.
func weakest(t *testing.T, l []api.Mode) api.Mode {
	t.Helper()
	var strong []api.Mode
	for _, m := range modes() {
		if !slices.ContainsFunc(l, func(h api.Mode) bool { return !coversByWords(m, h) }) {
			strong = append(strong, m)
		}
	}
	for _, m := range strong {
		if !slices.ContainsFunc(strong, func(other api.Mode) bool { return !coversByWords(other, m) }) {
			return m
		}
	}
	t.Fatalf("none is the weakest above %v", l)
	return none
}

// lists calls do with every list of the numbers, in every order, with repeats, of at most size of them.
func lists(from []api.Mode, size int, do func(l []api.Mode)) {
	var grow func(l []api.Mode)
	grow = func(l []api.Mode) {
		do(slices.Clone(l))
		if len(l) < size {
			for _, m := range from {
				grow(append(slices.Clone(l), m))
			}
		}
	}
	grow(nil)
}

// pairs calls do with every pair, wrong numbers among them, and beside one another.
func pairs(do func(a, b api.Mode)) {
	for _, a := range anyOnes() {
		for _, b := range anyOnes() {
			do(a, b)
		}
	}
}

// 4.1

func TestModesAreTheDocuments(t *testing.T) {
	if !slices.Equal(modes(), []api.Mode{api.None, api.IS, api.IX, api.S, api.SIX, api.X}) || api.ModeCount != 6 {
		t.Error("None, IS, IX, S, SIX, X, ModeCount:", api.None, api.IS, api.IX, api.S, api.SIX, api.X, api.ModeCount)
	}
}

func TestExamples(t *testing.T) {
	if got := mode.Join(api.IX, api.S); got != api.SIX {
		t.Error("Join(IX, S):", got)
	}
	if mode.Beside(api.IX, api.S) {
		t.Error("IX goes beside S")
	}
	if got := mode.Intent(api.S); got != api.IS {
		t.Error("Intent(S):", got)
	}
}

func TestKnown(t *testing.T) {
	for _, m := range modes() {
		if !mode.Known(m) {
			t.Errorf("%d is not known", m)
		}
	}
	for _, m := range wrong() {
		if mode.Known(m) {
			t.Errorf("%d is known", m)
		}
	}
	for m := api.Mode(-1000); m <= 1000; m++ {
		if mode.Known(m) != (m >= 0 && m <= 5) {
			t.Errorf("Known(%d): %t", m, mode.Known(m))
		}
	}
}

func TestBesideByTheWords(t *testing.T) {
	count := 0
	for _, a := range modes() {
		for _, b := range modes() {
			got := mode.Beside(a, b)
			if got != besideByWords(a, b) {
				t.Errorf("Beside(%d, %d): %t", a, b, got)
			}
			if got {
				count++
			}
		}
	}
	if count != 20 { // None 6, IS 5, IX 3, S 3, SIX 2, X 1
		t.Error("pairs that go beside one another:", count)
	}
}

func TestJoin(t *testing.T) {
	table := [6][6]api.Mode{
		{none, is, ix, s, six, x},
		{is, is, ix, s, six, x},
		{ix, ix, ix, six, six, x},
		{s, s, six, s, six, x},
		{six, six, six, six, six, x},
		{x, x, x, x, x, x},
	}
	for _, a := range modes() {
		for _, b := range modes() {
			got := mode.Join(a, b)
			if got != table[a][b] || got != weakest(t, []api.Mode{a, b}) {
				t.Errorf("Join(%d, %d): %d, want %d", a, b, got, table[a][b])
			}
		}
	}
}

func TestCoversByTheWords(t *testing.T) {
	count := 0
	for _, a := range modes() {
		for _, b := range modes() {
			got := mode.Covers(a, b)
			if got != coversByWords(a, b) {
				t.Errorf("Covers(%d, %d): %t", a, b, got)
			}
			if got {
				count++
			}
		}
	}
	if count != 20 { // None covers 1, IS 2, IX 3, S 3, SIX 5, X 6
		t.Error("pairs of which one covers the other:", count)
	}
	if mode.Covers(s, ix) || mode.Covers(ix, s) {
		t.Error("of IX and S one covers the other")
	}
}

func TestIntent(t *testing.T) {
	want := [6]api.Mode{none, is, ix, is, ix, ix}
	for _, m := range modes() {
		if got := mode.Intent(m); got != want[m] {
			t.Errorf("Intent(%d): %d, want %d", m, got, want[m])
		}
	}
	for _, m := range wrong() {
		if got := mode.Intent(m); got != ix {
			t.Errorf("Intent(%d): %d, want IX", m, got)
		}
	}
}

func TestNumbersThatAreNoModeCountAsX(t *testing.T) {
	pairs(func(a, b api.Mode) {
		if got := mode.Beside(a, b); got != mode.Beside(as(a), as(b)) || got != besideByWords(a, b) {
			t.Errorf("Beside(%d, %d): %t", a, b, got)
		}
		if got := mode.Join(a, b); got != mode.Join(as(a), as(b)) || got != weakest(t, []api.Mode{a, b}) {
			t.Errorf("Join(%d, %d): %d", a, b, got)
		}
		if got := mode.Covers(a, b); got != mode.Covers(as(a), as(b)) || got != coversByWords(a, b) {
			t.Errorf("Covers(%d, %d): %t", a, b, got)
		}
		if got := mode.Group(a, b); got != mode.Group(as(a), as(b)) {
			t.Errorf("Group(%d, %d): %d", a, b, got)
		}
		if got := mode.Allowed([]api.Mode{a}, b); got != mode.Allowed([]api.Mode{as(a)}, as(b)) {
			t.Errorf("Allowed(%d, %d): %t", a, b, got)
		}
	})
}

func TestWrongNumbersBesideOneAnother(t *testing.T) {
	for _, a := range wrong() {
		if !mode.Beside(a, none) || !mode.Beside(none, a) || mode.Beside(a, is) || mode.Beside(is, a) || mode.Beside(a, x) {
			t.Errorf("%d goes beside others than None, or not beside None", a)
		}
		for _, b := range wrong() {
			if mode.Beside(a, b) || !mode.Covers(a, b) || mode.Join(a, b) != x || mode.Group(a, b) != x || mode.Allowed([]api.Mode{a}, b) {
				t.Errorf("%d and %d: they don't count as X", a, b)
			}
		}
	}
}

func TestGroup(t *testing.T) {
	if got := mode.Group(); got != none {
		t.Error("Group of none:", got)
	}
	if mode.Group(nil...) != none || mode.Group([]api.Mode{}...) != none {
		t.Error("Group of an empty list is not None")
	}
	for _, m := range anyOnes() {
		if got := mode.Group(m); got != as(m) {
			t.Errorf("Group(%d): %d", m, got)
		}
	}
	if mode.Group(is, s, ix) != six || mode.Group(ix, none, is) != ix || mode.Group(is, 7, s) != x {
		t.Error("Group of some, one by one:", mode.Group(is, s, ix), mode.Group(ix, none, is), mode.Group(is, 7, s))
	}
}

func TestGroupOfSeveralInAnyOrder(t *testing.T) {
	lists(few(), 4, func(l []api.Mode) {
		got := mode.Group(l...)
		if got != weakest(t, l) {
			t.Fatalf("Group(%v): %d", l, got)
		}
		byJoins := none
		for _, m := range slices.Backward(l) {
			byJoins = mode.Join(m, byJoins)
		}
		if got != byJoins {
			t.Fatalf("Group(%v): %d, their Join %d", l, got, byJoins)
		}
	})
}

func TestGroupWhereverTheStrongestStands(t *testing.T) {
	for _, size := range []int{1, 2, 3, 17, 1024} {
		for _, at := range []int{0, size / 2, size - 1} {
			for _, m := range anyOnes() {
				l := make([]api.Mode, size)
				l[at] = m
				if got := mode.Group(l...); got != as(m) {
					t.Fatalf("Group of %d None with a %d at %d: %d", size-1, m, at, got)
				}
			}
		}
	}
}

func TestAllowed(t *testing.T) {
	for _, m := range anyOnes() {
		if !mode.Allowed(nil, m) || !mode.Allowed([]api.Mode{}, m) {
			t.Errorf("%d is not allowed where none is held", m)
		}
	}
	cases := []struct {
		held []api.Mode
		m    api.Mode
		want bool
	}{
		{[]api.Mode{is, ix, is}, ix, true}, {[]api.Mode{is, s, s}, s, true}, {[]api.Mode{is, is}, six, true}, {[]api.Mode{none, none}, x, true},
		{[]api.Mode{s, is, is}, ix, false}, {[]api.Mode{is, s, is}, ix, false}, {[]api.Mode{is, is, s}, ix, false},
		{[]api.Mode{x, none, none}, is, false}, {[]api.Mode{none, x, none}, is, false}, {[]api.Mode{none, none, x}, is, false},
		{[]api.Mode{-1, none, none}, is, false}, {[]api.Mode{none, 6, none}, is, false}, {[]api.Mode{none, none, math.MaxInt}, is, false},
		{[]api.Mode{x, -1, 6}, none, true}, {[]api.Mode{none, none}, 6, true}, {[]api.Mode{none, is}, 6, false},
	}
	for _, c := range cases {
		if got := mode.Allowed(c.held, c.m); got != c.want {
			t.Errorf("Allowed(%v, %d): %t", c.held, c.m, got)
		}
	}
}

func TestAllowedByTheWords(t *testing.T) {
	lists(few(), 3, func(held []api.Mode) {
		for _, m := range few() {
			want := !slices.ContainsFunc(held, func(h api.Mode) bool { return !besideByWords(h, m) })
			if got := mode.Allowed(held, m); got != want {
				t.Fatalf("Allowed(%v, %d): %t", held, m, got)
			}
		}
	})
}

func TestAllowedWhereverOneStandsInTheWay(t *testing.T) {
	for _, size := range []int{1, 2, 3, 17, 1024} {
		for _, at := range []int{0, size / 2, size - 1} {
			pairs(func(h, m api.Mode) {
				held := make([]api.Mode, size)
				held[at] = h
				if got := mode.Allowed(held, m); got != besideByWords(h, m) {
					t.Fatalf("%d None are held, and %d at %d: Allowed %d: %t", size-1, h, at, m, got)
				}
			})
		}
	}
}

func TestWhatIsHandedInIsNeitherChangedNorKept(t *testing.T) {
	all := []api.Mode{is, 9, none, s, ix, x, -3}
	was := slices.Clone(all)
	for size := range len(all) {
		for _, m := range anyOnes() {
			group, allowed := mode.Group(all[:size]...), mode.Allowed(all[:size], m)
			if !slices.Equal(all, was) {
				t.Fatal("changed", was, "to", all)
			}
			if group != weakest(t, was[:size]) || allowed != mode.Allowed(slices.Clone(was[:size]), m) {
				t.Fatalf("the first %d of %v, and %d: Group %d, Allowed %t", size, was, m, group, allowed)
			}
		}
	}
	clear(all)
	if mode.Group(all...) != none || mode.Group(is) != is || !mode.Allowed(all, x) || !mode.Allowed([]api.Mode{is}, ix) {
		t.Error("what is told hangs on what an earlier call was handed")
	}
}

// 4.2

func written() []string { return []string{"none", "is", "ix", "s", "six", "x"} }

func TestName(t *testing.T) {
	for m, want := range written() {
		if got := mode.Name(api.Mode(m)); got != want {
			t.Errorf("Name(%d): %q, want %q", m, got, want)
		}
	}
	for _, m := range wrong() {
		if got := mode.Name(m); got != "x" {
			t.Errorf("Name(%d): %q, want x", m, got)
		}
	}
}

func wantMode(t *testing.T, text string, want api.Mode) {
	t.Helper()
	if got, e := mode.Parse(text); got != want || e != api.OK {
		t.Errorf("Parse(%q): %d, %d; want %d", text, got, e, want)
	}
}

func wantForm(t *testing.T, text string) {
	t.Helper()
	if got, e := mode.Parse(text); got != 0 || e != api.ErrForm {
		t.Errorf("Parse(%q): %d, %d; want 0, ErrForm", text, got, e)
	}
}

func TestParse(t *testing.T) {
	for m, name := range written() {
		wantMode(t, name, api.Mode(m))
		wantMode(t, strings.Clone(name), api.Mode(m))
	}
}

func TestParseOfNoNames(t *testing.T) {
	texts := []string{
		"", " ", "\x00", "\n", "S", "X", "IS", "IX", "SIX", "NONE", "None", "Six", "siX", "iS", "Is",
		"n", "no", "non", "i", "si", "one", "ne", "xs", "xi", "sx", "xis", "isx", "ixs", "ss", "xx", "s s", "is ix", "is,ix",
		"0", "1", "5", "6", "-1", "Mode", "share", "u", "six\u0301", "\u0455", "\u0445", "\xff", "x\xff", "\xf3",
	}
	for _, text := range texts {
		wantForm(t, text)
	}
	for _, name := range written() {
		for _, more := range []string{" ", "\t", "\n", "\r\n", "\x00", ".", "0", "x", "s ", "none", "\xff", "\u00a0", "\ufeff"} {
			if !slices.Contains(written(), name+more) {
				wantForm(t, name+more)
			}
			if !slices.Contains(written(), more+name) {
				wantForm(t, more+name)
			}
		}
		wantForm(t, strings.ToUpper(name))
		wantForm(t, strings.Repeat(name, 1000))
	}
	wantForm(t, strings.Repeat("x", api.MaxBytes))
}

func TestParseOfAllShortTexts(t *testing.T) {
	for a := range 256 {
		for _, text := range []string{string([]byte{byte(a)}), string([]byte{'i', byte(a)}), string([]byte{byte(a), 'x'}), string([]byte{'s', byte(a), 'x'})} {
			if at := slices.Index(written(), text); at >= 0 {
				wantMode(t, text, api.Mode(at))
			} else {
				wantForm(t, text)
			}
		}
	}
}

func TestThereAndBack(t *testing.T) {
	seen := map[string]int{}
	for _, m := range modes() {
		name := mode.Name(m)
		wantMode(t, name, m)
		if seen[name]++; seen[name] > 1 {
			t.Errorf("two modes are named %q", name)
		}
	}
	for _, name := range written() {
		if m, _ := mode.Parse(name); mode.Name(m) != name {
			t.Errorf("%q and back: %q", name, mode.Name(m))
		}
	}
	for _, m := range wrong() {
		wantMode(t, mode.Name(m), x)
	}
}

// 4.3

func TestBesideAndJoinCanBeTurned(t *testing.T) {
	pairs(func(a, b api.Mode) {
		if mode.Beside(a, b) != mode.Beside(b, a) {
			t.Errorf("Beside of %d and %d hangs on which is first", a, b)
		}
		if mode.Join(a, b) != mode.Join(b, a) {
			t.Errorf("Join of %d and %d hangs on which is first", a, b)
		}
	})
}

func TestJoinsPutTogetherOtherwise(t *testing.T) {
	pairs(func(a, b api.Mode) {
		for _, c := range few() {
			if mode.Join(mode.Join(a, b), c) != mode.Join(a, mode.Join(b, c)) {
				t.Errorf("the Join of %d, %d, %d hangs on which come first", a, b, c)
			}
		}
	})
}

func TestJoinIsTheWeakestThatCoversBoth(t *testing.T) {
	pairs(func(a, b api.Mode) {
		join := mode.Join(a, b)
		if !mode.Known(join) || !mode.Covers(join, a) || !mode.Covers(join, b) {
			t.Errorf("Join(%d, %d): %d doesn't cover both", a, b, join)
		}
		for _, c := range few() {
			if mode.Covers(c, a) && mode.Covers(c, b) && !mode.Covers(c, join) {
				t.Errorf("Join(%d, %d): %d, but %d is weaker", a, b, join, c)
			}
		}
	})
}

func TestCoversIsAnOrder(t *testing.T) {
	pairs(func(a, b api.Mode) {
		if !mode.Covers(a, a) {
			t.Errorf("%d doesn't cover itself", a)
		}
		if (mode.Covers(a, b) && mode.Covers(b, a)) != (as(a) == as(b)) {
			t.Errorf("%d and %d cover one another, or don't, though they are one", a, b)
		}
		for _, c := range few() {
			if mode.Covers(a, b) && mode.Covers(b, c) && !mode.Covers(a, c) {
				t.Errorf("%d covers %d, which covers %d", a, b, c)
			}
		}
	})
}

func TestWhatGoesBesideAModeGoesBesideWeakerOnes(t *testing.T) {
	pairs(func(strong, weak api.Mode) {
		for _, m := range few() {
			if mode.Covers(strong, weak) && mode.Beside(m, strong) && !mode.Beside(m, weak) {
				t.Errorf("%d goes beside %d, but not beside %d", m, strong, weak)
			}
		}
	})
}

func TestWhatGoesBesideTwoGoesBesideTheirJoin(t *testing.T) {
	pairs(func(a, b api.Mode) {
		for _, m := range few() {
			if (mode.Beside(m, a) && mode.Beside(m, b)) != mode.Beside(m, mode.Join(a, b)) {
				t.Errorf("%d beside %d: %t, beside %d: %t, beside their Join: %t", m, a, mode.Beside(m, a), b, mode.Beside(m, b), mode.Beside(m, mode.Join(a, b)))
			}
		}
	})
}

func TestWhatGoesBesideEachGoesBesideTheGroup(t *testing.T) {
	lists(few(), 3, func(l []api.Mode) {
		for _, m := range few() {
			if mode.Allowed(l, m) != mode.Beside(mode.Group(l...), m) {
				t.Fatalf("%d beside each of %v: %t, beside their Group: %t", m, l, mode.Allowed(l, m), mode.Beside(mode.Group(l...), m))
			}
		}
	})
}

func TestWhatIsNeededAboveTwoGoesBesideOneAnother(t *testing.T) {
	pairs(func(a, b api.Mode) {
		if !mode.Beside(mode.Intent(a), mode.Intent(b)) {
			t.Errorf("above %d and %d: %d and %d don't go beside one another", a, b, mode.Intent(a), mode.Intent(b))
		}
	})
}
