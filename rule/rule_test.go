package rule

import (
	"math"
	"slices"
	"testing"

	"vanguard/api"
	"vanguard/lock"
)

// pinned reads a lock that a test writes as text.
func pinned(t *testing.T, s string) []api.Pin {
	t.Helper()
	l, e := lock.Parse(s)
	if e != api.OK {
		t.Fatalf("%q is no lock: %v", s, e)
	}
	return l
}

// must is the rule: where name is at version or above, with is at least or above.
func must(name, version, with, least int) api.Rule {
	return api.Rule{Name: name, Version: version, With: with, Least: least}
}

// chain leads from first to the name behind it, and so on, by so many rules; the last of the chain comes first, so that no rule is broken until all behind it in the list are mended.
func chain(first, many int) []api.Rule {
	var rules []api.Rule
	for k := range many {
		rules = append(rules, must(first+many-1-k, 1, first+many-k, 1))
	}
	return rules
}

// row is a lock of the names from first to last, all at this version.
func row(first, last, version int) []api.Pin {
	var l []api.Pin
	for name := first; name <= last; name++ {
		l = append(l, api.Pin{Name: name, Version: version})
	}
	return l
}

type wrongRules struct {
	what  string
	rules []api.Rule
	want  api.Errno
}

// someWrongRules has, for each wrong, the least and the greatest numbers that have it, and several wrongs at once.
func someWrongRules() []wrongRules {
	good := must(1, 1, 2, 1)
	all := []wrongRules{
		{"zero", []api.Rule{{}}, api.ErrRange},
		{"with itself", []api.Rule{must(3, 1, 3, 1)}, api.ErrForm},
		{"with the greatest itself", []api.Rule{must(api.MaxName, 1, api.MaxName, api.MaxVersion)}, api.ErrForm},
		{"with itself, behind a good one", []api.Rule{good, must(3, 1, 3, 1)}, api.ErrForm},
		{"with itself, of no version", []api.Rule{must(3, 0, 3, 1)}, api.ErrRange},
		{"with itself, of no least", []api.Rule{must(3, 1, 3, 0)}, api.ErrRange},
		{"no name, with itself", []api.Rule{must(0, 1, 0, 1)}, api.ErrRange},
		{"form in the first, range in the second", []api.Rule{must(3, 1, 3, 1), {}}, api.ErrForm},
		{"range in the first, form in the second", []api.Rule{{}, must(3, 1, 3, 1)}, api.ErrRange},
		{"too many good ones", slices.Repeat([]api.Rule{good}, api.MaxRules+1), api.ErrMany},
		{"too many, of no range", make([]api.Rule, api.MaxRules+1), api.ErrMany},
		{"too many, of no form", slices.Repeat([]api.Rule{must(3, 1, 3, 1)}, api.MaxRules+1), api.ErrMany},
		{"the last of all, of no form", append(slices.Repeat([]api.Rule{good}, api.MaxRules-1), must(3, 1, 3, 1)), api.ErrForm},
		{"the last of all, of no range", append(slices.Repeat([]api.Rule{good}, api.MaxRules-1), must(3, 1, 4, 100)), api.ErrRange},
	}
	for _, n := range [...]int{math.MinInt, -1, 0, api.MaxName + 1, math.MaxInt} {
		all = append(all,
			wrongRules{"name", []api.Rule{must(n, 1, 2, 1)}, api.ErrRange},
			wrongRules{"with", []api.Rule{must(1, 1, n, 1)}, api.ErrRange})
	}
	for _, n := range [...]int{math.MinInt, -1, 0, api.MaxVersion + 1, math.MaxInt} {
		all = append(all,
			wrongRules{"version", []api.Rule{must(1, n, 2, 1)}, api.ErrRange},
			wrongRules{"least", []api.Rule{must(1, 1, 2, n)}, api.ErrRange})
	}
	return all
}

type wrongPins struct {
	l    []api.Pin
	want api.Errno
}

func someWrongPins() []wrongPins {
	return []wrongPins{
		{row(0, 0, 1), api.ErrRange},
		{row(api.MaxName+1, api.MaxName+1, 1), api.ErrRange},
		{row(math.MinInt, math.MinInt+1, 1), api.ErrRange},
		{row(1, 3, 0), api.ErrRange},
		{row(1, 3, api.MaxVersion+1), api.ErrRange},
		{append(row(1, 3, 1), row(3, 4, 2)...), api.ErrTwice},
		{row(1, api.MaxPins+1, 1), api.ErrMany},
	}
}

// P3.1
func TestCheck(t *testing.T) {
	for _, rules := range [][]api.Rule{
		nil,
		{},
		{must(1, 1, 2, 1)},
		{must(2, 1, 1, 1)},
		{must(1, api.MaxVersion, api.MaxName, api.MaxVersion)},
		{must(api.MaxName, 1, 1, api.MaxVersion)},
		{must(1, 1, 2, 1), must(2, 1, 1, 1), must(1, 1, 2, 1)},
		slices.Repeat([]api.Rule{must(5, 50, 6, 60)}, api.MaxRules),
	} {
		if e := Check(rules); e != api.OK {
			t.Errorf("Check(%v) = %v", rules, e)
		}
	}
	for _, w := range someWrongRules() {
		if e := Check(w.rules); e != w.want {
			t.Errorf("%s: Check(%v) = %v, want %v", w.what, w.rules, e, w.want)
		}
	}
}

// P3.2
func TestBroken(t *testing.T) {
	most := must(1, api.MaxVersion, api.MaxName, api.MaxVersion)
	for _, c := range []struct {
		l     string
		rules []api.Rule
		want  int
	}{
		{"", nil, -1},
		{"1@1", nil, -1},
		{"", []api.Rule{must(1, 1, 2, 1)}, -1},
		{"2@1", []api.Rule{must(1, 1, 2, 1)}, -1},
		{"1@1", []api.Rule{must(1, 1, 2, 1)}, 0},
		{"1@1,2@1", []api.Rule{must(1, 1, 2, 1)}, -1},
		{"1@4", []api.Rule{must(1, 5, 2, 3)}, -1},
		{"1@5", []api.Rule{must(1, 5, 2, 3)}, 0},
		{"1@6", []api.Rule{must(1, 5, 2, 3)}, 0},
		{"1@5,2@2", []api.Rule{must(1, 5, 2, 3)}, 0},
		{"1@5,2@3", []api.Rule{must(1, 5, 2, 3)}, -1},
		{"1@5,2@4", []api.Rule{must(1, 5, 2, 3)}, -1},
		{"1@4,2@2", []api.Rule{must(1, 5, 2, 3)}, -1},
		{"5@5", []api.Rule{must(5, 5, 2, 3)}, 0},
		{"1@99", []api.Rule{most}, 0},
		{"1@99,20@98", []api.Rule{most}, 0},
		{"1@99,20@99", []api.Rule{most}, -1},
		{"1@98,20@1", []api.Rule{most}, -1},
		{"1@1", []api.Rule{must(2, 1, 3, 1), must(1, 1, 2, 1), must(1, 1, 3, 1)}, 1},
		{"1@1,2@1", []api.Rule{must(2, 1, 3, 1), must(1, 1, 2, 1), must(1, 1, 3, 1)}, 0},
		{"1@1,2@1,3@1", []api.Rule{must(2, 1, 3, 1), must(1, 1, 2, 1), must(1, 1, 3, 1)}, -1},
		{"1@1,3@1", chain(1, 2), 1},
		{"1@1", []api.Rule{must(1, 1, 2, 1), must(1, 1, 2, 1)}, 0},
		{"1@1", chain(1, api.MaxRules), api.MaxRules - 1},
		{"1@1,2@1,3@1,4@1,5@1,6@1,7@1,8@1,9@1,10@1", chain(1, api.MaxRules), 0},
	} {
		if k, e := Broken(pinned(t, c.l), c.rules); k != c.want || e != api.OK {
			t.Errorf("Broken(%q, %v) = %d, %v, want %d", c.l, c.rules, k, e, c.want)
		}
	}
}

// P3.3
func TestMend(t *testing.T) {
	for _, c := range []struct {
		l     string
		rules []api.Rule
		want  string
	}{
		{"", nil, ""},
		{"1@2,7@1", nil, "1@2,7@1"},
		{"", []api.Rule{must(1, 1, 2, 1)}, ""},
		{"1@1", []api.Rule{must(1, 1, 2, 3)}, "1@1,2@3"},
		{"2@1", []api.Rule{must(2, 1, 1, 3)}, "1@3,2@1"},
		{"1@1,7@1", []api.Rule{must(7, 1, 4, 9)}, "1@1,4@9,7@1"},
		{"1@1,2@1", []api.Rule{must(1, 1, 2, 3)}, "1@1,2@3"},
		{"1@1,2@4", []api.Rule{must(1, 1, 2, 3)}, "1@1,2@4"},
		{"1@1,2@1", []api.Rule{must(1, 2, 2, 3)}, "1@1,2@1"},
		{"1@99", []api.Rule{must(1, 99, 20, 99)}, "1@99,20@99"},
		// two rules of one name: the higher one holds, whichever comes first
		{"1@1", []api.Rule{must(1, 1, 2, 3), must(1, 1, 2, 5)}, "1@1,2@5"},
		{"1@1", []api.Rule{must(1, 1, 2, 5), must(1, 1, 2, 3)}, "1@1,2@5"},
		// rules that lead to one another
		{"1@2,3@1", []api.Rule{must(1, 2, 3, 5), must(3, 4, 6, 1)}, "1@2,3@5,6@1"},
		{"1@2,3@1", []api.Rule{must(3, 4, 6, 1), must(1, 2, 3, 5)}, "1@2,3@5,6@1"},
		{"1@2,3@1", []api.Rule{must(1, 2, 3, 5), must(3, 6, 6, 1)}, "1@2,3@5"},
		{"1@1", []api.Rule{must(1, 1, 2, 1), must(2, 1, 1, 1)}, "1@1,2@1"},
		{"1@1", []api.Rule{must(1, 1, 2, 2), must(2, 2, 1, 3), must(1, 3, 2, 4), must(2, 4, 1, 5)}, "1@5,2@4"},
		{"1@1", []api.Rule{must(2, 4, 1, 5), must(1, 3, 2, 4), must(2, 2, 1, 3), must(1, 1, 2, 2)}, "1@5,2@4"},
		{"1@1", []api.Rule{must(1, 1, 2, 1), must(2, 1, 3, 1), must(3, 1, 1, 1)}, "1@1,2@1,3@1"},
		{"1@1", []api.Rule{must(1, 1, 2, 1), must(2, 1, 3, 1), must(3, 1, 1, 99)}, "1@99,2@1,3@1"},
		{"1@1", chain(1, api.MaxRules), "1@1,2@1,3@1,4@1,5@1,6@1,7@1,8@1,9@1,10@1,11@1"},
	} {
		l, e := Mend(pinned(t, c.l), c.rules)
		if got, _ := lock.Print(l); got != c.want || e != api.OK {
			t.Errorf("Mend(%q, %v) = %v, %v, want %q", c.l, c.rules, l, e, c.want)
		}
	}
}

// P3.3: as many pins as may be, and one more.
func TestMendRoom(t *testing.T) {
	full := row(1, api.MaxPins, 1)
	beyond := api.MaxPins + 1
	for _, c := range []struct {
		what  string
		l     []api.Pin
		rules []api.Rule
		want  int // pins; 0: there are too many
	}{
		{"full, and nothing comes", full, nil, api.MaxPins},
		{"full, and all is kept", full, []api.Rule{must(1, 2, beyond, 1)}, api.MaxPins},
		{"full, and one is turned", full, []api.Rule{must(1, 1, 2, 2)}, api.MaxPins},
		{"full, and one comes", full, []api.Rule{must(1, 1, beyond, 1)}, 0},
		{"full, and the last that can be comes", full, []api.Rule{must(1, 1, api.MaxName, api.MaxVersion)}, 0},
		{"full, and one comes ahead", row(2, api.MaxPins+1, 1), []api.Rule{must(2, 1, 1, 1)}, 0},
		{"full, and one is turned so that one comes", full, []api.Rule{must(2, 2, beyond, 1), must(1, 1, 2, 2)}, 0},
		{"room for one", full[1:], []api.Rule{must(2, 1, 1, 1)}, api.MaxPins},
		{"room for one, and two come", full[1:], []api.Rule{must(2, 1, 1, 1), must(1, 1, beyond, 1)}, 0},
		{"room for one that comes by two rules", full[1:], []api.Rule{must(2, 1, 1, 1), must(2, 1, 1, 9)}, api.MaxPins},
		{"room for all of a chain", row(1, api.MaxPins-api.MaxRules, 1), chain(api.MaxPins-api.MaxRules, api.MaxRules), api.MaxPins},
		{"a chain too long", row(1, api.MaxPins-api.MaxRules+1, 1), chain(api.MaxPins-api.MaxRules+1, api.MaxRules), 0},
		{"as many more as can be", full, chain(api.MaxPins, api.MaxName-api.MaxPins), 0},
	} {
		want := api.OK
		if c.want == 0 {
			want = api.ErrMany
		}
		if got, e := Mend(c.l, c.rules); len(got) != c.want || e != want {
			t.Errorf("%s: Mend(%v, %v) = %v, %v, want %d pins, %v", c.what, c.l, c.rules, got, e, c.want, want)
		}
	}
}

// checkRefused wants that both calls refuse these by this error, with nothing beside it: Broken's number is 0, not -1.
func checkRefused(t *testing.T, l []api.Pin, rules []api.Rule, want api.Errno) {
	t.Helper()
	if k, e := Broken(l, rules); k != 0 || e != want {
		t.Errorf("Broken(%v, %v) = %d, %v, want %v", l, rules, k, e, want)
	}
	if got, e := Mend(l, rules); got != nil || e != want {
		t.Errorf("Mend(%v, %v) = %v, %v, want %v", l, rules, got, e, want)
	}
}

// P3.2 and P3.3: the lock is told ahead of the rules.
func TestErrors(t *testing.T) {
	for _, w := range someWrongPins() {
		checkRefused(t, w.l, nil, w.want)
		checkRefused(t, w.l, chain(1, 3), w.want)
		for _, other := range someWrongRules() {
			checkRefused(t, w.l, other.rules, w.want)
		}
	}
	for _, w := range someWrongRules() {
		for _, l := range [][]api.Pin{nil, row(1, 1, 1), row(1, api.MaxPins, api.MaxVersion)} {
			checkRefused(t, l, w.rules, w.want)
		}
	}
}

// P3.3: rules that are wrong are told ahead of a rule that brings a pin too many; and Mend refuses by ErrMany with no list.
func TestMendErrorsInOrder(t *testing.T) {
	full, bringing := row(1, api.MaxPins, 1), must(1, 1, api.MaxName, 1)
	checkRefused(t, full, []api.Rule{bringing, {}}, api.ErrRange)
	checkRefused(t, full, []api.Rule{bringing, must(3, 1, 3, 1)}, api.ErrForm)
	if got, e := Mend(full, []api.Rule{bringing}); got != nil || e != api.ErrMany {
		t.Errorf("Mend of a full lock: %v, %v", got, e)
	}
}

// keeps says of one rule what P3.2 says, by its words.
func keeps(l []api.Pin, r api.Rule) bool {
	there := func(name, version int) bool {
		return slices.ContainsFunc(l, func(p api.Pin) bool { return p.Name == name && p.Version >= version })
	}
	return !there(r.Name, r.Version) || there(r.With, r.Least)
}

// holds: has a all that b has, none of it at a lesser version?
func holds(a, b []api.Pin) bool {
	for _, p := range b {
		if lock.Find(a, p.Name) < p.Version {
			return false
		}
	}
	return true
}

// gridLocks are all locks of three names, the least and the greatest among them, each absent or at one of three versions.
func gridLocks() [][]api.Pin {
	all := [][]api.Pin{nil}
	for _, name := range [...]int{1, 7, api.MaxName} {
		for _, l := range slices.Clone(all) {
			for _, version := range [...]int{1, 2, api.MaxVersion} {
				all = append(all, append(slices.Clone(l), api.Pin{Name: name, Version: version}))
			}
		}
	}
	return all
}

// gridRules are all rules over these names and versions.
func gridRules() []api.Rule {
	var all []api.Rule
	names, versions := [...]int{1, 7, api.MaxName}, [...]int{1, 2, api.MaxVersion}
	for _, name := range names {
		for _, with := range names {
			for _, version := range versions {
				for _, least := range versions {
					if name != with {
						all = append(all, must(name, version, with, least))
					}
				}
			}
		}
	}
	return all
}

// checkLeast holds Broken and Mend of l against P3.2 and P3.4, among all locks of the grid.
func checkLeast(t *testing.T, l []api.Pin, rules []api.Rule, locks [][]api.Pin) {
	t.Helper()
	broken := slices.IndexFunc(rules, func(r api.Rule) bool { return !keeps(l, r) })
	if k, e := Broken(l, rules); k != broken || e != api.OK {
		t.Fatalf("Broken(%v, %v) = %d, %v, want %d", l, rules, k, e, broken)
	}
	mended, e := Mend(l, rules)
	if e != api.OK || lock.Check(mended) != api.OK || !holds(mended, l) {
		t.Fatalf("Mend(%v, %v) = %v, %v", l, rules, mended, e)
	}
	if k, e := Broken(mended, rules); k != -1 || e != api.OK {
		t.Fatalf("Mend(%v, %v) = %v: rule %d is broken", l, rules, mended, k)
	}
	for _, other := range locks {
		kept := !slices.ContainsFunc(rules, func(r api.Rule) bool { return !keeps(other, r) })
		if kept && holds(other, l) && !holds(other, mended) {
			t.Fatalf("Mend(%v, %v) = %v, and %v is less", l, rules, mended, other)
		}
	}
}

// P3.4, of all pairs of rules of the grid, to all its locks.
func TestLeast(t *testing.T) {
	locks, rules := gridLocks(), gridRules()
	for _, first := range rules {
		for _, second := range rules {
			for _, l := range locks {
				checkLeast(t, l, []api.Rule{first, second}, locks)
			}
		}
	}
}

// P3.4, of as many rules as may be, taken from the grid at strides that mix them.
func TestLeastOfMany(t *testing.T) {
	locks, rules := gridLocks(), gridRules()
	for stride := range len(rules) {
		for start := range len(rules) {
			var some []api.Rule
			for k := range api.MaxRules {
				some = append(some, rules[(start+k*stride+k*k)%len(rules)])
			}
			checkLeast(t, locks[(start*7+stride)%len(locks)], some, locks)
		}
	}
}

// P2 of 'What holds everywhere': what is handed in stays as it is, with the room behind it, and what is answered is new memory, even where nothing is mended.
func TestMemory(t *testing.T) {
	behind, after := api.Pin{Name: 77, Version: 78}, must(71, 72, 73, 74)
	for _, l := range gridLocks() {
		for _, rules := range [][]api.Rule{nil, {must(1, 1, 2, 1)}, {must(1, 1, 7, 2), must(7, 2, api.MaxName, 2)}, chain(1, 6), {{}}} {
			pinRoom, ruleRoom := append(slices.Clone(l), behind, behind, behind), append(slices.Clone(rules), after, after)
			pinsBefore, rulesBefore := slices.Clone(pinRoom), slices.Clone(ruleRoom)
			given, givenRules := pinRoom[:len(l)], ruleRoom[:len(rules)]
			Check(givenRules)
			Broken(given, givenRules)
			got, _ := Mend(given, givenRules)
			got = append(got, api.Pin{Name: 5, Version: 5})
			for k := range got {
				got[k] = api.Pin{Name: 6, Version: 6}
			}
			if !slices.Equal(pinRoom, pinsBefore) || !slices.Equal(ruleRoom, rulesBefore) {
				t.Fatalf("%v, %v: became %v, %v", pinsBefore, rulesBefore, pinRoom, ruleRoom)
			}
		}
	}
}

// Empty and nil are the same, of locks and of rules.
func TestNilAndEmpty(t *testing.T) {
	for _, l := range [][]api.Pin{nil, {}} {
		for _, rules := range [][]api.Rule{nil, {}} {
			if k, e := Broken(l, rules); k != -1 || e != api.OK {
				t.Errorf("Broken of nothing: %d, %v", k, e)
			}
			if got, e := Mend(l, rules); len(got) != 0 || e != api.OK {
				t.Errorf("Mend of nothing: %v, %v", got, e)
			}
		}
	}
}
