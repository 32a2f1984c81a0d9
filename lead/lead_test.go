package lead

import (
	"fmt"
	"math"
	"slices"
	"testing"

	"vanguard/api"
	"vanguard/note"
	"vanguard/wave"
)

// row is a lock of so many pins, named from and on, all at this version.
func row(from, many, version int) []api.Pin {
	var l []api.Pin
	for k := range many {
		l = append(l, api.Pin{Name: from + k, Version: version})
	}
	return l
}

func release(id int, l ...api.Pin) api.Release { return api.Release{ID: id, Lock: l} }

func publishRec(r api.Release) api.Rec { return api.Rec{Kind: api.LPublish, R: r} }

func startRec(n int) api.Rec { return api.Rec{Kind: api.LStart, N: n} }

func sendRec(agent, try int) api.Rec { return api.Rec{Kind: api.LSend, Agent: agent, Try: try} }

func gotRec(agent, try int, good bool) api.Rec {
	return api.Rec{Kind: api.LGot, Agent: agent, Try: try, Good: good}
}

var (
	backRec = api.Rec{Kind: api.LBack}
	endRec  = api.Rec{Kind: api.LEnd}
)

// told is all of a thing as a text, in which a list of nothing is like none.
func told(x any) string { return fmt.Sprintf("%v", x) }

// isZero tells whether there is nothing in l, not even an empty list.
func isZero(l api.Leader) bool {
	return l.Releases == nil && l.Now == 0 && l.Goal == 0 && !l.Back && l.Agents == nil && l.Next == 0
}

// someRules: 1 at 2 or above goes with 2, at 1 or above; 3 goes with 4, at 5 or above.
func someRules() []api.Rule {
	return []api.Rule{{Name: 1, Version: 2, With: 2, Least: 1}, {Name: 3, Version: 1, With: 4, Least: 5}}
}

// fleet is a configuration of three agents, in two waves.
func fleet() api.Config {
	return api.Config{First: release(1, row(1, 1, 1)...), Rules: someRules(), Waves: [][]int{{1}, {0, 2}}, Budget: 1}
}

// numbered are waves of these sizes, of agents from 0 on.
func numbered(sizes ...int) [][]int {
	var l [][]int
	next := 0
	for _, size := range sizes {
		var members []int
		for range size {
			members = append(members, next)
			next++
		}
		l = append(l, members)
	}
	return l
}

// P8.1
func TestAgents(t *testing.T) {
	one := []int{0}
	for _, c := range []struct {
		waves [][]int
		want  int // -1: any number above api.MaxAgents
	}{
		{nil, 0}, {[][]int{}, 0}, {[][]int{nil}, 0}, {[][]int{{}, nil, {}}, 0},
		{numbered(1), 1}, {numbered(1, 2), 3}, {numbered(2, 1), 3}, {numbered(3), 3},
		{numbered(api.MaxAgents), api.MaxAgents}, {numbered(1, 1, 1, 1, 1, 1), api.MaxAgents}, {numbered(0, 5, 0, 1, 0), api.MaxAgents},
		{[][]int{{7, -1}, {math.MaxInt}}, 3}, {[][]int{{0, 0}, {0}}, 3},
		{numbered(api.MaxAgents + 1), -1}, {numbered(api.MaxAgents, 1), -1}, {numbered(1, api.MaxAgents), -1},
		{numbered(6, 6, 6), -1}, {slices.Repeat([][]int{one}, 100000), -1}, {[][]int{make([]int, 100000), one}, -1},
	} {
		n := Agents(api.Config{Waves: c.waves})
		if c.want >= 0 && n != c.want || c.want < 0 && n <= api.MaxAgents {
			t.Errorf("Agents of %d waves = %d, want %d", len(c.waves), n, c.want)
		}
	}
}

func goodConfigs() []api.Config {
	broad := make([]api.Rule, api.MaxRules)
	for k := range broad {
		broad[k] = api.Rule{Name: api.MaxName, Version: api.MaxVersion, With: k + 1, Least: api.MaxVersion}
	}
	return []api.Config{
		fleet(),
		{First: release(1), Waves: numbered(1)},
		{First: api.Release{ID: 1, Lock: []api.Pin{}}, Rules: []api.Rule{}, Waves: numbered(1), Budget: api.MaxBudget},
		{First: release(1, row(1, api.MaxPins, 1)...), Rules: broad, Waves: numbered(api.MaxAgents), Budget: 2},
		{First: release(1, row(1, 2, 2)...), Rules: someRules(), Waves: numbered(1, 1, 1, 1, 1, 1), Budget: 3},
		{First: release(1, row(9, api.MaxPins, api.MaxVersion)...), Waves: [][]int{{5, 0}, {4}, {1, 2, 3}}},
		{First: release(1, api.Pin{Name: 3, Version: 1}, api.Pin{Name: 4, Version: 5}), Rules: someRules(), Waves: [][]int{{1, 0}}},
	}
}

// fault makes something wrong with what is right, and says the error; faults stand in the order in which they are told.
type fault[T any] struct {
	what string
	make func(*T)
	want api.Errno
}

func wrongLocks() []fault[[]api.Pin] {
	lay := func(l ...api.Pin) func(*[]api.Pin) { return func(to *[]api.Pin) { *to = l } }
	return []fault[[]api.Pin]{
		{"too many", lay(row(1, api.MaxPins+1, 1)...), api.ErrMany},
		{"too many, of nothing", lay(make([]api.Pin, api.MaxPins+1)...), api.ErrMany},
		{"no name", lay(api.Pin{Version: 1}), api.ErrRange},
		{"a name above all", lay(row(api.MaxName, 2, 1)...), api.ErrRange},
		{"no version", lay(row(1, 2, 0)...), api.ErrRange},
		{"a version above all", lay(row(1, 2, api.MaxVersion+1)...), api.ErrRange},
		{"twice", lay(api.Pin{Name: 3, Version: 1}, api.Pin{Name: 3, Version: 1}), api.ErrTwice},
		{"not in order", lay(api.Pin{Name: 3, Version: 1}, api.Pin{Name: 2, Version: 1}), api.ErrTwice},
	}
}

// configFaults are groups in the order in which they are told.
func configFaults() [][]fault[api.Config] {
	var ids, locks, begins, rules, waves []fault[api.Config]
	for _, id := range [...]int{math.MinInt, -1, 0, api.MaxReleases + 1, math.MaxInt} {
		ids = append(ids, fault[api.Config]{"no release's number", func(c *api.Config) { c.First.ID = id }, api.ErrRange})
	}
	for _, w := range wrongLocks() {
		locks = append(locks, fault[api.Config]{"First: " + w.what, func(c *api.Config) { w.make(&c.First.Lock) }, w.want})
	}
	for _, id := range [...]int{2, 3, api.MaxReleases} {
		begins = append(begins, fault[api.Config]{"not the first number", func(c *api.Config) { c.First.ID = id }, api.ErrRange})
	}
	for _, n := range [...]int{math.MinInt, -1, api.MaxBudget + 1, math.MaxInt} {
		begins = append(begins, fault[api.Config]{"no budget", func(c *api.Config) { c.Budget = n }, api.ErrRange})
	}
	for _, r := range []struct {
		l    []api.Rule
		want api.Errno
	}{
		{make([]api.Rule, api.MaxRules+1), api.ErrMany},
		{slices.Repeat(someRules(), api.MaxRules/2+1), api.ErrMany},
		{[]api.Rule{{}}, api.ErrRange},
		{[]api.Rule{{Name: 1, Version: 1, With: api.MaxName + 1, Least: 1}}, api.ErrRange},
		{append(someRules(), api.Rule{Name: 1, Version: 1, With: 2, Least: 0}), api.ErrRange},
		{append(someRules(), api.Rule{Name: 7, Version: 1, With: 7, Least: 1}), api.ErrForm},
	} {
		rules = append(rules, fault[api.Config]{"rules", func(c *api.Config) { c.Rules = r.l }, r.want})
	}
	breaks := fault[api.Config]{"a rule is broken", func(c *api.Config) {
		c.First.Lock, c.Rules = row(1, 1, 2), someRules()
	}, api.ErrRule}
	for _, w := range []struct {
		l    [][]int
		want api.Errno
	}{
		{nil, api.ErrRange}, {[][]int{}, api.ErrRange}, {[][]int{{}}, api.ErrRange}, {[][]int{nil, {}}, api.ErrRange},
		{numbered(api.MaxAgents + 1), api.ErrRange}, {numbered(api.MaxAgents, 1), api.ErrRange}, {numbered(0, api.MaxAgents+1), api.ErrRange},
		{slices.Repeat(numbered(1), api.MaxAgents+1), api.ErrRange},
		{numbered(0, 1), api.ErrForm}, {numbered(1, 0), api.ErrForm}, {[][]int{{}, {9}}, api.ErrForm},
		{[][]int{{1}}, api.ErrWho}, {[][]int{{0}, {2}}, api.ErrWho}, {[][]int{{0, -1}}, api.ErrWho}, {[][]int{{0, math.MaxInt}, {}}, api.ErrWho},
		{[][]int{{0, 0}}, api.ErrTwice}, {[][]int{{0}, {1, 0}}, api.ErrTwice}, {[][]int{{1, 1}, {9}}, api.ErrTwice},
	} {
		waves = append(waves, fault[api.Config]{"waves", func(c *api.Config) { c.Waves = w.l }, w.want})
	}
	return [][]fault[api.Config]{ids, locks, begins, rules, {breaks}, waves}
}

// pairs are all faults, alone, and each with each of a group behind its own; the one told later is made first, so that it can't undo the other.
func pairs[T any](groups [][]fault[T]) []fault[T] {
	var l []fault[T]
	for g, group := range groups {
		for _, f := range group {
			l = append(l, f)
			for _, later := range slices.Concat(groups[g+1:]...) {
				l = append(l, fault[T]{f.what + " ahead of " + later.what, func(x *T) { later.make(x); f.make(x) }, f.want})
			}
		}
	}
	return l
}

// P8.1
func TestConfig(t *testing.T) {
	for _, c := range goodConfigs() {
		if e := Config(c); e != api.OK {
			t.Errorf("Config(%v) = %v", c, e)
		}
	}
	for budget := range api.MaxBudget + 1 {
		c := fleet()
		c.Budget = budget
		if e := Config(c); e != api.OK {
			t.Errorf("Config with budget %d = %v", budget, e)
		}
	}
	for _, f := range pairs(configFaults()) {
		c := fleet()
		f.make(&c)
		if e := Config(c); e != f.want {
			t.Errorf("%s: Config(%v) = %v, want %v", f.what, c, e, f.want)
		}
	}
	if e := Config(api.Config{}); e != api.ErrRange {
		t.Errorf("Config of nothing = %v", e)
	}
}

// P8.2
func TestNew(t *testing.T) {
	for _, c := range goodConfigs() {
		l, e := New(c)
		want := api.Leader{Releases: []api.Release{c.First}, Now: 1, Agents: make([]api.Known, len(slices.Concat(c.Waves...))), Next: 1}
		if e != api.OK || told(l) != told(want) {
			t.Errorf("New(%v) = %v, %v, want %v", c, l, e, want)
		}
		if e := Check(c, l); e != api.OK {
			t.Errorf("Check of New(%v) = %v", c, e)
		}
	}
	for _, f := range pairs(configFaults()) {
		c := fleet()
		f.make(&c)
		if l, e := New(c); e != f.want || !isZero(l) {
			t.Errorf("%s: New(%v) = %v, %v, want %v", f.what, c, l, e, f.want)
		}
	}
}

// staff is a leader of fleet that goes from release 2 to 3, with something of everything.
func staff() api.Leader {
	return api.Leader{
		Releases: []api.Release{release(1, row(1, 1, 1)...), release(2, row(1, 2, 2)...), release(3, row(4, 2, 5)...), release(4)},
		Now:      2, Goal: 3,
		Agents: []api.Known{{State: api.Told, Try: 6}, {State: api.Fine, Try: 5}, {Try: 2}},
		Next:   7,
	}
}

// goodLeaders are all of fleet.
func goodLeaders() []api.Leader {
	fresh, _ := New(fleet())
	change := func(f func(*api.Leader)) api.Leader {
		l := staff()
		f(&l)
		return l
	}
	return []api.Leader{
		fresh,
		staff(),
		change(func(l *api.Leader) { l.Goal, l.Agents = 0, []api.Known{{Try: 6}, {Try: 5}, {}} }),
		change(func(l *api.Leader) { l.Goal = 1 }),
		change(func(l *api.Leader) { l.Now, l.Goal = 4, 3 }),
		change(func(l *api.Leader) { l.Now, l.Goal = 3, 4 }),
		change(func(l *api.Leader) { l.Back = true }),
		change(func(l *api.Leader) { l.Back, l.Agents[0].Back, l.Agents[1].Back = true, true, true }),
		change(func(l *api.Leader) { l.Back, l.Agents[0].State, l.Agents[0].Back = true, api.Fine, true }),
		change(func(l *api.Leader) { l.Agents[0].State = api.Ill }),
		change(func(l *api.Leader) { l.Agents[0].State, l.Agents[2].State = api.Fine, api.Ill }),
		change(func(l *api.Leader) {
			l.Agents = []api.Known{{State: api.Ill, Try: 1}, {State: api.Ill, Try: 1}, {State: api.Ill, Try: 6}}
		}),
		change(func(l *api.Leader) { l.Next = api.MaxTry + 1 }),
		change(func(l *api.Leader) { l.Next, l.Agents[0].Try = api.MaxTry+1, api.MaxTry }),
		change(func(l *api.Leader) { l.Releases = append(l.Releases, release(5), release(6)) }),
		change(func(l *api.Leader) { l.Releases, l.Now = append(l.Releases, release(5), release(6)), 6 }),
		change(func(l *api.Leader) { l.Releases, l.Goal = append(l.Releases, release(5), release(6)), 6 }),
	}
}

// leaderFaults are groups, in the order in which they are told, of faults of a leader of fleet.
func leaderFaults() [][]fault[api.Leader] {
	groups := [][]fault[api.Leader]{{
		{"no releases", func(l *api.Leader) { l.Releases = nil }, api.ErrMany},
		{"an empty list of releases", func(l *api.Leader) { l.Releases = []api.Release{} }, api.ErrMany},
		{"too many releases", func(l *api.Leader) { l.Releases = append(l.Releases, release(5), release(6), release(7)) }, api.ErrMany},
		{"too many releases, of nothing", func(l *api.Leader) { l.Releases = make([]api.Release, api.MaxReleases+1) }, api.ErrMany},
	}}
	for k := range staff().Releases {
		var locks, ids []fault[api.Leader]
		for _, w := range wrongLocks() {
			locks = append(locks, fault[api.Leader]{fmt.Sprint("release ", k+1, ": ", w.what), func(l *api.Leader) { w.make(&l.Releases[k].Lock) }, w.want})
		}
		breaks := fault[api.Leader]{fmt.Sprint("release ", k+1, " breaks a rule"), func(l *api.Leader) { l.Releases[k].Lock = row(3, 2, 4) }, api.ErrRule}
		for _, id := range [...]int{math.MinInt, -1, 0, k, k + 2, math.MaxInt} {
			ids = append(ids, fault[api.Leader]{fmt.Sprint("release ", k+1, " has number ", id), func(l *api.Leader) { l.Releases[k].ID = id }, api.ErrForm})
		}
		groups = append(groups, locks, []fault[api.Leader]{breaks}, ids)
	}
	var numbers []fault[api.Leader]
	for _, n := range [...]int{math.MinInt, -1, 0, 5, api.MaxReleases, math.MaxInt} {
		numbers = append(numbers, fault[api.Leader]{fmt.Sprint("Now ", n), func(l *api.Leader) { l.Now = n }, api.ErrRange})
	}
	for _, n := range [...]int{math.MinInt, -1, 5, api.MaxReleases, math.MaxInt} {
		numbers = append(numbers, fault[api.Leader]{fmt.Sprint("Goal ", n), func(l *api.Leader) { l.Goal = n }, api.ErrRange})
	}
	for _, n := range [...]int{math.MinInt, -1, 0, api.MaxTry + 2, math.MaxInt} {
		numbers = append(numbers, fault[api.Leader]{fmt.Sprint("Next ", n), func(l *api.Leader) { l.Next = n }, api.ErrRange})
	}
	groups = append(groups, numbers, []fault[api.Leader]{
		{"Goal is Now", func(l *api.Leader) { l.Now, l.Goal = 3, 3 }, api.ErrForm},
		{"back from nowhere", func(l *api.Leader) { l.Goal, l.Back, l.Agents = 0, true, make([]api.Known, 3) }, api.ErrForm},
		{"no agents", func(l *api.Leader) { l.Agents = nil }, api.ErrForm},
		{"an agent is missing", func(l *api.Leader) { l.Agents = l.Agents[:2] }, api.ErrForm},
		{"an agent too many", func(l *api.Leader) { l.Agents = append(l.Agents, api.Known{}) }, api.ErrForm},
		{"an agent too many, that may not be", func(l *api.Leader) { l.Agents = append(l.Agents, api.Known{State: -1}) }, api.ErrForm},
		{"another first release", func(l *api.Leader) { l.Releases[0].Lock = row(5, 1, 1) }, api.ErrForm},
		{"a first release of nothing", func(l *api.Leader) { l.Releases[0].Lock = nil }, api.ErrForm},
	})
	return append(groups, agentFaults()...)
}

// agentFaults are groups, in the order in which they are told, of faults of what a leader knows of its agents.
func agentFaults() [][]fault[api.Leader] {
	var groups [][]fault[api.Leader]
	for k := range staff().Agents {
		var numbers []fault[api.Leader]
		for _, n := range [...]int{math.MinInt, -1, api.Ill + 1, math.MaxInt} {
			numbers = append(numbers, fault[api.Leader]{fmt.Sprint("agent ", k, " has state ", n), func(l *api.Leader) { l.Agents[k].State = n }, api.ErrRange})
		}
		for _, n := range [...]int{math.MinInt, -1, 7, 8, api.MaxTry, math.MaxInt} {
			numbers = append(numbers, fault[api.Leader]{fmt.Sprint("agent ", k, " has try ", n), func(l *api.Leader) { l.Agents[k].Try = n }, api.ErrRange})
		}
		var forms []fault[api.Leader]
		for _, state := range [...]int{api.Told, api.Fine, api.Ill} {
			forms = append(forms,
				fault[api.Leader]{fmt.Sprint("agent ", k, " has state ", state, ", and no try"), func(l *api.Leader) { l.Agents[k] = api.Known{State: state} }, api.ErrForm},
				fault[api.Leader]{fmt.Sprint("agent ", k, " is back from state ", state), func(l *api.Leader) { l.Agents[k] = api.Known{State: state, Try: 4, Back: true} }, api.ErrForm})
		}
		forms = append(forms, fault[api.Leader]{fmt.Sprint("agent ", k, " is idle, and back"), func(l *api.Leader) { l.Agents[k] = api.Known{Try: 4, Back: true} }, api.ErrForm})
		groups = append(groups, numbers, forms)
	}
	return groups
}

// wrongLeaders are leaders of fleet with one fault, or two of them.
func wrongLeaders() []leaderCase {
	var l []leaderCase
	for _, f := range pairs(leaderFaults()) {
		x := staff()
		f.make(&x)
		l = append(l, leaderCase{f.what, x, f.want})
	}
	return l
}

type leaderCase struct {
	what string
	l    api.Leader
	want api.Errno
}

// P8.2
func TestCheck(t *testing.T) {
	c := fleet()
	for _, l := range goodLeaders() {
		if e := Check(c, l); e != api.OK {
			t.Errorf("Check(%v) = %v", l, e)
		}
	}
	wrong := wrongLeaders()
	for _, w := range wrong {
		if e := Check(c, w.l); e != w.want {
			t.Errorf("%s: Check(%v) = %v, want %v", w.what, w.l, e, w.want)
		}
	}
	if e := Check(c, api.Leader{}); e != api.ErrMany {
		t.Errorf("Check of nothing = %v", e)
	}
	for _, f := range pairs(configFaults()) {
		bad := fleet()
		f.make(&bad)
		for _, l := range []api.Leader{staff(), {}, wrong[0].l, wrong[len(wrong)-1].l} {
			if e := Check(bad, l); e != f.want {
				t.Errorf("%s: Check(%v, %v) = %v, want %v", f.what, bad, l, e, f.want)
			}
		}
	}
}

// P8.2: faults that the others don't show: an agent's state where all go nowhere; a leader that goes back.
func TestCheckAgents(t *testing.T) {
	c := fleet()
	nowhere := func(a api.Known) api.Leader {
		return api.Leader{Releases: staff().Releases, Now: 2, Agents: []api.Known{{Try: 6}, a, {}}, Next: 7}
	}
	backwards := func(a api.Known) api.Leader {
		return api.Leader{Releases: staff().Releases, Now: 2, Goal: 3, Back: true, Agents: []api.Known{{Try: 6}, a, {}}, Next: 7}
	}
	for _, x := range []struct {
		what string
		l    api.Leader
		want api.Errno
	}{
		{"idle", nowhere(api.Known{Try: 6}), api.OK},
		{"idle, never told", nowhere(api.Known{}), api.OK},
		{"told, and all go nowhere", nowhere(api.Known{State: api.Told, Try: 6}), api.ErrForm},
		{"fine, and all go nowhere", nowhere(api.Known{State: api.Fine, Try: 6}), api.ErrForm},
		{"ill, and all go nowhere", nowhere(api.Known{State: api.Ill, Try: 6}), api.ErrForm},
		{"back, and all go nowhere", nowhere(api.Known{Try: 6, Back: true}), api.ErrForm},
		{"a range ahead of form", nowhere(api.Known{State: api.Told, Try: 7}), api.ErrRange},
		{"back", backwards(api.Known{State: api.Told, Try: 6, Back: true}), api.OK},
		{"fine, back", backwards(api.Known{State: api.Fine, Try: 1, Back: true}), api.OK},
		{"ill, back", backwards(api.Known{State: api.Ill, Try: 1, Back: true}), api.OK},
		{"not told to go back yet", backwards(api.Known{State: api.Told, Try: 1}), api.OK},
		{"idle, and back", backwards(api.Known{Try: 6, Back: true}), api.ErrForm},
		{"back by no try", backwards(api.Known{State: api.Told, Back: true}), api.ErrForm},
		{"a range ahead of back", backwards(api.Known{Try: 7, Back: true}), api.ErrRange},
	} {
		if e := Check(c, x.l); e != x.want {
			t.Errorf("%s: Check(%v) = %v, want %v", x.what, x.l, e, x.want)
		}
	}
	for next := 1; next <= api.MaxTry+1; next++ {
		l := nowhere(api.Known{})
		l.Next, l.Agents = next, []api.Known{{Try: next - 1}, {}, {}}
		if e := Check(c, l); e != api.OK {
			t.Errorf("Check with Next %d = %v", next, e)
		}
		l.Agents[0].Try = next
		if e := Check(c, l); e != api.ErrRange {
			t.Errorf("Check with Next %d, and it is a try already = %v", next, e)
		}
	}
}

// P8.2: whatever the leaders are, a field that differs is seen.
func TestSame(t *testing.T) {
	cases := append(goodLeaders(), api.Leader{}, api.Leader{Now: -1}, api.Leader{Releases: make([]api.Release, 9), Agents: make([]api.Known, 9)})
	for k, w := range wrongLeaders() {
		if k%20 == 0 {
			cases = append(cases, w.l)
		}
	}
	texts := make([]string, len(cases))
	for k, l := range cases {
		texts[k] = told(l)
	}
	for j, a := range cases {
		for k, b := range cases {
			if want := texts[j] == texts[k]; Same(a, b) != want {
				t.Errorf("Same(%v, %v) isn't %v", a, b, want)
			}
		}
	}
	for _, l := range cases {
		for k, change := range []func(*api.Leader){
			func(l *api.Leader) { l.Releases = append(l.Releases, api.Release{}) },
			func(l *api.Leader) { l.Releases = append([]api.Release{{ID: -9}}, l.Releases...) },
			func(l *api.Leader) { l.Now = ^l.Now },
			func(l *api.Leader) { l.Goal = ^l.Goal },
			func(l *api.Leader) { l.Back = !l.Back },
			func(l *api.Leader) { l.Agents = append(l.Agents, api.Known{}) },
			func(l *api.Leader) { l.Next = ^l.Next },
		} {
			other := deep(l)
			change(&other)
			if Same(l, other) || Same(other, l) {
				t.Errorf("%v: change %d isn't seen", l, k)
			}
		}
	}
	none := api.Leader{}
	empty := api.Leader{Releases: []api.Release{}, Agents: []api.Known{}}
	if !Same(none, empty) || !Same(empty, none) {
		t.Error("a list of nothing isn't like none")
	}
	if !Same(api.Leader{Releases: []api.Release{{Lock: []api.Pin{}}}}, api.Leader{Releases: []api.Release{{}}}) {
		t.Error("a lock of nothing isn't like none")
	}
}

// P8.2: what differs within a list is seen, at each place of it.
func TestSameInLists(t *testing.T) {
	for k := range staff().Releases {
		for _, change := range []func(*api.Release){
			func(r *api.Release) { r.ID = ^r.ID },
			func(r *api.Release) { r.Lock = append(r.Lock, api.Pin{}) },
			func(r *api.Release) { r.Lock = append([]api.Pin{{Name: -9}}, r.Lock...) },
		} {
			l := deep(staff())
			change(&l.Releases[k])
			if Same(l, staff()) || Same(staff(), l) {
				t.Errorf("what differs in release %d isn't seen", k+1)
			}
		}
	}
	for k := range staff().Agents {
		for _, change := range []func(*api.Known){
			func(a *api.Known) { a.State = ^a.State },
			func(a *api.Known) { a.Try = ^a.Try },
			func(a *api.Known) { a.Back = !a.Back },
		} {
			l := staff()
			change(&l.Agents[k])
			if Same(l, staff()) || Same(staff(), l) {
				t.Errorf("what differs in agent %d isn't seen", k)
			}
		}
	}
}

// deep copies a leader, with all memory of its own.
func deep(l api.Leader) api.Leader {
	l.Releases, l.Agents = append([]api.Release(nil), l.Releases...), append([]api.Known(nil), l.Agents...)
	for k := range l.Releases {
		l.Releases[k].Lock = append([]api.Pin(nil), l.Releases[k].Lock...)
	}
	return l
}

// askedTurn is what the chapter says of whose turn it is, of a right leader that goes somewhere.
func askedTurn(c api.Config, l api.Leader, agent int) bool {
	a := l.Agents[agent]
	if l.Back {
		return a.State != api.Idle && !a.Back
	}
	ill := 0
	for _, members := range c.Waves {
		waits := false
		for _, k := range members {
			switch l.Agents[k].State {
			case api.Ill:
				ill++
			case api.Idle, api.Told:
				waits = true
			}
		}
		if waits { // so this wave is now; but who is ill behind it counts, too
			for k, other := range l.Agents {
				if other.State == api.Ill && wave.Of(c.Waves, k) > wave.Of(c.Waves, members[0]) {
					ill++
				}
			}
			return a.State == api.Idle && slices.Contains(members, agent) && ill <= c.Budget
		}
	}
	return false
}

// askedOver is what the chapter says of when it is over, of a right leader that goes somewhere.
func askedOver(c api.Config, l api.Leader) bool {
	ill := 0
	for _, a := range l.Agents {
		if l.Back {
			if a.State == api.Told || a.State == api.Fine && !a.Back || a.State == api.Ill && !a.Back {
				return false
			}
			continue
		}
		if a.State == api.Idle || a.State == api.Told {
			return false
		}
		if a.State == api.Ill {
			ill++
		}
	}
	return l.Back || ill <= c.Budget
}

// smallLeaders are all right leaders of so many agents that have gone by few tries.
func smallLeaders(agents, tries int) []api.Leader {
	releases := []api.Release{release(1, row(1, 1, 1)...), release(2, row(1, 2, 2)...)}
	var known []api.Known
	for state := api.Idle; state <= api.Ill; state++ {
		for try := range tries + 1 {
			known = append(known, api.Known{State: state, Try: try}, api.Known{State: state, Try: try, Back: true})
		}
	}
	groups := [][]api.Known{nil}
	for range agents {
		var longer [][]api.Known
		for _, g := range groups {
			for _, a := range known {
				longer = append(longer, append(slices.Clone(g), a))
			}
		}
		groups = longer
	}
	var l []api.Leader
	for _, g := range groups {
		for bits := range 16 {
			x := api.Leader{Releases: releases, Now: bits&1 + 1, Agents: g, Next: tries + bits>>1&1, Back: bits&4 != 0}
			if bits&8 != 0 {
				x.Goal = 3 - x.Now
			}
			if rightAgents(x) {
				l = append(l, x)
			}
		}
	}
	return l
}

// rightAgents tells by cases whether Check should take a leader of smallLeaders.
func rightAgents(l api.Leader) bool {
	if l.Goal == 0 && l.Back || l.Next == 0 {
		return false
	}
	for _, a := range l.Agents {
		if a.Try >= l.Next {
			return false
		}
		if a.State != api.Idle && (a.Try == 0 || l.Goal == 0) || a.State == api.Idle && a.Back || a.Back && !l.Back {
			return false
		}
	}
	return true
}

// smallFleet is a configuration with these waves.
func smallFleet(budget int, waves ...[]int) api.Config {
	return api.Config{First: release(1, row(1, 1, 1)...), Rules: someRules(), Waves: waves, Budget: budget}
}

func smallFleets() []api.Config {
	var l []api.Config
	for budget := range 4 {
		l = append(l, smallFleet(budget, []int{0, 1, 2}), smallFleet(budget, []int{1}, []int{0, 2}),
			smallFleet(budget, []int{2, 0}, []int{1}), smallFleet(budget, []int{2}, []int{1}, []int{0}))
	}
	return l
}

// P8.3: each small leader of three agents.
func TestTurnAndOver(t *testing.T) {
	leaders := smallLeaders(3, 1)
	for _, c := range smallFleets() {
		for _, l := range leaders {
			askAll(t, c, l)
		}
	}
	if len(leaders) < 200 {
		t.Errorf("there are but %d leaders", len(leaders))
	}
}

// askAll holds Turn of each agent, and Over, against what the chapter says of a right leader.
func askAll(t *testing.T, c api.Config, l api.Leader) {
	t.Helper()
	over, e := Over(c, l)
	if l.Goal == 0 {
		if over || e != api.ErrLate {
			t.Errorf("Over(%v) = %v, %v, want ErrLate", l, over, e)
		}
	} else if want := askedOver(c, l); over != want || e != api.OK {
		t.Errorf("Over(%v, %v) = %v, %v, want %v", c, l, over, e, want)
	}
	for agent := range l.Agents {
		turn, r, e := Turn(c, l, agent)
		if l.Goal == 0 {
			if turn || told(r) != told(api.Release{}) || e != api.ErrLate {
				t.Errorf("Turn(%v, %d) = %v, %v, %v, want ErrLate", l, agent, turn, r, e)
			}
			continue
		}
		to := l.Releases[l.Goal-1]
		if l.Back {
			to = l.Releases[l.Now-1]
		}
		if want := askedTurn(c, l, agent); turn != want || e != api.OK || told(r) != told(to) {
			t.Errorf("Turn(%v, %v, %d) = %v, %v, %v, want %v, %v", c, l, agent, turn, r, e, want, to)
		}
	}
}

// P8.3, told by hand: states are written as digits, agent by agent; b is one that is Fine, and Back.
func TestTurnByHand(t *testing.T) {
	waves := [][]int{{1}, {3, 0}, {2}}
	for _, x := range []struct {
		states string
		back   bool
		budget int
		turns  string
		over   bool
	}{
		{"0000", false, 0, "1", false},
		{"0100", false, 0, "", false},
		{"0200", false, 0, "03", false},
		{"0300", false, 0, "", false},
		{"0300", false, 1, "03", false},
		{"0201", false, 0, "0", false},
		{"0202", false, 0, "0", false},
		{"0203", false, 0, "", false},
		{"0203", false, 1, "0", false},
		{"0303", false, 1, "", false},
		{"0303", false, 2, "0", false},
		{"2202", false, 0, "2", false},
		{"2302", false, 0, "", false},
		{"2302", false, 3, "2", false},
		{"2212", false, 0, "", false},
		{"2222", false, 0, "", true},
		{"2232", false, 0, "", false},
		{"2232", false, 1, "", true},
		{"3333", false, 3, "", false},
		{"2333", false, 3, "", true},
		{"0020", false, 3, "1", false}, // ahead of their wave: nobody is told so, but Check takes it
		{"0000", true, 0, "", true},
		{"0100", true, 0, "1", false},
		{"0300", true, 0, "1", false},
		{"0b00", true, 0, "", true},
		{"1b02", true, 0, "03", false},
		{"bbbb", true, 0, "", true},
		{"bbb3", true, 3, "3", false},
	} {
		c := api.Config{First: release(1), Waves: waves, Budget: x.budget}
		l := api.Leader{Releases: []api.Release{release(1), release(2, row(1, 1, 1)...)}, Now: 1, Goal: 2, Back: x.back, Next: 9}
		for _, s := range x.states {
			a := api.Known{State: int(s - '0'), Try: 8}
			if s == 'b' {
				a = api.Known{State: api.Fine, Try: 8, Back: true}
			}
			l.Agents = append(l.Agents, a)
		}
		turns := ""
		for agent := range l.Agents {
			if turn, _, _ := Turn(c, l, agent); turn {
				turns += fmt.Sprint(agent)
			}
		}
		if over, e := Over(c, l); turns != x.turns || over != x.over || e != api.OK {
			t.Errorf("%s, back %v, budget %d: it is the turn of %q, and over: %v, %v", x.states, x.back, x.budget, turns, over, e)
		}
	}
}

// P8.3: who is told to go back, and isn't there yet, isn't over, though nobody's turn it is.
func TestToldBack(t *testing.T) {
	c, l := fleet(), staff()
	l.Back = true
	l.Agents = []api.Known{{}, {State: api.Told, Try: 6, Back: true}, {}}
	askAll(t, c, l)
	if over, e := Over(c, l); over || e != api.OK {
		t.Errorf("Over = %v, %v", over, e)
	}
}

// P8.3: which error comes first.
func TestTurnErrors(t *testing.T) {
	nobody := []int{math.MinInt, -1, 3, api.MaxAgents, math.MaxInt}
	for _, w := range wrongLeaders() {
		for _, agent := range append(nobody, 0, 2) {
			if turn, r, e := Turn(fleet(), w.l, agent); turn || r.ID != 0 || r.Lock != nil || e != w.want {
				t.Fatalf("%s: Turn(%d) = %v, %v, %v, want %v", w.what, agent, turn, r, e, w.want)
			}
		}
		if over, e := Over(fleet(), w.l); over || e != w.want {
			t.Fatalf("%s: Over = %v, %v, want %v", w.what, over, e, w.want)
		}
	}
	for _, f := range pairs(configFaults()) {
		c := fleet()
		f.make(&c)
		if turn, r, e := Turn(c, staff(), -1); turn || r.ID != 0 || r.Lock != nil || e != f.want {
			t.Errorf("%s: Turn = %v, %v, %v, want %v", f.what, turn, r, e, f.want)
		}
		if over, e := Over(c, staff()); over || e != f.want {
			t.Errorf("%s: Over = %v, %v, want %v", f.what, over, e, f.want)
		}
	}
	for _, l := range goodLeaders() {
		for _, agent := range nobody {
			if turn, r, e := Turn(fleet(), l, agent); turn || r.ID != 0 || r.Lock != nil || e != api.ErrWho {
				t.Errorf("Turn(%v, %d) = %v, %v, %v, want ErrWho", l, agent, turn, r, e)
			}
		}
		askAll(t, fleet(), l)
	}
}

// asTold is what the chapter says of a leader and a record of its log that are both right.
func asTold(c api.Config, l api.Leader, r api.Rec) (api.Leader, api.Errno) {
	l = deep(l)
	goes, known := l.Goal != 0, r.Agent < len(l.Agents)
	first := func(errors ...any) api.Errno { // a condition, and its error, each
		for k := 0; k < len(errors); k += 2 {
			if errors[k].(bool) {
				return errors[k+1].(api.Errno)
			}
		}
		return api.OK
	}
	var e api.Errno
	switch r.Kind {
	case api.LPublish:
		e = first(len(l.Releases) == api.MaxReleases, api.ErrMany, r.R.ID != len(l.Releases)+1, api.ErrLate, breaks(c, r.R), api.ErrRule)
		l.Releases = append(l.Releases, r.R)
	case api.LStart:
		e = first(goes, api.ErrLate, r.N > len(l.Releases), api.ErrWho, r.N == l.Now, api.ErrTwice)
		l.Goal = r.N
	case api.LSend:
		if e = first(!known, api.ErrWho, !goes, api.ErrLate); e == api.OK {
			e = first(r.Try != l.Next || !askedTurn(c, l, r.Agent), api.ErrLate)
			l.Agents[r.Agent], l.Next = api.Known{State: api.Told, Try: r.Try, Back: l.Back}, r.Try+1
		}
	case api.LGot:
		if e = first(!known, api.ErrWho); e == api.OK {
			a := &l.Agents[r.Agent]
			e = first(a.State != api.Told, api.ErrLate, a.Try != r.Try, api.ErrLate)
			a.State = map[bool]int{true: api.Fine, false: api.Ill}[r.Good]
		}
	case api.LBack:
		e = first(!goes || l.Back, api.ErrLate)
		l.Back = true
	case api.LEnd:
		if e = first(!goes, api.ErrLate); e == api.OK {
			e = first(!askedOver(c, l), api.ErrLate)
			l.Now = map[bool]int{true: l.Now, false: l.Goal}[l.Back]
			l.Goal, l.Back = 0, false
			for k, a := range l.Agents {
				l.Agents[k] = api.Known{Try: a.Try}
			}
		}
	}
	if e != api.OK {
		return api.Leader{}, e
	}
	return l, api.OK
}

// breaks tells whether a right release breaks one of the rules.
func breaks(c api.Config, r api.Release) bool {
	versions := map[int]int{}
	for _, p := range r.Lock {
		versions[p.Name] = p.Version
	}
	return slices.ContainsFunc(c.Rules, func(x api.Rule) bool {
		return versions[x.Name] >= x.Version && versions[x.With] < x.Least
	})
}

// leaderRecs are right records of a leader's log, by few tries.
func leaderRecs(tries ...int) []api.Rec {
	l := []api.Rec{backRec, endRec}
	for n := 1; n <= api.MaxReleases; n++ {
		l = append(l, startRec(n), publishRec(release(n)), publishRec(release(n, row(1, 2, 2)...)), publishRec(release(n, row(1, 1, 2)...)))
	}
	for agent := range api.MaxAgents {
		for _, try := range tries {
			l = append(l, sendRec(agent, try), gotRec(agent, try, true), gotRec(agent, try, false))
		}
	}
	return l
}

func agentRecs() []api.Rec {
	return []api.Rec{
		{Kind: api.ABegin, Try: 7, R: release(5, row(1, 2, 2)...)},
		{Kind: api.ABegin, Try: 7, R: release(5, row(1, 1, 2)...)},
		{Kind: api.AStep, Try: 7},
		{Kind: api.ADone, Try: 6},
		{Kind: api.ADone, Try: 6, Good: true},
	}
}

func wrongRecs() []api.Rec {
	l := []api.Rec{
		{}, {Kind: -1}, {Kind: math.MinInt}, {Kind: math.MaxInt}, {Kind: api.LEnd + 1},
		{Kind: api.LPublish}, {Kind: api.LPublish, R: release(5), N: 1}, {Kind: api.LPublish, R: release(5), Try: 1},
		{Kind: api.LPublish, R: release(5), Agent: 1}, {Kind: api.LPublish, R: release(5), Good: true},
		{Kind: api.LPublish, R: release(7)}, {Kind: api.LPublish, R: release(-1)},
		{Kind: api.LStart}, {Kind: api.LStart, N: -1}, {Kind: api.LStart, N: api.MaxReleases + 1}, {Kind: api.LStart, N: 1, Try: 1},
		{Kind: api.LSend, Agent: 2}, {Kind: api.LSend, Agent: -1, Try: 7}, {Kind: api.LSend, Agent: api.MaxAgents, Try: 7},
		{Kind: api.LSend, Agent: math.MaxInt, Try: 7}, {Kind: api.LSend, Agent: math.MinInt, Try: 7},
		{Kind: api.LSend, Agent: 2, Try: api.MaxTry + 1}, {Kind: api.LSend, Agent: 2, Try: 7, Good: true}, {Kind: api.LSend, Agent: 2, Try: 7, N: 1},
		{Kind: api.LGot, Try: 0}, {Kind: api.LGot, Try: -1}, {Kind: api.LGot, Agent: -1, Try: 6}, {Kind: api.LGot, Agent: api.MaxAgents, Try: 6},
		{Kind: api.LGot, Try: 6, R: release(1)}, {Kind: api.LGot, Try: 6, R: release(0, row(1, 1, 1)...)},
		{Kind: api.LBack, N: 1}, {Kind: api.LBack, Good: true}, {Kind: api.LEnd, Agent: 1}, {Kind: api.LEnd, R: release(1)},
		{Kind: api.AStep}, {Kind: api.ADone, Try: api.MaxTry + 1},
	}
	for _, w := range wrongLocks() {
		r := publishRec(release(5))
		w.make(&r.R.Lock)
		l = append(l, r)
	}
	return l
}

// P8.4: which error comes first: that of the configuration, of the leader, of the record, of a kind that isn't the leader's.
func TestNextErrors(t *testing.T) {
	recs := slices.Concat(leaderRecs(7), agentRecs(), wrongRecs())
	for k, w := range wrongLeaders() {
		r := recs[k%len(recs)]
		if l, e := Next(fleet(), w.l, r); e != w.want || !isZero(l) {
			t.Errorf("%s: Next(%v) = %v, %v, want %v", w.what, r, l, e, w.want)
		}
	}
	for _, f := range pairs(configFaults()) {
		c := fleet()
		f.make(&c)
		for _, r := range []api.Rec{sendRec(2, 7), {}, agentRecs()[0]} {
			for _, l := range []api.Leader{staff(), {}} {
				if l, e := Next(c, l, r); e != f.want || !isZero(l) {
					t.Errorf("%s: Next(%v) = %v, %v, want %v", f.what, r, l, e, f.want)
				}
			}
		}
	}
	for _, l := range goodLeaders() {
		for _, r := range wrongRecs() {
			want := note.Check(r)
			if want == api.OK {
				t.Fatalf("%v is a record", r)
			}
			if next, e := Next(fleet(), l, r); e != want || !isZero(next) {
				t.Errorf("Next(%v, %v) = %v, %v, want %v", l, r, next, e, want)
			}
		}
		for _, r := range agentRecs() {
			if next, e := Next(fleet(), l, r); e != api.ErrForm || !isZero(next) {
				t.Errorf("Next(%v, %v) = %v, %v, want ErrForm", l, r, next, e)
			}
		}
	}
}

// holdNext holds Next against what the chapter says of a right leader and a right record.
func holdNext(t *testing.T, c api.Config, l api.Leader, r api.Rec) {
	t.Helper()
	want, wantError := asTold(c, l, r)
	next, e := Next(c, l, r)
	if e != wantError || told(next) != told(want) {
		t.Errorf("Next(%v, %v, %v) = %v, %v, want %v, %v", c, l, r, next, e, want, wantError)
	}
	if e != api.OK && !isZero(next) {
		t.Errorf("Next(%v, %v) leaves something with %v: %v", l, r, e, next)
	}
	if e == api.OK && Check(c, next) != api.OK {
		t.Errorf("Next(%v, %v) = %v, which Check doesn't take: %v", l, r, next, Check(c, next))
	}
}

// P8.4: each leader, each record.
func TestNextAsTold(t *testing.T) {
	recs := leaderRecs(1, 2, 5, 6, 7, 8, api.MaxTry-1, api.MaxTry)
	for _, l := range goodLeaders() {
		for _, r := range recs {
			holdNext(t, fleet(), l, r)
		}
	}
	few := slices.DeleteFunc(leaderRecs(1, 2, 3), func(r api.Rec) bool { return r.Agent > 2 || r.R.ID > 4 || r.N > 4 })
	for _, c := range []api.Config{smallFleet(0, []int{0, 1}), smallFleet(1, []int{1}, []int{0}), smallFleet(0, []int{0}, []int{1})} {
		for _, l := range smallLeaders(2, 2) {
			for _, r := range few {
				holdNext(t, c, l, r)
			}
		}
	}
}

// P8.4, told by hand: what a record makes of staff, and which error comes first.
func TestNext(t *testing.T) {
	c, fifth := fleet(), release(5, row(1, 2, 9)...)
	change := func(f func(*api.Leader)) api.Leader {
		l := deep(staff())
		f(&l)
		return l
	}
	idle := change(func(l *api.Leader) { l.Goal, l.Agents = 0, []api.Known{{Try: 6}, {Try: 5}, {Try: 2}} })
	full := change(func(l *api.Leader) { l.Releases = append(l.Releases, release(5), release(6)) })
	ill := change(func(l *api.Leader) { l.Agents[0].State, l.Agents[1].State = api.Ill, api.Ill })
	used := change(func(l *api.Leader) { l.Next = api.MaxTry + 1 })
	last := change(func(l *api.Leader) { l.Next = api.MaxTry })
	through := change(func(l *api.Leader) { l.Agents[0].State, l.Agents[2].State = api.Fine, api.Ill })
	backwards := change(func(l *api.Leader) { l.Back = true })
	over := change(func(l *api.Leader) {
		l.Back, l.Agents = true, []api.Known{{State: api.Ill, Try: 6, Back: true}, {State: api.Fine, Try: 5, Back: true}, {Try: 2}}
	})
	with := func(l api.Leader, f func(*api.Leader)) api.Leader {
		l = deep(l)
		f(&l)
		return l
	}
	for _, x := range []struct {
		what string
		l    api.Leader
		r    api.Rec
		want api.Leader
		e    api.Errno
	}{
		{"one more", staff(), publishRec(fifth), with(staff(), func(l *api.Leader) { l.Releases = append(l.Releases, fifth) }), api.OK},
		{"one more, and nobody goes", idle, publishRec(fifth), with(idle, func(l *api.Leader) { l.Releases = append(l.Releases, fifth) }), api.OK},
		{"as many as may be", full, publishRec(fifth), api.Leader{}, api.ErrMany},
		{"as many as may be, ahead of a rule", full, publishRec(release(6, row(1, 1, 2)...)), api.Leader{}, api.ErrMany},
		{"the same number again", staff(), publishRec(release(4)), api.Leader{}, api.ErrLate},
		{"a number too far", staff(), publishRec(release(6)), api.Leader{}, api.ErrLate},
		{"a number ahead of a rule", staff(), publishRec(release(6, row(1, 1, 2)...)), api.Leader{}, api.ErrLate},
		{"a rule", staff(), publishRec(release(5, row(1, 1, 2)...)), api.Leader{}, api.ErrRule},
		{"another rule", staff(), publishRec(release(5, row(3, 2, 4)...)), api.Leader{}, api.ErrRule},
		{"start", idle, startRec(3), with(idle, func(l *api.Leader) { l.Goal = 3 }), api.OK},
		{"start, to an older one", idle, startRec(1), with(idle, func(l *api.Leader) { l.Goal = 1 }), api.OK},
		{"start, where all go already", staff(), startRec(4), api.Leader{}, api.ErrLate},
		{"late ahead of no such release", staff(), startRec(5), api.Leader{}, api.ErrLate},
		{"late ahead of twice", staff(), startRec(2), api.Leader{}, api.ErrLate},
		{"no such release", idle, startRec(5), api.Leader{}, api.ErrWho},
		{"the one that is now", idle, startRec(2), api.Leader{}, api.ErrTwice},
		{"told", staff(), sendRec(2, 7), with(staff(), func(l *api.Leader) { l.Agents[2], l.Next = api.Known{State: api.Told, Try: 7}, 8 }), api.OK},
		{"told by the last try", last, sendRec(2, api.MaxTry), with(last, func(l *api.Leader) {
			l.Agents[2], l.Next = api.Known{State: api.Told, Try: api.MaxTry}, api.MaxTry+1
		}), api.OK},
		{"told, and all tries are used up", used, sendRec(2, api.MaxTry), api.Leader{}, api.ErrLate},
		{"told by an older try", staff(), sendRec(2, 6), api.Leader{}, api.ErrLate},
		{"told by a try to come", staff(), sendRec(2, 8), api.Leader{}, api.ErrLate},
		{"told twice", staff(), sendRec(0, 7), api.Leader{}, api.ErrLate},
		{"told, and through", staff(), sendRec(1, 7), api.Leader{}, api.ErrLate},
		{"told, and nobody goes", idle, sendRec(1, 7), api.Leader{}, api.ErrLate},
		{"told, and too many are ill", ill, sendRec(2, 7), api.Leader{}, api.ErrLate},
		{"nobody is told", idle, sendRec(3, 8), api.Leader{}, api.ErrWho},
		{"told to go back", backwards, sendRec(1, 7), with(backwards, func(l *api.Leader) {
			l.Agents[1], l.Next = api.Known{State: api.Told, Try: 7, Back: true}, 8
		}), api.OK},
		{"told to go back on its way", backwards, sendRec(0, 7), with(backwards, func(l *api.Leader) {
			l.Agents[0], l.Next = api.Known{State: api.Told, Try: 7, Back: true}, 8
		}), api.OK},
		{"told to go back, and never told to go", backwards, sendRec(2, 7), api.Leader{}, api.ErrLate},
		{"told to go back twice", over, sendRec(0, 7), api.Leader{}, api.ErrLate},
		{"there, and fine", staff(), gotRec(0, 6, true), with(staff(), func(l *api.Leader) { l.Agents[0].State = api.Fine }), api.OK},
		{"there, and ill", staff(), gotRec(0, 6, false), with(staff(), func(l *api.Leader) { l.Agents[0].State = api.Ill }), api.OK},
		{"there, while all go back", backwards, gotRec(0, 6, true), with(backwards, func(l *api.Leader) { l.Agents[0].State = api.Fine }), api.OK},
		{"there by another try", staff(), gotRec(0, 5, true), api.Leader{}, api.ErrLate},
		{"there by a try to come", staff(), gotRec(0, 7, true), api.Leader{}, api.ErrLate},
		{"there twice", staff(), gotRec(1, 5, true), api.Leader{}, api.ErrLate},
		{"there, and not told", staff(), gotRec(2, 2, true), api.Leader{}, api.ErrLate},
		{"nobody is there", staff(), gotRec(3, 6, true), api.Leader{}, api.ErrWho},
		{"nobody is there, and nobody goes", idle, gotRec(5, 6, true), api.Leader{}, api.ErrWho},
		{"back", staff(), backRec, backwards, api.OK},
		{"back twice", backwards, backRec, api.Leader{}, api.ErrLate},
		{"back from nowhere", idle, backRec, api.Leader{}, api.ErrLate},
		{"the end", through, endRec, with(idle, func(l *api.Leader) { l.Now = 3 }), api.OK},
		{"the end, and somebody is told", staff(), endRec, api.Leader{}, api.ErrLate},
		{"the end of nothing", idle, endRec, api.Leader{}, api.ErrLate},
		{"the end, back", over, endRec, idle, api.OK},
		{"the end, and not all are back", backwards, endRec, api.Leader{}, api.ErrLate},
	} {
		next, e := Next(c, x.l, x.r)
		if e != x.e || told(next) != told(x.want) {
			t.Errorf("%s: Next(%v) = %v, %v, want %v, %v", x.what, x.r, next, e, x.want, x.e)
		}
	}
}

// way is a log of a fleet with budget 1: to release 2, where one is ill; then to release 1, and back again.
func way() []api.Rec {
	second := release(2, row(1, 2, 2)...)
	return []api.Rec{
		publishRec(second), startRec(2), sendRec(1, 1), gotRec(1, 1, true), sendRec(2, 2), sendRec(0, 3), gotRec(0, 3, false), gotRec(2, 2, true), endRec,
		startRec(1), sendRec(1, 4), gotRec(1, 4, false), sendRec(0, 5), backRec, sendRec(0, 6), sendRec(1, 7), gotRec(0, 6, true), gotRec(1, 7, true), endRec,
	}
}

// P8.4
func TestReplay(t *testing.T) {
	c, log := fleet(), way()
	want, e := New(c)
	if e != api.OK {
		t.Fatalf("New: %v", e)
	}
	for k := 0; ; k++ {
		if l, e := Replay(c, log[:k]); e != api.OK || told(l) != told(want) || !Same(l, want) {
			t.Fatalf("%d records: Replay = %v, %v, want %v", k, l, e, want)
		}
		if k == len(log) {
			break
		}
		if want, e = asTold(c, want, log[k]); e != api.OK {
			t.Fatalf("record %d is out of turn: %v", k, e)
		}
	}
	last := api.Leader{Releases: []api.Release{c.First, log[0].R}, Now: 2, Agents: []api.Known{{Try: 6}, {Try: 7}, {Try: 2}}, Next: 8}
	if told(want) != told(last) {
		t.Errorf("at last: %v, want %v", want, last)
	}
	for k := range len(log) + 1 { // a record that is out of turn, ahead of one that isn't any
		l := slices.Insert(slices.Clone(log), k, gotRec(0, api.MaxTry, true), api.Rec{})
		if x, e := Replay(c, l); e != api.ErrLate || !isZero(x) {
			t.Errorf("out of turn at %d: Replay = %v, %v", k, x, e)
		}
		l[k], l[k+1] = l[k+1], l[k]
		if x, e := Replay(c, l); e != api.ErrForm || !isZero(x) {
			t.Errorf("no record at %d: Replay = %v, %v", k, x, e)
		}
		for _, r := range agentRecs() {
			if x, e := Replay(c, slices.Insert(slices.Clone(log), k, r)); e != api.ErrForm || !isZero(x) {
				t.Errorf("a record of an agent at %d: Replay = %v, %v", k, x, e)
			}
		}
	}
}

// round are the records of going there, and back, of a leader of one agent, by so many tries more.
func round(try int) []api.Rec {
	return []api.Rec{startRec(2), sendRec(0, try), backRec, sendRec(0, try+1), gotRec(0, try+1, true), endRec}
}

// P8.4: how many records there may be, and what is told ahead of that.
func TestReplayMany(t *testing.T) {
	c := smallFleet(0, []int{0})
	full := []api.Rec{publishRec(release(2))}
	for try := 1; len(full) < api.MaxLog; try += 2 {
		full = append(full, round(try)...)
	}
	full = full[:api.MaxLog]
	if l, e := Replay(c, full); e != api.OK || l.Next != 67 || l.Now != 1 || l.Goal != 2 {
		t.Errorf("as many as may be: Replay = %v, %v", l, e)
	}
	for _, l := range [][]api.Rec{append(slices.Clone(full), backRec), append(slices.Clone(full), api.Rec{}), make([]api.Rec, api.MaxLog+1), make([]api.Rec, 50*api.MaxLog)} {
		if x, e := Replay(c, l); e != api.ErrMany || !isZero(x) {
			t.Errorf("%d records: Replay = %v, %v, want ErrMany", len(l), x, e)
		}
	}
	if x, e := Replay(c, make([]api.Rec, api.MaxLog)); e != api.ErrForm || !isZero(x) {
		t.Errorf("as many as may be, none of them a record: Replay = %v, %v", x, e)
	}
	for _, f := range pairs(configFaults()) {
		bad := fleet()
		f.make(&bad)
		for _, l := range [][]api.Rec{nil, {}, {{}}, full, make([]api.Rec, api.MaxLog+1)} {
			if x, e := Replay(bad, l); e != f.want || !isZero(x) {
				t.Errorf("%s: Replay of %d records = %v, %v, want %v", f.what, len(l), x, e, f.want)
			}
		}
	}
}

// P8.4: all tries are used up, and who was told is heard all the same.
func TestLastTry(t *testing.T) {
	c := smallFleet(0, []int{0}, []int{1})
	l := api.Leader{Releases: []api.Release{c.First, release(2)}, Now: 1, Goal: 2, Agents: make([]api.Known, 2), Next: api.MaxTry}
	for k, r := range []api.Rec{sendRec(0, api.MaxTry), gotRec(0, api.MaxTry, true)} {
		next, e := Next(c, l, r)
		if e != api.OK || next.Next != api.MaxTry+1 {
			t.Fatalf("record %d: Next = %v, %v", k, next, e)
		}
		l = next
	}
	if turn, _, e := Turn(c, l, 1); !turn || e != api.OK {
		t.Errorf("Turn = %v, %v", turn, e)
	}
	for try, want := range map[int]api.Errno{1: api.ErrLate, api.MaxTry: api.ErrLate, api.MaxTry + 1: api.ErrRange} {
		if next, e := Next(c, l, sendRec(1, try)); e != want || !isZero(next) {
			t.Errorf("told by try %d: Next = %v, %v, want %v", try, next, e, want)
		}
	}
}

// seen is what the records alone tell since the last start: who was told and who said that they are there, good or not.
type seen struct {
	back     bool
	told     map[int]bool
	got, ill map[int]bool
}

// danger tells what is wrong with telling an agent, by the records alone.
func (s seen) danger(c api.Config, agent int) string {
	if s.back {
		if !s.told[agent] {
			return "told to go back, and never told to go"
		}
		return ""
	}
	if len(s.ill) > c.Budget {
		return "told when too many are ill"
	}
	for _, members := range c.Waves[:wave.Of(c.Waves, agent)] {
		for _, k := range members {
			if !s.got[k] {
				return "told ahead of their wave"
			}
		}
	}
	if fine := len(s.got) - len(s.ill); len(s.told)+1-fine > c.Budget+len(c.Waves[wave.Of(c.Waves, agent)]) {
		return "more than the budget and one wave are in danger"
	}
	return ""
}

// with is what one record more tells.
func (s seen) with(r api.Rec) seen {
	put := func(m map[int]bool, k int) map[int]bool {
		more := map[int]bool{k: true}
		for old := range m {
			more[old] = true
		}
		return more
	}
	switch {
	case r.Kind == api.LStart:
		return seen{}
	case r.Kind == api.LBack:
		s.back = true
	case r.Kind == api.LSend && !s.back:
		s.told = put(s.told, r.Agent)
	case r.Kind == api.LGot && !s.back:
		s.got = put(s.got, r.Agent)
		if !r.Good {
			s.ill = put(s.ill, r.Agent)
		}
	}
	return s
}

// histories goes on with each record that isn't out of turn, so many times, and asks of each what it puts in danger.
func histories(t *testing.T, c api.Config, l api.Leader, s seen, more int) (logs int) {
	t.Helper()
	if more == 0 {
		return 1
	}
	recs := []api.Rec{startRec(3 - l.Now), backRec, endRec}
	for agent, a := range l.Agents {
		recs = append(recs, sendRec(agent, l.Next), gotRec(agent, max(a.Try, 1), true), gotRec(agent, max(a.Try, 1), false))
	}
	for _, r := range recs {
		next, e := Next(c, l, r)
		if e != api.OK {
			continue
		}
		if r.Kind == api.LSend {
			if danger := s.danger(c, r.Agent); danger != "" {
				t.Fatalf("%v, %v: agent %d is %s", c, l, r.Agent, danger)
			}
		}
		if want, _ := asTold(c, l, r); told(next) != told(want) {
			t.Fatalf("Next(%v, %v) = %v, want %v", l, r, next, want)
		}
		logs += histories(t, c, next, s.with(r), more-1)
	}
	return logs
}

// P8.5: whatever the log is, nobody is told ahead of their wave, nor when too many are ill.
func TestNobodyIsInDanger(t *testing.T) {
	for _, c := range []api.Config{
		smallFleet(0, []int{0}, []int{1}, []int{2}), smallFleet(1, []int{2}, []int{0}, []int{1}), smallFleet(0, []int{1, 2}, []int{0}),
		smallFleet(1, []int{1}, []int{0, 2}), smallFleet(2, []int{0, 1}, []int{2}), smallFleet(0, []int{0, 1, 2}), smallFleet(1, []int{1}, []int{0}),
	} {
		l, e := Replay(c, []api.Rec{publishRec(release(2, row(1, 2, 2)...))})
		if e != api.OK {
			t.Fatalf("publish: %v", e)
		}
		if logs := histories(t, c, l, seen{}, 10); logs < 200 {
			t.Errorf("%v: there are but %d logs", c, logs)
		}
	}
}

// roomy is l with something spare in the room behind it, and all of that memory.
func roomy[T any](l []T, spare T) (list, all []T) {
	all = append(slices.Clone(l), spare, spare, spare)
	return all[:len(l)], all
}

// memory is all that is handed in, each list with spare room behind it, and how to tell all of that memory, and to write over it.
type memory struct {
	tell []func() string
	fill []func()
}

// room lays a list into memory with spare room.
func room[T any](m *memory, l []T, spare T) []T {
	list, all := roomy(l, spare)
	m.tell = append(m.tell, func() string { return told(all) })
	m.fill = append(m.fill, func() {
		for k := range all {
			all[k] = spare
		}
	})
	return list
}

func (m *memory) release(r api.Release) api.Release {
	r.Lock = room(m, r.Lock, api.Pin{Name: 77, Version: 78})
	return r
}

func (m *memory) config(c api.Config) api.Config {
	c.First, c.Rules = m.release(c.First), room(m, c.Rules, api.Rule{Name: 77})
	waves := slices.Clone(c.Waves)
	for k, members := range waves {
		waves[k] = room(m, members, 77)
	}
	c.Waves = room(m, waves, nil)
	return c
}

func (m *memory) leader(l api.Leader) api.Leader {
	releases := slices.Clone(l.Releases)
	for k, r := range releases {
		releases[k] = m.release(r)
	}
	l.Releases, l.Agents = room(m, releases, api.Release{ID: 77}), room(m, l.Agents, api.Known{State: 77})
	return l
}

func (m *memory) told() string {
	all := ""
	for _, tell := range m.tell {
		all += tell()
	}
	return all
}

// fillPins writes over a list, and the spare room behind it.
func fillPins(l []api.Pin) {
	l = l[:cap(l)]
	for k := range l {
		l[k] = api.Pin{Name: -1, Version: -1}
	}
}

// fillLeader writes over all lists of a leader, and asks whether others are as they were.
func fillLeader(t *testing.T, l api.Leader) {
	t.Helper()
	for k := range l.Releases {
		ahead, behind := told(l.Agents)+told(l.Releases[:k]), told(l.Releases[k+1:])
		fillPins(l.Releases[k].Lock)
		if told(l.Agents)+told(l.Releases[:k]) != ahead || told(l.Releases[k+1:]) != behind {
			t.Errorf("lists of %v share memory", l)
		}
	}
	releases := l.Releases[:cap(l.Releases)]
	for k := range releases {
		releases[k] = api.Release{ID: -1}
	}
	agents := l.Agents[:cap(l.Agents)]
	for k := range agents {
		agents[k] = api.Known{State: -1}
	}
}

// P2 of 'What holds everywhere': nothing that is handed in is changed, nor the room behind it, and no answer shares memory with it, or with itself.
func TestMemory(t *testing.T) {
	recs := []api.Rec{
		publishRec(release(2, row(1, 2, 2)...)), publishRec(release(5, row(1, 2, 2)...)), publishRec(release(5, row(1, 1, 2)...)),
		startRec(2), startRec(3), sendRec(2, 7), sendRec(0, 7), gotRec(0, 6, true), gotRec(0, 6, false), backRec, endRec, {},
	}
	leaders := append(goodLeaders(), api.Leader{}, wrongLeaders()[40].l)
	for _, from := range leaders {
		for _, r := range recs {
			m := &memory{}
			c, l := m.config(fleet()), m.leader(from)
			if len(r.R.Lock) > 0 {
				r.R = m.release(r.R)
			}
			was := m.told()
			Agents(c)
			Config(c)
			Check(c, l)
			Same(l, l)
			Over(c, l)
			var kept []any
			for pass := range 2 { // what the first pass answers is written over; what the second answers is kept
				_, to, _ := Turn(c, l, 0)
				fresh, _ := New(c)
				next, _ := Next(c, l, r)
				none, _ := Replay(c, nil)
				some, _ := Replay(c, []api.Rec{r, startRec(2), sendRec(1, 1)})
				if pass == 1 {
					kept = []any{to, fresh, next, none, some}
					continue
				}
				fillPins(to.Lock)
				for _, x := range []api.Leader{fresh, next, none, some} {
					fillLeader(t, x)
				}
			}
			if m.told() != was {
				t.Fatalf("%v: what was handed in, or the room behind it, was changed", r)
			}
			before := told(kept)
			for _, fill := range m.fill {
				fill()
			}
			if told(kept) != before {
				t.Fatalf("%v: an answer has memory of what was handed in", r)
			}
		}
	}
}

// P2: what is handed in may share memory with itself; what is answered doesn't.
func TestMemoryShared(t *testing.T) {
	pins := row(1, 6, 1)
	c := api.Config{First: release(1, pins[:3]...), Waves: numbered(1)}
	l := api.Leader{Releases: []api.Release{release(1, pins[:3]...), release(2, pins[1:4]...), release(3, pins[:3]...)}, Now: 1, Goal: 2, Agents: make([]api.Known, 1), Next: 1}
	for _, r := range []api.Rec{publishRec(release(4, pins[:3]...)), sendRec(0, 1), backRec} {
		next, e := Next(c, l, r)
		if e != api.OK {
			t.Fatalf("%v: %v", r, e)
		}
		fillLeader(t, next)
		if !slices.Equal(pins, row(1, 6, 1)) {
			t.Fatalf("%v: what was handed in was changed: %v", r, pins)
		}
	}
}
