package agent

import (
	"fmt"
	"math"
	"slices"
	"testing"

	"vanguard/api"
	"vanguard/diff"
	"vanguard/note"
)

// row is a lock of so many pins, named from and on, all at this version.
func row(from, many, version int) []api.Pin {
	var l []api.Pin
	for k := range many {
		l = append(l, api.Pin{Name: from + k, Version: version})
	}
	return l
}

func release(id int, l ...api.Pin) api.Release { return api.Release{ID: id, Lock: l} }

func begin(try int, r api.Release) api.Rec { return api.Rec{Kind: api.ABegin, Try: try, R: r} }

func step(try int) api.Rec { return api.Rec{Kind: api.AStep, Try: try} }

func done(try int, good bool) api.Rec { return api.Rec{Kind: api.ADone, Try: try, Good: good} }

// told is all of a thing as a text, in which a list of nothing is like none.
func told(x any) string { return fmt.Sprintf("%v", x) }

// isZero tells whether there is nothing in a, not even an empty list.
func isZero(a api.Agent) bool {
	return a.Lock == nil && a.At == 0 && a.Try == 0 && !a.Going && a.Goal.ID == 0 && a.Goal.Lock == nil && !a.Good
}

type wrongLock struct {
	what string
	l    []api.Pin
	want api.Errno
}

func wrongLocks() []wrongLock {
	return []wrongLock{
		{"too many", row(1, api.MaxPins+1, 1), api.ErrMany},
		{"too many, of nothing", make([]api.Pin, api.MaxPins+1), api.ErrMany},
		{"no name", []api.Pin{{Version: 1}}, api.ErrRange},
		{"a name above all", row(api.MaxName, 2, 1), api.ErrRange},
		{"no version", row(1, 2, 0), api.ErrRange},
		{"a version above all", row(1, 2, api.MaxVersion+1), api.ErrRange},
		{"twice", []api.Pin{{Name: 3, Version: 1}, {Name: 3, Version: 1}}, api.ErrTwice},
		{"not in order", []api.Pin{{Name: 3, Version: 1}, {Name: 2, Version: 1}}, api.ErrTwice},
	}
}

type wrongRelease struct {
	what string
	r    api.Release
	want api.Errno
}

func wrongReleases() []wrongRelease {
	var l []wrongRelease
	for _, id := range [...]int{math.MinInt, -1, 0, api.MaxReleases + 1, math.MaxInt} {
		l = append(l, wrongRelease{"no such number", release(id, row(1, 2, 3)...), api.ErrRange})
		for _, w := range wrongLocks() {
			l = append(l, wrongRelease{"a number ahead of a lock: " + w.what, release(id, w.l...), api.ErrRange})
		}
	}
	for _, w := range wrongLocks() {
		l = append(l, wrongRelease{w.what, release(1, w.l...), w.want}, wrongRelease{w.what, release(api.MaxReleases, w.l...), w.want})
	}
	return l
}

func goodReleases() []api.Release {
	return []api.Release{
		{ID: 1},
		{ID: 1, Lock: []api.Pin{}},
		release(2, row(1, 1, 1)...),
		release(3, row(2, 3, 7)...),
		release(4, row(1, api.MaxPins, 1)...),
		release(api.MaxReleases, row(api.MaxName-api.MaxPins+1, api.MaxPins, api.MaxVersion)...),
	}
}

// P7.1
func TestNew(t *testing.T) {
	for _, r := range goodReleases() {
		a, e := New(r)
		if e != api.OK || !slices.Equal(a.Lock, r.Lock) || a.At != r.ID || !a.Good {
			t.Errorf("New(%v) = %v, %v", r, a, e)
		}
		if a.Try != 0 || a.Going || a.Goal.ID != 0 || len(a.Goal.Lock) != 0 {
			t.Errorf("New(%v) has more than it should: %v", r, a)
		}
		if e := Check(a); e != api.OK {
			t.Errorf("Check of New(%v) = %v", r, e)
		}
	}
	for _, w := range wrongReleases() {
		if a, e := New(w.r); e != w.want || !isZero(a) {
			t.Errorf("%s: New(%v) = %v, %v, want %v", w.what, w.r, a, e, w.want)
		}
	}
}

type agentCase struct {
	what string
	a    api.Agent
	want api.Errno
}

func goodAgents() []agentCase {
	some, full := row(2, 3, 7), row(1, api.MaxPins, api.MaxVersion)
	other := row(api.MaxName-api.MaxPins+1, api.MaxPins, 1)
	goal := release(3, row(3, 3, 8)...)
	return []agentCase{
		{"new", api.Agent{Lock: some, At: 1, Good: true}, api.OK},
		{"new, of nothing", api.Agent{At: 1, Good: true}, api.OK},
		{"empty lists", api.Agent{Lock: []api.Pin{}, At: 1, Good: true, Goal: api.Release{Lock: []api.Pin{}}}, api.OK},
		{"the most of all", api.Agent{Lock: full, At: api.MaxReleases, Try: api.MaxTry, Good: true}, api.OK},
		{"there, and ill", api.Agent{Lock: some, At: 2, Try: 7}, api.OK},
		{"there, and good", api.Agent{Lock: some, At: 2, Try: 7, Good: true}, api.OK},
		{"never told, and ill", api.Agent{Lock: some, At: 2}, api.OK},
		{"going", api.Agent{Lock: some, At: 2, Try: 7, Going: true, Goal: goal}, api.OK},
		{"going by the first try", api.Agent{Lock: some, At: 2, Try: 1, Going: true, Goal: goal}, api.OK},
		{"going by the last try", api.Agent{Lock: some, At: 2, Try: api.MaxTry, Going: true, Goal: goal}, api.OK},
		{"one step is left", api.Agent{Lock: row(3, 2, 8), At: 2, Try: 7, Going: true, Goal: goal}, api.OK},
		{"no step is left", api.Agent{Lock: goal.Lock, At: 2, Try: 7, Going: true, Goal: goal}, api.OK},
		{"going to what it has", api.Agent{Lock: goal.Lock, At: goal.ID, Try: 7, Going: true, Goal: goal}, api.OK},
		{"going to nothing", api.Agent{Lock: some, At: 2, Try: 7, Going: true, Goal: release(1)}, api.OK},
		{"going from nothing", api.Agent{At: 2, Try: 7, Going: true, Goal: goal}, api.OK},
		{"going from nothing to nothing", api.Agent{Lock: []api.Pin{}, At: 2, Try: 7, Going: true, Goal: release(2)}, api.OK},
		{"going, all is turned", api.Agent{Lock: full, At: 2, Try: 7, Going: true, Goal: release(3, row(1, api.MaxPins, 1)...)}, api.OK},
		{"going, from full to full", api.Agent{Lock: full, At: 6, Try: 7, Going: true, Goal: release(6, other...)}, api.OK},
	}
}

func wrongAgents() []agentCase {
	some, twice := row(2, 3, 7), []api.Pin{{Name: 3, Version: 1}, {Name: 3, Version: 1}}
	goal := release(3, row(3, 3, 8)...)
	l := []agentCase{
		{"nothing", api.Agent{}, api.ErrRange},
		{"going, never told", api.Agent{Lock: some, At: 1, Going: true, Goal: goal}, api.ErrForm},
		{"going, and good", api.Agent{Lock: some, At: 1, Try: 7, Going: true, Goal: goal, Good: true}, api.ErrForm},
		{"going nowhere", api.Agent{Lock: some, At: 1, Try: 7, Going: true}, api.ErrRange},
		{"not going, but a goal", api.Agent{Lock: some, At: 1, Try: 7, Goal: goal}, api.ErrForm},
		{"not going, but a goal, and good", api.Agent{Lock: some, At: 1, Try: 7, Goal: goal, Good: true}, api.ErrForm},
		{"not going, but a goal's number", api.Agent{Lock: some, At: 1, Goal: release(1)}, api.ErrForm},
		{"not going, but a goal's number below 0", api.Agent{Lock: some, At: 1, Goal: release(-1)}, api.ErrForm},
		{"not going, but a goal's lock", api.Agent{Lock: some, At: 1, Goal: release(0, row(1, 1, 1)...)}, api.ErrForm},
		{"not going, but a goal's lock that is none", api.Agent{Lock: some, At: 1, Goal: release(0, api.Pin{})}, api.ErrForm},
		// which error comes first
		{"form ahead of a goal: never told", api.Agent{Lock: some, At: 1, Going: true, Goal: release(9)}, api.ErrForm},
		{"form ahead of a goal: good", api.Agent{Lock: some, At: 1, Try: 7, Going: true, Goal: release(1, twice...), Good: true}, api.ErrForm},
		{"never told and good", api.Agent{Lock: some, At: 1, Going: true, Goal: goal, Good: true}, api.ErrForm},
		{"a lock ahead of a number", api.Agent{Lock: twice}, api.ErrTwice},
		{"a lock ahead of a try", api.Agent{Lock: twice, At: 1, Try: -1}, api.ErrTwice},
		{"a lock ahead of form", api.Agent{Lock: twice, At: 1, Try: 7, Going: true, Goal: goal, Good: true}, api.ErrTwice},
		{"a lock ahead of a goal", api.Agent{Lock: twice, At: 1, Try: 7, Going: true, Goal: release(0)}, api.ErrTwice},
		{"a lock ahead of a goal of one that doesn't go", api.Agent{Lock: twice, At: 1, Try: 7, Goal: goal}, api.ErrTwice},
		{"a number ahead of form", api.Agent{Lock: some, Going: true, Goal: goal, Good: true}, api.ErrRange},
		{"a number ahead of a goal", api.Agent{Lock: some, Try: 7, Going: true, Goal: release(1, twice...)}, api.ErrRange},
		{"a number ahead of a goal of one that doesn't go", api.Agent{Lock: some, Goal: goal}, api.ErrRange},
		{"a try ahead of form", api.Agent{Lock: some, At: 1, Try: api.MaxTry + 1, Going: true, Goal: goal, Good: true}, api.ErrRange},
		{"a try ahead of a goal", api.Agent{Lock: some, At: 1, Try: -1, Going: true, Goal: release(1, twice...)}, api.ErrRange},
		{"a try ahead of a goal of one that doesn't go", api.Agent{Lock: some, At: 1, Try: -1, Goal: goal}, api.ErrRange},
	}
	for _, at := range [...]int{math.MinInt, -1, 0, api.MaxReleases + 1, math.MaxInt} {
		l = append(l, agentCase{"no such release", api.Agent{Lock: some, At: at, Try: 7, Good: true}, api.ErrRange},
			agentCase{"no such release, going", api.Agent{Lock: some, At: at, Try: 7, Going: true, Goal: goal}, api.ErrRange})
	}
	for _, try := range [...]int{math.MinInt, -1, api.MaxTry + 1, math.MaxInt} {
		l = append(l, agentCase{"no such try", api.Agent{Lock: some, At: 1, Try: try, Good: true}, api.ErrRange},
			agentCase{"no such try, going", api.Agent{Lock: some, At: 1, Try: try, Going: true, Goal: goal}, api.ErrRange})
	}
	for _, w := range wrongLocks() {
		l = append(l, agentCase{"has a lock: " + w.what, api.Agent{Lock: w.l, At: 1, Good: true}, w.want})
	}
	for _, w := range wrongReleases() {
		l = append(l, agentCase{"goes to a release: " + w.what, api.Agent{Lock: some, At: 1, Try: 7, Going: true, Goal: w.r}, w.want},
			agentCase{"has a goal, and doesn't go: " + w.what, api.Agent{Lock: some, At: 1, Try: 7, Goal: w.r}, api.ErrForm})
	}
	return l
}

// P7.1
func TestCheck(t *testing.T) {
	for _, c := range append(goodAgents(), wrongAgents()...) {
		if e := Check(c.a); e != c.want {
			t.Errorf("%s: Check(%v) = %v, want %v", c.what, c.a, e, c.want)
		}
	}
	for at := 1; at <= api.MaxReleases; at++ {
		if e := Check(api.Agent{At: at}); e != api.OK {
			t.Errorf("Check at release %d = %v", at, e)
		}
	}
	for try := range api.MaxTry + 1 {
		if e := Check(api.Agent{At: 1, Try: try}); e != api.OK {
			t.Errorf("Check of try %d = %v", try, e)
		}
	}
}

// P7.1
func TestLeft(t *testing.T) {
	drop := func(name int) api.Op { return api.Op{Kind: api.Drop, Name: name} }
	add := func(name, version int) api.Op { return api.Op{Kind: api.Add, Name: name, Version: version} }
	turn := func(name, version int) api.Op { return api.Op{Kind: api.Turn, Name: name, Version: version} }
	want := map[string][]api.Op{
		"going":                  {drop(2), turn(3, 8), turn(4, 8), add(5, 8)},
		"going by the first try": {drop(2), turn(3, 8), turn(4, 8), add(5, 8)},
		"going by the last try":  {drop(2), turn(3, 8), turn(4, 8), add(5, 8)},
		"one step is left":       {add(5, 8)},
		"going to nothing":       {drop(2), drop(3), drop(4)},
		"going from nothing":     {add(3, 8), add(4, 8), add(5, 8)},
	}
	found := 0
	for _, c := range goodAgents() {
		l, e := Left(c.a)
		steps, known := want[c.what]
		if known {
			found++
		} else if c.a.Going {
			steps, _ = diff.Diff(c.a.Lock, c.a.Goal.Lock)
		}
		if e != api.OK || !slices.Equal(l, steps) {
			t.Errorf("%s: Left = %v, %v, want %v", c.what, l, e, steps)
		}
	}
	if found != len(want) {
		t.Errorf("%d agents were asked for, %d are there", len(want), found)
	}
	for _, c := range wrongAgents() {
		if l, e := Left(c.a); e != c.want || l != nil {
			t.Errorf("%s: Left = %v, %v, want %v", c.what, l, e, c.want)
		}
	}
}

// P7.1: whatever the agents are, a field that differs is seen.
func TestSame(t *testing.T) {
	cases := append(goodAgents(), wrongAgents()...)
	for _, x := range cases {
		for _, y := range cases {
			if want := told(x.a) == told(y.a); Same(x.a, y.a) != want {
				t.Errorf("Same(%v, %v) isn't %v", x.a, y.a, want)
			}
		}
	}
	for _, c := range cases {
		for k, change := range []func(*api.Agent){
			func(a *api.Agent) { a.Lock = append(slices.Clone(a.Lock), api.Pin{}) },
			func(a *api.Agent) { a.Lock = append([]api.Pin{{Name: 1, Version: -1}}, a.Lock...) },
			func(a *api.Agent) { a.At = ^a.At },
			func(a *api.Agent) { a.Try = ^a.Try },
			func(a *api.Agent) { a.Going = !a.Going },
			func(a *api.Agent) { a.Goal.ID = ^a.Goal.ID },
			func(a *api.Agent) { a.Goal.Lock = append(slices.Clone(a.Goal.Lock), api.Pin{}) },
			func(a *api.Agent) { a.Good = !a.Good },
		} {
			b := c.a
			change(&b)
			if Same(c.a, b) || Same(b, c.a) {
				t.Errorf("%s: change %d isn't seen", c.what, k)
			}
		}
	}
	none, empty := api.Agent{}, api.Agent{Lock: []api.Pin{}, Goal: api.Release{Lock: []api.Pin{}}}
	if !Same(none, empty) || !Same(empty, none) {
		t.Error("a list of nothing isn't like none")
	}
	pins := row(1, 2, 1)
	if Same(api.Agent{Lock: pins}, api.Agent{Goal: api.Release{Lock: pins}}) || Same(api.Agent{At: 1}, api.Agent{Try: 1}) {
		t.Error("fields are taken for each other")
	}
	if Same(api.Agent{Lock: pins}, api.Agent{Lock: row(1, 2, 2)}) || Same(api.Agent{Lock: pins}, api.Agent{Lock: row(2, 2, 1)}) {
		t.Error("a pin that differs isn't seen")
	}
}

func leaderRecs() []api.Rec {
	return []api.Rec{
		{Kind: api.LPublish, R: release(2, row(1, 1, 1)...)},
		{Kind: api.LStart, N: 1},
		{Kind: api.LSend, Try: 7},
		{Kind: api.LSend, Agent: 5, Try: api.MaxTry},
		{Kind: api.LGot, Try: 7},
		{Kind: api.LGot, Agent: 1, Try: 7, Good: true},
		{Kind: api.LBack},
		{Kind: api.LEnd},
	}
}

func agentRecs() []api.Rec {
	var l []api.Rec
	for _, try := range [...]int{1, 2, 6, 7, 8, api.MaxTry - 1, api.MaxTry} {
		for _, r := range goodReleases() {
			l = append(l, begin(try, r))
		}
		l = append(l, step(try), done(try, true), done(try, false))
	}
	return l
}

func wrongRecs() []api.Rec {
	l := []api.Rec{
		{},
		{Kind: -1},
		{Kind: math.MinInt},
		{Kind: math.MaxInt},
		{Kind: api.LEnd + 1, Try: 7},
		{Kind: api.ABegin, Try: 8},
		{Kind: api.ABegin, R: release(1)},
		{Kind: api.ABegin, Try: 8, R: release(1), Agent: 1},
		{Kind: api.ABegin, Try: 8, R: release(1), N: 1},
		{Kind: api.ABegin, Try: 8, R: release(1), Good: true},
		{Kind: api.ABegin, Try: api.MaxTry + 1, R: release(1)},
		{Kind: api.ABegin, Try: math.MaxInt, R: release(1)},
		{Kind: api.AStep},
		{Kind: api.AStep, Try: 7, Good: true},
		{Kind: api.AStep, Try: 7, Agent: 1},
		{Kind: api.AStep, Try: 7, R: release(3)},
		{Kind: api.AStep, Try: api.MaxTry + 1},
		{Kind: api.ADone},
		{Kind: api.ADone, Try: 7, Good: true, Agent: 1},
		{Kind: api.ADone, Try: 7, Good: true, N: 3},
		{Kind: api.ADone, Try: 7, Good: true, R: release(3)},
		{Kind: api.ADone, Try: -1, Good: true},
		{Kind: api.LBack, Try: 7},
		{Kind: api.LSend, Agent: api.MaxAgents, Try: 7},
		{Kind: api.LStart},
		{Kind: api.LPublish, R: release(9)},
	}
	for _, w := range wrongReleases() {
		l = append(l, begin(1, w.r), begin(8, w.r))
	}
	return l
}

// P7.2: which error comes first: that of the agent, of the record, of a kind that isn't an agent's.
func TestNextErrors(t *testing.T) {
	recs := slices.Concat(agentRecs(), leaderRecs(), wrongRecs())
	for _, c := range wrongAgents() {
		for _, r := range recs {
			if a, e := Next(c.a, r); e != c.want || !isZero(a) {
				t.Errorf("%s: Next(%v) = %v, %v, want %v", c.what, r, a, e, c.want)
			}
		}
	}
	for _, c := range goodAgents() {
		for _, r := range wrongRecs() {
			want := note.Check(r)
			if want == api.OK {
				t.Fatalf("%v is a record", r)
			}
			if a, e := Next(c.a, r); e != want || !isZero(a) {
				t.Errorf("%s: Next(%v) = %v, %v, want %v", c.what, r, a, e, want)
			}
		}
		for _, r := range leaderRecs() {
			if a, e := Next(c.a, r); e != api.ErrForm || !isZero(a) {
				t.Errorf("%s: Next(%v) = %v, %v, want ErrForm", c.what, r, a, e)
			}
		}
	}
}

// P7.2, told of one agent by hand.
func TestNext(t *testing.T) {
	some, goal := row(2, 2, 7), release(3, row(3, 2, 7)...) // 2 goes, then 4 comes
	idle := api.Agent{Lock: some, At: 2, Try: 6, Good: true}
	going := api.Agent{Lock: some, At: 2, Try: 7, Going: true, Goal: goal}
	half := api.Agent{Lock: row(3, 1, 7), At: 2, Try: 7, Going: true, Goal: goal}
	near := api.Agent{Lock: goal.Lock, At: 2, Try: 7, Going: true, Goal: goal}
	for _, c := range []struct {
		what string
		a    api.Agent
		r    api.Rec
		want api.Agent
		e    api.Errno
	}{
		{"it goes", idle, begin(7, goal), going, api.OK},
		{"it goes by a far try", idle, begin(api.MaxTry, goal), api.Agent{Lock: some, At: 2, Try: api.MaxTry, Going: true, Goal: goal}, api.OK},
		{"the same try again", idle, begin(6, goal), api.Agent{}, api.ErrLate},
		{"an older try", idle, begin(5, goal), api.Agent{}, api.ErrLate},
		{"a step, and it doesn't go", idle, step(6), api.Agent{}, api.ErrLate},
		{"a step by a try to come", idle, step(7), api.Agent{}, api.ErrLate},
		{"done, and it doesn't go", idle, done(6, true), api.Agent{}, api.ErrLate},
		{"the first step", going, step(7), half, api.OK},
		{"the second step", half, step(7), near, api.OK},
		{"no third step", near, step(7), api.Agent{}, api.ErrLate},
		{"done too early", going, done(7, true), api.Agent{}, api.ErrLate},
		{"done one step too early", half, done(7, false), api.Agent{}, api.ErrLate},
		{"done, and good", near, done(7, true), api.Agent{Lock: goal.Lock, At: 3, Try: 7, Good: true}, api.OK},
		{"done, and ill", near, done(7, false), api.Agent{Lock: goal.Lock, At: 3, Try: 7}, api.OK},
		{"a step by an older try", going, step(6), api.Agent{}, api.ErrLate},
		{"a step by a newer try", going, step(8), api.Agent{}, api.ErrLate},
		{"done by an older try", near, done(6, true), api.Agent{}, api.ErrLate},
		{"done by a newer try", near, done(8, true), api.Agent{}, api.ErrLate},
		{"told again on its way", half, begin(7, goal), api.Agent{}, api.ErrLate},
		{"told by an older try on its way", half, begin(2, release(2, some...)), api.Agent{}, api.ErrLate},
		{"back on its way", half, begin(8, release(2, some...)), api.Agent{Lock: half.Lock, At: 2, Try: 8, Going: true, Goal: release(2, some...)}, api.OK},
		{"on its way to the same", half, begin(8, goal), api.Agent{Lock: half.Lock, At: 2, Try: 8, Going: true, Goal: goal}, api.OK},
	} {
		a, e := Next(c.a, c.r)
		if e != c.e || told(a) != told(c.want) {
			t.Errorf("%s: Next = %v, %v, want %v, %v", c.what, a, e, c.want, c.e)
		}
	}
}

// asTold is what the chapter says of an agent and a record of its log that are both right, by a lock as a map.
func asTold(a api.Agent, r api.Rec) (api.Agent, bool) {
	left := 0
	var first api.Op
	had, goal := map[int]int{}, map[int]int{}
	for _, p := range a.Lock {
		had[p.Name] = p.Version
	}
	for _, p := range a.Goal.Lock {
		goal[p.Name] = p.Version
	}
	for name := api.MaxName; name >= 1; name-- { // from behind, so that the first is found last; what goes is ahead of all else
		if goal[name] != 0 && goal[name] != had[name] {
			left, first = left+1, api.Op{Name: name, Version: goal[name]}
		}
	}
	for name := api.MaxName; name >= 1; name-- {
		if had[name] != 0 && goal[name] == 0 {
			left, first = left+1, api.Op{Name: name}
		}
	}
	switch {
	case r.Kind == api.ABegin && r.Try > a.Try:
		return api.Agent{Lock: a.Lock, At: a.At, Try: r.Try, Going: true, Goal: r.R}, true
	case r.Kind == api.AStep && a.Going && r.Try == a.Try && left > 0:
		had[first.Name] = first.Version
		a.Lock = nil
		for name := 1; name <= api.MaxName; name++ {
			if had[name] != 0 {
				a.Lock = append(a.Lock, api.Pin{Name: name, Version: had[name]})
			}
		}
		return a, true
	case r.Kind == api.ADone && a.Going && r.Try == a.Try && left == 0:
		return api.Agent{Lock: a.Goal.Lock, At: a.Goal.ID, Try: a.Try, Good: r.Good}, true
	}
	return api.Agent{}, false
}

// P7.2: each agent, each record.
func TestNextAsTold(t *testing.T) {
	for _, c := range goodAgents() {
		for _, r := range agentRecs() {
			want, inTurn := asTold(c.a, r)
			a, e := Next(c.a, r)
			if !inTurn {
				if e != api.ErrLate || !isZero(a) {
					t.Errorf("%s: Next(%v) = %v, %v, want ErrLate", c.what, r, a, e)
				}
				continue
			}
			if e != api.OK || told(a) != told(want) || Check(a) != api.OK {
				t.Errorf("%s: Next(%v) = %v, %v, want %v", c.what, r, a, e, want)
			}
		}
	}
}

// begins are so many records, each by the next try.
func begins(many int) []api.Rec {
	var l []api.Rec
	for k := range many {
		l = append(l, begin(k+1, release(k%api.MaxReleases+1, row(1, 2, k%7+1)...)))
	}
	return l
}

// P7.2
func TestReplay(t *testing.T) {
	first, second := release(1, row(1, 1, 1)...), release(2, row(2, 1, 1)...)
	way := []api.Rec{begin(3, second), step(3), step(3), done(3, true), begin(5, first), step(5), begin(6, second), step(6), done(6, false)}
	wants := []api.Agent{
		{Lock: first.Lock, At: 1, Good: true},
		{Lock: first.Lock, At: 1, Try: 3, Going: true, Goal: second},
		{At: 1, Try: 3, Going: true, Goal: second},
		{Lock: second.Lock, At: 1, Try: 3, Going: true, Goal: second},
		{Lock: second.Lock, At: 2, Try: 3, Good: true},
		{Lock: second.Lock, At: 2, Try: 5, Going: true, Goal: first},
		{At: 2, Try: 5, Going: true, Goal: first},
		{At: 2, Try: 6, Going: true, Goal: second},
		{Lock: second.Lock, At: 2, Try: 6, Going: true, Goal: second},
		{Lock: second.Lock, At: 2, Try: 6},
	}
	for k, want := range wants {
		if a, e := Replay(first, way[:k]); e != api.OK || told(a) != told(want) {
			t.Errorf("%d records: Replay = %v, %v, want %v", k, a, e, want)
		}
	}
	for k := range way { // a record that is out of turn, ahead of one that isn't any
		l := slices.Insert(slices.Clone(way), k, done(200, true), api.Rec{})
		if a, e := Replay(first, l); e != api.ErrLate || !isZero(a) {
			t.Errorf("out of turn at %d: Replay = %v, %v", k, a, e)
		}
		l[k], l[k+1] = l[k+1], l[k]
		if a, e := Replay(first, l); e != api.ErrForm || !isZero(a) {
			t.Errorf("no record at %d: Replay = %v, %v", k, a, e)
		}
	}
	for _, r := range append(leaderRecs(), wrongRecs()...) {
		want := note.Check(r)
		if want == api.OK {
			want = api.ErrForm
		}
		if a, e := Replay(first, append(slices.Clone(way), r)); e != want || !isZero(a) {
			t.Errorf("%v behind all: Replay = %v, %v, want %v", r, a, e, want)
		}
	}
}

// P7.2: how many records there may be, and what is told ahead of that.
func TestReplayMany(t *testing.T) {
	first, full := release(1, row(1, 1, 1)...), begins(api.MaxLog)
	a, e := Replay(first, full)
	last := full[api.MaxLog-1]
	if want := (api.Agent{Lock: first.Lock, At: 1, Try: last.Try, Going: true, Goal: last.R}); e != api.OK || told(a) != told(want) {
		t.Errorf("as many as may be: Replay = %v, %v", a, e)
	}
	for _, l := range [][]api.Rec{
		append(slices.Clone(full), step(api.MaxTry)),
		append(slices.Clone(full), api.Rec{}),
		make([]api.Rec, api.MaxLog+1),
		make([]api.Rec, 50*api.MaxLog),
	} {
		if a, e := Replay(first, l); e != api.ErrMany || !isZero(a) {
			t.Errorf("%d records: Replay = %v, %v, want ErrMany", len(l), a, e)
		}
		for _, w := range wrongReleases() {
			if a, e := Replay(w.r, l); e != w.want || !isZero(a) {
				t.Errorf("%s: Replay of %d records = %v, %v, want %v", w.what, len(l), a, e, w.want)
			}
		}
	}
	if a, e := Replay(first, make([]api.Rec, api.MaxLog)); e != api.ErrForm || !isZero(a) {
		t.Errorf("as many as may be, none of them a record: Replay = %v, %v", a, e)
	}
	for _, w := range wrongReleases() {
		for _, l := range [][]api.Rec{nil, {}, {{}}, full} {
			if a, e := Replay(w.r, l); e != w.want || !isZero(a) {
				t.Errorf("%s: Replay = %v, %v, want %v", w.what, a, e, w.want)
			}
		}
	}
}

// histories goes on with each record, so many times, and holds Replay of all against Next of each.
func histories(t *testing.T, first api.Release, a api.Agent, l []api.Rec, more int) {
	t.Helper()
	if b, e := Replay(first, l); e != api.OK || told(b) != told(a) || !Same(a, b) {
		t.Fatalf("Replay(%v) = %v, %v, want %v", l, b, e, a)
	}
	if more == 0 {
		return
	}
	goals := [...]api.Release{release(1, row(1, 2, 1)...), release(2, row(2, 1, 2)...)}
	for _, r := range []api.Rec{
		begin(max(a.Try, 1), goals[0]), begin(a.Try+1, goals[0]), begin(a.Try+2, goals[1]),
		step(max(a.Try, 1)), step(a.Try + 1), done(max(a.Try, 1), more%2 == 0), done(a.Try+1, true),
	} {
		all := append(slices.Clone(l), r)
		want, inTurn := asTold(a, r)
		if !inTurn {
			if b, e := Replay(first, all); e != api.ErrLate || !isZero(b) {
				t.Fatalf("Replay(%v) = %v, %v, want ErrLate", all, b, e)
			}
			continue
		}
		histories(t, first, want, all, more-1)
	}
}

// P7.2, whatever the log is.
func TestHistories(t *testing.T) {
	for _, first := range []api.Release{release(1, row(1, 2, 1)...), release(3)} {
		a, e := New(first)
		if e != api.OK {
			t.Fatalf("New: %v", e)
		}
		histories(t, first, a, nil, 8)
	}
}

// smallLocks are all locks of three names at two versions.
func smallLocks() [][]api.Pin {
	all := [][]api.Pin{nil}
	for name := 1; name <= 3; name++ {
		for _, l := range all {
			all = append(all, append(slices.Clone(l), api.Pin{Name: name, Version: 1}), append(slices.Clone(l), api.Pin{Name: name, Version: 2}))
		}
	}
	return all
}

// goThere makes a go to a goal, step by step, and answers all agents on the way, ahead of the end and at it.
func goThere(t *testing.T, a api.Agent, goal api.Release) []api.Agent {
	t.Helper()
	was := a.At
	a, e := Next(a, begin(a.Try+1, goal))
	if e != api.OK {
		t.Fatalf("begin: %v", e)
	}
	steps, _ := diff.Diff(a.Lock, goal.Lock)
	way := []api.Agent{a}
	for k := range steps {
		left, e := Left(a)
		if e != api.OK || !slices.Equal(left, steps[k:]) {
			t.Fatalf("%v to %v: after %d steps there are %v left, %v", a, goal, k, left, e)
		}
		if _, e := Next(a, done(a.Try, true)); e != api.ErrLate {
			t.Fatalf("%v is said to be there after %d of %d steps: %v", a, k, len(steps), e)
		}
		if a, e = Next(a, step(a.Try)); e != api.OK || a.At != was || !a.Going || a.Good {
			t.Fatalf("step %d: %v, %v", k, a, e)
		}
		way = append(way, a)
	}
	if _, e := Next(a, step(a.Try)); e != api.ErrLate {
		t.Fatalf("%v: a step more than the %d that were left: %v", a, len(steps), e)
	}
	for _, good := range [...]bool{true, false} {
		b, e := Next(a, done(a.Try, good))
		if e != api.OK || !slices.Equal(b.Lock, goal.Lock) || b.At != goal.ID || b.Going || b.Good != good || b.Try != a.Try {
			t.Fatalf("%v is done: %v, %v", a, b, e)
		}
	}
	return way
}

// P7.3: from each lock, and from each one on the way, to each other one.
func TestComesThere(t *testing.T) {
	locks := smallLocks()
	for _, from := range locks {
		a, _ := New(release(1, from...))
		for _, to := range locks {
			for _, midway := range goThere(t, a, release(2, to...)) {
				for _, other := range locks {
					goThere(t, midway, release(3, other...))
				}
			}
		}
	}
}

// P7.3: there is room for what comes, though both locks are full.
func TestComesThereFull(t *testing.T) {
	for shift := 1; shift+api.MaxPins-1 <= api.MaxName; shift++ {
		a, _ := New(release(1, row(1, api.MaxPins, 1)...))
		way := goThere(t, a, release(2, row(shift, api.MaxPins, 2)...))
		for _, midway := range way {
			goThere(t, midway, release(1, row(1, api.MaxPins, 1)...))
		}
	}
}

// spare is a pin that no lock has.
var spare = api.Pin{Name: 77, Version: 78}

// roomy is l with spare pins in the room behind it, and all of that memory.
func roomy(l []api.Pin) (list, all []api.Pin) {
	all = append(slices.Clone(l), spare, spare, spare)
	return all[:len(l)], all
}

// fill writes over a list, and the spare room behind it.
func fill(l []api.Pin) {
	l = l[:cap(l)]
	for k := range l {
		l[k] = api.Pin{Name: -1, Version: -1}
	}
}

// answers are all agents that the calls make of a, going or not, and of r.
func answers(a api.Agent, r api.Release) []api.Agent {
	fresh, _ := New(r)
	begun, _ := Next(a, begin(8, r))
	stepped, _ := Next(a, step(7))
	there, _ := Next(a, done(7, true))
	none, _ := Replay(r, nil)
	some, _ := Replay(r, []api.Rec{begin(7, r), done(7, true), begin(8, r)})
	return []api.Agent{fresh, begun, stepped, there, none, some}
}

// P2 of 'What holds everywhere': nothing that is handed in is changed, nor the room behind it, and no answer shares memory with it, or with itself.
func TestMemory(t *testing.T) {
	for _, c := range append(goodAgents(), wrongAgents()...) {
		for _, r := range goodReleases() {
			was := told(c.a) + told(r)
			a, allLock, allGoal := c.a, []api.Pin(nil), []api.Pin(nil)
			a.Lock, allLock = roomy(c.a.Lock)
			a.Goal.Lock, allGoal = roomy(c.a.Goal.Lock)
			pins, allPins := roomy(r.Lock)
			r := api.Release{ID: r.ID, Lock: pins}
			Check(a)
			Same(a, a)
			steps, _ := Left(a)
			clear(steps[:cap(steps)])
			first, second := answers(a, r), answers(a, r)
			for k, x := range first {
				before := told(x.Goal.Lock)
				fill(x.Lock)
				if told(x.Goal.Lock) != before {
					t.Errorf("%s: lists of answer %d share memory", c.what, k)
				}
				fill(x.Goal.Lock)
			}
			if told(a)+told(r) != was {
				t.Errorf("%s: what was handed in was changed: %v, %v", c.what, a, r)
			}
			for _, all := range [...][]api.Pin{allLock, allGoal, allPins} {
				if !slices.Equal(all[len(all)-3:], []api.Pin{spare, spare, spare}) {
					t.Errorf("%s: spare room was changed: %v", c.what, all)
				}
			}
			kept := told(second)
			fill(allLock)
			fill(allGoal)
			fill(allPins)
			if told(second) != kept {
				t.Errorf("%s: an answer has memory of what was handed in", c.what)
			}
		}
	}
}

// P2: what is handed in may share memory with itself.
func TestMemoryShared(t *testing.T) {
	pins := row(1, 6, 1)
	a := api.Agent{Lock: pins[:3], At: 1, Try: 7, Going: true, Goal: release(2, pins[1:4]...)}
	for k, x := range answers(a, release(3, pins[2:5]...)) {
		before := told(x.Goal.Lock)
		fill(x.Lock)
		if told(x.Goal.Lock) != before {
			t.Errorf("lists of answer %d share memory", k)
		}
		fill(x.Goal.Lock)
	}
	if !slices.Equal(pins, row(1, 6, 1)) {
		t.Errorf("what was handed in was changed: %v", pins)
	}
}
