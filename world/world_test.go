package world

import (
	"fmt"
	"math"
	"reflect"
	"slices"
	"strings"
	"testing"

	"vanguard/agent"
	"vanguard/api"
	"vanguard/lead"
	"vanguard/note"
)

// row is a lock of so many pins, named from and on, all at this version.
func row(from, many, version int) []api.Pin {
	var l []api.Pin
	for k := range many {
		l = append(l, api.Pin{Name: from + k, Version: version})
	}
	return l
}

func release(id int, l ...api.Pin) api.Release { return api.Release{ID: id, Lock: l} }

// Releases of the fleet: from the first to the second it is two steps, from the first to the third as well.
func first() api.Release  { return release(1, row(1, 1, 1)...) }
func second() api.Release { return release(2, row(1, 2, 2)...) }
func third() api.Release  { return release(3, row(4, 1, 5)...) }

func publishRec(r api.Release) api.Rec { return api.Rec{Kind: api.LPublish, R: r} }

func startRec(n int) api.Rec { return api.Rec{Kind: api.LStart, N: n} }

func sendRec(k, try int) api.Rec { return api.Rec{Kind: api.LSend, Agent: k, Try: try} }

func gotRec(k, try int, good bool) api.Rec {
	return api.Rec{Kind: api.LGot, Agent: k, Try: try, Good: good}
}

func beginRec(try int, r api.Release) api.Rec { return api.Rec{Kind: api.ABegin, Try: try, R: r} }

func stepRec(try int) api.Rec { return api.Rec{Kind: api.AStep, Try: try} }

func doneRec(try int, good bool) api.Rec { return api.Rec{Kind: api.ADone, Try: try, Good: good} }

var (
	backRec = api.Rec{Kind: api.LBack}
	endRec  = api.Rec{Kind: api.LEnd}
)

// went is the log of an agent that went from the first release to the second one.
func went(try int, good bool) []api.Rec {
	return []api.Rec{beginRec(try, second()), stepRec(try), stepRec(try), doneRec(try, good)}
}

// order is mail to an agent, reports is mail from one.
func order(k, try int, r api.Release) api.Mail { return api.Mail{Agent: k, Try: try, R: r} }

func reports(k, try int, good bool) api.Mail {
	return api.Mail{Agent: k, Try: try, Report: true, Good: good}
}

// told is all of a thing as a text, in which a list of nothing is like none.
func told(x any) string { return fmt.Sprintf("%v", x) }

// isZero tells whether there is nothing in w, not even an empty list.
func isZero(w api.World) bool { return reflect.DeepEqual(w, api.World{}) }

// someRules: 1 at 2 or above goes with 2, at 1 or above; 3 goes with 4, at 5 or above.
func someRules() []api.Rule {
	return []api.Rule{{Name: 1, Version: 2, With: 2, Least: 1}, {Name: 3, Version: 1, With: 4, Least: 5}}
}

// fleet is a configuration of three agents, in two waves.
func fleet() api.Config {
	return api.Config{First: first(), Rules: someRules(), Waves: [][]int{{1}, {0, 2}}, Budget: 1}
}

// logs of a world, and its mail: what it is made of.
type logs struct {
	c      api.Config
	leader []api.Rec
	agents [][]api.Rec
	mail   []api.Mail
}

// text writes records as they lie on a disk.
func text(l ...api.Rec) []byte {
	var b strings.Builder
	for _, r := range l {
		line, e := note.Print(r)
		if e != api.OK {
			panic(fmt.Sprint(r, " can't be written: ", e))
		}
		b.WriteString(line + "\n")
	}
	return []byte(b.String())
}

func headOf(c api.Config, l []api.Rec) api.Head {
	leader, e := lead.Replay(c, l)
	if e != api.OK {
		panic(fmt.Sprint("no leader's log: ", e))
	}
	return api.Head{L: leader, D: api.Disk{Safe: text(l...)}, Up: true}
}

func nodeOf(c api.Config, l []api.Rec) api.Node {
	a, e := agent.Replay(c.First, l)
	if e != api.OK {
		panic(fmt.Sprint("no agent's log: ", e))
	}
	return api.Node{A: a, D: api.Disk{Safe: text(l...)}, Up: true}
}

// world is one in which all are up.
func (x logs) world() api.World {
	w := api.World{C: x.c, H: headOf(x.c, x.leader), Mail: x.mail}
	for k := range slices.Concat(x.c.Waves...) {
		var l []api.Rec
		if k < len(x.agents) {
			l = x.agents[k]
		}
		w.N = append(w.N, nodeOf(x.c, l))
	}
	return w
}

// down takes the power from the leader (k below 0), or agent k.
func down(w api.World, k int) api.World {
	w.N = slices.Clone(w.N)
	if k < 0 {
		w.H = api.Head{L: headOf(w.C, nil).L, D: w.H.D}
	} else {
		w.N[k] = api.Node{A: nodeOf(w.C, nil).A, D: w.N[k].D}
	}
	return w
}

// goes is the log of a leader that goes to the second release; behind come the records that it wrote since.
func goes(behind ...api.Rec) []api.Rec {
	return append([]api.Rec{publishRec(second()), publishRec(third()), startRec(2)}, behind...)
}

// midway is a world of which agent 1 has the second release, 0 goes there, and 2 hasn't heard of it; all are up.
func midway() api.World {
	return logs{
		c:      fleet(),
		leader: goes(sendRec(1, 1), gotRec(1, 1, true), sendRec(0, 2), sendRec(2, 3)),
		agents: [][]api.Rec{{beginRec(2, second()), stepRec(2)}, went(1, true)},
		mail:   []api.Mail{order(2, 3, second()), reports(1, 1, true), order(0, 2, second())},
	}.world()
}

// back is a world that goes back: agent 1 was told of that, and 0 wasn't yet; 2 is idle.
func back() api.World {
	return logs{
		c:      fleet(),
		leader: goes(sendRec(1, 1), gotRec(1, 1, false), sendRec(0, 2), backRec, sendRec(1, 3)),
		agents: [][]api.Rec{{beginRec(2, second())}, append(went(1, false), beginRec(3, first()), stepRec(3))},
		mail:   []api.Mail{order(1, 3, first())},
	}.world()
}

func goodConfigs() []api.Config {
	return []api.Config{
		fleet(),
		{First: release(1), Waves: [][]int{{0}}},
		{First: api.Release{ID: 1, Lock: []api.Pin{}}, Rules: []api.Rule{}, Waves: [][]int{{0}}, Budget: api.MaxBudget},
		{First: release(1, row(1, api.MaxPins, 1)...), Waves: [][]int{{5, 0}, {4}, {1, 2, 3}}, Budget: 2},
		{First: release(1, row(1, 2, 2)...), Rules: someRules(), Waves: [][]int{{0}, {1}, {2}, {3}, {4}, {5}}},
	}
}

// fault makes something wrong with what is right, and says the error.
type fault struct {
	what string
	make func(w *api.World)
	want api.Errno
}

func wrongConfigs() []fault {
	change := func(what string, want api.Errno, f func(c *api.Config)) fault {
		return fault{what, func(w *api.World) { f(&w.C) }, want}
	}
	return []fault{
		change("no number", api.ErrRange, func(c *api.Config) { c.First.ID = 0 }),
		change("too many pins", api.ErrMany, func(c *api.Config) { c.First.Lock = row(1, api.MaxPins+1, 1) }),
		change("a name twice", api.ErrTwice, func(c *api.Config) { c.First.Lock = append(row(1, 1, 1), row(1, 1, 1)...) }),
		change("not the first number", api.ErrRange, func(c *api.Config) { c.First.ID = 2 }),
		change("a budget below", api.ErrRange, func(c *api.Config) { c.Budget = -1 }),
		change("a budget too great", api.ErrRange, func(c *api.Config) { c.Budget = api.MaxBudget + 1 }),
		change("too many rules", api.ErrMany, func(c *api.Config) { c.Rules = make([]api.Rule, api.MaxRules+1) }),
		change("a rule of a name with itself", api.ErrForm, func(c *api.Config) { c.Rules = []api.Rule{{Name: 1, Version: 1, With: 1, Least: 1}} }),
		change("a rule is broken", api.ErrRule, func(c *api.Config) { c.First.Lock = row(1, 1, 2) }),
		change("no waves", api.ErrRange, func(c *api.Config) { c.Waves = nil }),
		change("too many agents", api.ErrRange, func(c *api.Config) { c.Waves = [][]int{make([]int, api.MaxAgents+1)} }),
		change("a wave of nobody", api.ErrForm, func(c *api.Config) { c.Waves = [][]int{{1}, {}, {0, 2}} }),
		change("no such agent in a wave", api.ErrWho, func(c *api.Config) { c.Waves = [][]int{{1}, {0, 3}} }),
		change("an agent in two waves", api.ErrTwice, func(c *api.Config) { c.Waves = [][]int{{1}, {0, 1}} }),
	}
}

// P10.1
func TestNew(t *testing.T) {
	for _, c := range goodConfigs() {
		w, e := New(c)
		want := logs{c: c}.world()
		if e != api.OK || told(w) != told(want) || !Same(w, want) || Check(w) != api.OK {
			t.Errorf("New(%v) = %v, %v, want %v", c, w, e, want)
		}
		if !w.H.Up || slices.ContainsFunc(w.N, func(n api.Node) bool { return !n.Up }) {
			t.Errorf("New(%v): not all are up", c)
		}
	}
	for _, f := range wrongConfigs() {
		w := midway()
		f.make(&w)
		if got, e := New(w.C); e != f.want || !isZero(got) {
			t.Errorf("%s: New(%v) = %v, %v, want %v", f.what, w.C, got, e, f.want)
		}
	}
	if w, e := New(api.Config{}); e != api.ErrRange || !isZero(w) {
		t.Errorf("New of nothing = %v, %v", w, e)
	}
}

// inVain is a leader's log of so many starts, each with nobody told.
func inVain(many int) []api.Rec { return slices.Repeat([]api.Rec{startRec(2), backRec, endRec}, many) }

// fullLogs: those of the leader and of agent 0 have room for no more records, that of agent 1 for one more.
func fullLogs() logs {
	var l []api.Rec
	for try := range api.MaxLog {
		l = append(l, beginRec(try+1, second()))
	}
	leader := slices.Concat([]api.Rec{publishRec(second())}, inVain((api.MaxLog-2)/3), []api.Rec{startRec(2)})
	return logs{c: fleet(), leader: leader, agents: [][]api.Rec{l, slices.Clip(l[:api.MaxLog-1])}}
}

// fullTold is a world whose leader has room for no more records; the last one told agent 1.
func fullTold() api.World {
	return fresh(slices.Concat(goes()[:2], []api.Rec{publishRec(release(4))}, inVain((api.MaxLog-5)/3), []api.Rec{startRec(2), sendRec(1, 1)}))
}

func goodWorlds() []api.World {
	all := []api.World{midway(), back(), fullLogs().world(), logs{c: fleet(), leader: goes()}.world()}
	for _, c := range goodConfigs() {
		all = append(all, logs{c: c}.world())
	}
	for k := -1; k < 3; k++ {
		all = append(all, down(midway(), k), down(back(), k))
	}
	all = append(all, down(down(down(down(midway(), 2), 1), 0), -1))
	waits := down(down(midway(), -1), 0)
	waits.H.D.Wait, waits.N[0].D.Wait = []byte("5 0 0 2"), []byte("no record at all\n\x00")
	strange := down(down(midway(), -1), 1) // of who isn't up nobody asks what their log makes
	strange.H.D.Safe, strange.N[1].D.Safe = text(endRec, stepRec(3)), text(backRec)
	many := midway()
	many.Mail = slices.Repeat([]api.Mail{reports(2, api.MaxTry, true)}, api.MaxMail)
	return append(all, waits, strange, many)
}

// partFaults are groups, in the order in which they are told, of what may be wrong with the leader (k below 0), or agent k, of midway.
func partFaults(k int) [][]fault {
	kind := func(ofLeader, ofAgent api.Rec) api.Rec {
		if k < 0 {
			return ofLeader
		}
		return ofAgent
	}
	change := func(what string, want api.Errno, f func(d *api.Disk)) fault {
		return fault{fmt.Sprint("of ", k, ": ", what), func(w *api.World) {
			if k < 0 {
				f(&w.H.D)
			} else {
				f(&w.N[k].D)
			}
		}, want}
	}
	is := func(what string, l func(l *api.Leader), a func(a *api.Agent)) fault {
		return fault{fmt.Sprint("of ", k, ": ", what), func(w *api.World) {
			if k < 0 {
				l(&w.H.L)
			} else {
				a(&w.N[k].A)
			}
		}, api.ErrForm}
	}
	behind := func(b string) func(d *api.Disk) {
		return func(d *api.Disk) { d.Safe = append(slices.Clone(d.Safe), b...) }
	}
	return [][]fault{
		{
			change("too many bytes", api.ErrMany, func(d *api.Disk) { d.Wait = make([]byte, api.MaxText+1) }),
			change("too many bytes that are safe", api.ErrMany, func(d *api.Disk) { d.Safe = make([]byte, api.MaxText+1) }),
		}, {
			change("torn", api.ErrTorn, behind("8 0 0")),
			change("no record", api.ErrText, behind("8 0 0\n")),
			change("a record of no kind", api.ErrForm, behind("0 0 0 0 0 0 =\n")),
			change("a record out of range", api.ErrRange, behind("2 0 201 0 0 0 =\n")),
			change("too many records", api.ErrMany, behind(string(text(slices.Repeat([]api.Rec{stepRec(2)}, api.MaxLog+1)...)))),
		}, {
			change("something waits", api.ErrForm, func(d *api.Disk) { d.Wait = []byte("x") }),
			change("a record waits", api.ErrForm, func(d *api.Disk) { d.Wait = text(kind(publishRec(release(4)), beginRec(9, third()))) }),
		}, {
			change("out of turn", api.ErrLate, behind(string(text(kind(startRec(3), stepRec(7)))))),
			change("no such kind in its log", api.ErrForm, behind(string(text(kind(stepRec(1), backRec))))),
			change("out of turn at first", api.ErrLate, func(d *api.Disk) { d.Safe = append(text(kind(endRec, stepRec(1))), d.Safe...) }),
		}, {
			change("a record more", api.ErrForm, behind(string(text(kind(publishRec(release(4)), beginRec(9, third())))))),
			is("a number", func(l *api.Leader) { l.Next++ }, func(a *api.Agent) { a.Try++ }),
			is("zero", func(l *api.Leader) { *l = api.Leader{} }, func(a *api.Agent) { *a = api.Agent{} }),
			is("nothing in its lists", func(l *api.Leader) { l.Releases = nil }, func(a *api.Agent) { a.Lock = nil }),
			is("not the same to the end", func(l *api.Leader) { l.Agents[2].State = api.Fine }, func(a *api.Agent) { a.Good = !a.Good }),
		},
	}
}

// faults are groups, in the order in which they are told, of what may be wrong with midway.
func faults() [][]fault {
	mail := func(what string, want api.Errno, l ...api.Mail) fault {
		return fault{what, func(w *api.World) { w.Mail = append(slices.Clone(l), w.Mail...) }, want}
	}
	groups := [][]fault{wrongConfigs(), {
		{"no agents", func(w *api.World) { w.N = nil }, api.ErrForm},
		{"an agent is missing", func(w *api.World) { w.N = w.N[:2] }, api.ErrForm},
		{"an agent too many", func(w *api.World) { w.N = append(w.N, w.N[2]) }, api.ErrForm},
		{"an agent too many, that is none", func(w *api.World) { w.N = append(w.N, api.Node{}) }, api.ErrForm},
	}, {
		mail("too much mail", api.ErrMany, make([]api.Mail, api.MaxMail)...),
	}, {
		mail("mail by no try", api.ErrRange, order(0, 0, second())),
		mail("mail to nobody at all", api.ErrRange, order(api.MaxAgents, 1, second())),
		mail("mail of a good order", api.ErrForm, api.Mail{Agent: 1, Try: 1, Good: true, R: second()}),
		mail("wrong mail behind mail to nobody", api.ErrTwice, order(3, 1, second()), order(1, 1, release(2, append(row(1, 1, 1), row(1, 1, 1)...)...))),
	}, {
		mail("mail to nobody", api.ErrWho, order(3, 1, second())),
		mail("mail of nobody", api.ErrWho, reports(0, 1, true), reports(api.MaxAgents-1, 1, true)),
	}}
	for k := -1; k < 3; k++ {
		groups = append(groups, partFaults(k)...)
	}
	return groups
}

type worldCase struct {
	what string
	w    api.World
	want api.Errno
}

// wrongWorlds are midway with one fault, or with two of them; the one told later is made first, so that it can't undo the other.
func wrongWorlds() []worldCase {
	var l []worldCase
	lay := func(what string, want api.Errno, f ...fault) {
		w := midway()
		for _, one := range f {
			one.make(&w)
		}
		l = append(l, worldCase{what, w, want})
	}
	groups := faults()
	for g, group := range groups {
		for _, f := range group {
			lay(f.what, f.want, f)
			for _, later := range slices.Concat(groups[g+1:]...) {
				lay(f.what+" ahead of "+later.what, f.want, later, f)
			}
		}
	}
	return l
}

// P10.1
func TestCheck(t *testing.T) {
	for k, w := range goodWorlds() {
		if e := Check(w); e != api.OK {
			t.Errorf("Check of good world %d = %v", k, e)
		}
	}
	for _, c := range wrongWorlds() {
		if e := Check(c.w); e != c.want {
			t.Errorf("%s: Check = %v, want %v", c.what, e, c.want)
		}
	}
	if e := Check(api.World{}); e != api.ErrRange {
		t.Errorf("Check of nothing = %v", e)
	}
}

// P10.1: of who isn't up nothing is asked of what their log makes; they must be as new all the same.
func TestCheckDown(t *testing.T) {
	for k := -1; k < 3; k++ {
		asleep := func() api.World { return down(midway(), k) }
		for g, group := range partFaults(k) {
			for _, f := range group {
				want := f.want
				if g == 2 || g == 3 || strings.HasSuffix(f.what, "a record more") { // what waits, and what the log would make
					want = api.OK
				}
				w := asleep()
				f.make(&w)
				if e := Check(w); e != want {
					t.Errorf("not up, %s: Check = %v, want %v", f.what, e, want)
				}
			}
		}
		w := midway()
		if k < 0 {
			w.H.Up = false
		} else {
			w.N[k].Up = false
		}
		want := api.ErrForm
		if k == 2 { // it wrote nothing yet
			want = api.OK
		}
		if e := Check(w); e != want {
			t.Errorf("%d isn't up, and knows what it did: Check = %v, want %v", k, e, want)
		}
	}
}

// changes of a world, each of one field.
func changes() []func(w *api.World) {
	return []func(w *api.World){
		func(w *api.World) { w.C.First.ID++ },
		func(w *api.World) { w.C.First.Lock = append(slices.Clone(w.C.First.Lock), api.Pin{}) },
		func(w *api.World) { w.C.Rules = append(slices.Clone(w.C.Rules), api.Rule{}) },
		func(w *api.World) { w.C.Waves = append(slices.Clone(w.C.Waves), nil) },
		func(w *api.World) { w.C.Waves = append([][]int{{9}}, w.C.Waves...) },
		func(w *api.World) { w.C.Budget++ },
		func(w *api.World) { w.H.L.Next++ },
		func(w *api.World) { w.H.L.Back = !w.H.L.Back },
		func(w *api.World) { w.H.L.Agents = append(slices.Clone(w.H.L.Agents), api.Known{}) },
		func(w *api.World) { w.H.D.Safe = append(slices.Clone(w.H.D.Safe), 0) },
		func(w *api.World) { w.H.D.Wait = append(slices.Clone(w.H.D.Wait), 0) },
		func(w *api.World) { w.H.Up = !w.H.Up },
		func(w *api.World) { w.N = append(slices.Clone(w.N), api.Node{}) },
		func(w *api.World) { w.Mail = append(slices.Clone(w.Mail), api.Mail{}) },
	}
}

// nodeChanges of an agent, each of one field.
func nodeChanges() []func(n *api.Node) {
	return []func(n *api.Node){
		func(n *api.Node) { n.A.At++ },
		func(n *api.Node) { n.A.Lock = append(slices.Clone(n.A.Lock), api.Pin{}) },
		func(n *api.Node) { n.A.Good = !n.A.Good },
		func(n *api.Node) { n.A.Goal.ID-- },
		func(n *api.Node) { n.D.Safe = append(slices.Clone(n.D.Safe), 0) },
		func(n *api.Node) { n.D.Wait = append(slices.Clone(n.D.Wait), 0) },
		func(n *api.Node) { n.Up = !n.Up },
	}
}

// P10.1: whatever the fields are, one that differs is seen, wherever it stands.
func TestSame(t *testing.T) {
	odd := api.World{C: api.Config{Budget: math.MinInt, Waves: [][]int{nil, {-1}, {}}}, N: make([]api.Node, 9), Mail: make([]api.Mail, 99)}
	all := append(goodWorlds(), api.World{}, odd)
	for k, w := range all {
		if !Same(w, w) {
			t.Errorf("world %d isn't the same as itself", k)
		}
		ask := func(what int, changed api.World) {
			if Same(w, changed) || Same(changed, w) {
				t.Errorf("world %d: change %d isn't seen", k, what)
			}
		}
		for what, change := range changes() {
			changed := w
			change(&changed)
			ask(what, changed)
		}
		for place := range w.N {
			for what, change := range nodeChanges() {
				changed := w
				changed.N = slices.Clone(w.N)
				change(&changed.N[place])
				ask(100*(place+1)+what, changed)
			}
		}
		for other, x := range all {
			if want := told(w) == told(x); Same(w, x) != want {
				t.Errorf("Same of worlds %d and %d isn't %v", k, other, want)
			}
		}
	}
}

// P10.1: a list of nothing is like none, and the order of a list counts.
func TestSameLists(t *testing.T) {
	none := api.World{C: api.Config{Waves: [][]int{nil}}, N: make([]api.Node, 1)}
	empty := api.World{
		C:    api.Config{First: api.Release{Lock: []api.Pin{}}, Rules: []api.Rule{}, Waves: [][]int{{}}},
		H:    api.Head{L: api.Leader{Releases: []api.Release{}, Agents: []api.Known{}}, D: api.Disk{Safe: []byte{}, Wait: []byte{}}},
		N:    []api.Node{{A: api.Agent{Lock: []api.Pin{}, Goal: api.Release{Lock: []api.Pin{}}}, D: api.Disk{Safe: []byte{}, Wait: []byte{}}}},
		Mail: []api.Mail{},
	}
	if !Same(none, empty) || !Same(empty, none) || !Same(api.World{}, api.World{C: api.Config{Waves: [][]int{}}, N: []api.Node{}}) {
		t.Error("an empty list isn't like none")
	}
	if Same(api.World{}, api.World{C: api.Config{Waves: [][]int{nil}}}) || Same(api.World{}, api.World{N: make([]api.Node, 1)}) {
		t.Error("a list of one is like none")
	}
	for _, turn := range []func(w *api.World){
		func(w *api.World) { slices.Reverse(w.N) },
		func(w *api.World) { slices.Reverse(w.Mail) },
		func(w *api.World) { slices.Reverse(w.C.Rules) },
		func(w *api.World) { slices.Reverse(w.C.Waves) },
		func(w *api.World) { slices.Reverse(w.C.Waves[1]) },
	} {
		w := midway()
		turn(&w)
		if Same(w, midway()) {
			t.Error("another order isn't seen")
		}
	}
}
