package story

import (
	"fmt"
	"math"
	"reflect"
	"slices"
	"strings"
	"testing"

	"vanguard/agent"
	"vanguard/api"
	"vanguard/lead"
	"vanguard/note"
	"vanguard/world"
)

// row is a lock of so many pins, named from and on, all at this version.
func row(from, many, version int) []api.Pin {
	var l []api.Pin
	for k := range many {
		l = append(l, api.Pin{Name: from + k, Version: version})
	}
	return l
}

func release(id int, l ...api.Pin) api.Release { return api.Release{ID: id, Lock: l} }

// Releases of the fleet: from the first to the second it is two steps, from the first to the third as well.
func first() api.Release  { return release(1, row(1, 1, 1)...) }
func second() api.Release { return release(2, row(1, 2, 2)...) }
func third() api.Release  { return release(3, row(4, 1, 5)...) }

func publishRec(r api.Release) api.Rec { return api.Rec{Kind: api.LPublish, R: r} }

func startRec(n int) api.Rec { return api.Rec{Kind: api.LStart, N: n} }

func sendRec(k, try int) api.Rec { return api.Rec{Kind: api.LSend, Agent: k, Try: try} }

func gotRec(k, try int, good bool) api.Rec {
	return api.Rec{Kind: api.LGot, Agent: k, Try: try, Good: good}
}

func beginRec(try int, r api.Release) api.Rec { return api.Rec{Kind: api.ABegin, Try: try, R: r} }

func stepRec(try int) api.Rec { return api.Rec{Kind: api.AStep, Try: try} }

func doneRec(try int, good bool) api.Rec { return api.Rec{Kind: api.ADone, Try: try, Good: good} }

var (
	backRec = api.Rec{Kind: api.LBack}
	endRec  = api.Rec{Kind: api.LEnd}
)

// order is mail to an agent, reports is mail from one.
func order(k, try int, r api.Release) api.Mail { return api.Mail{Agent: k, Try: try, R: r} }

func reports(k, try int, good bool) api.Mail {
	return api.Mail{Agent: k, Try: try, Report: true, Good: good}
}

// told is all of a thing as a text, in which a list of nothing is like none.
func told(x any) string { return fmt.Sprintf("%v", x) }

// isZero tells whether there is nothing in x, not even an empty list.
func isZero(x any) bool { return reflect.ValueOf(x).IsZero() }

// fleet is a configuration of three agents, in two waves: 1 at 2 or above goes with 2.
func fleet() api.Config {
	return api.Config{First: first(), Rules: []api.Rule{{Name: 1, Version: 2, With: 2, Least: 1}}, Waves: [][]int{{1}, {0, 2}}, Budget: 1}
}

// text writes records as they lie on a disk.
func text(l ...api.Rec) []byte {
	var b strings.Builder
	for _, r := range l {
		line, e := note.Print(r)
		if e != api.OK {
			panic(fmt.Sprint(r, " can't be written: ", e))
		}
		b.WriteString(line + "\n")
	}
	return []byte(b.String())
}

func safe(l ...api.Rec) api.Disk { return api.Disk{Safe: text(l...)} }

func fresh(t *testing.T, c api.Config) api.World {
	t.Helper()
	w, e := world.New(c)
	if e != api.OK {
		t.Fatalf("New(%v) = %v", c, e)
	}
	return w
}

// asleep is a world of c in which nobody is up; the leader has this disk, agents 0 and on those behind it.
func asleep(t *testing.T, c api.Config, leader api.Disk, agents ...api.Disk) api.World {
	t.Helper()
	w := fresh(t, c)
	w.H.Up, w.H.D = false, leader
	for k := range w.N {
		w.N[k].Up = false
	}
	for k, d := range agents {
		w.N[k].D = d
	}
	return w
}

// awake is w when all that weren't up are.
func awake(t *testing.T, w api.World) api.World {
	t.Helper()
	for k := -1; k < len(w.N); k++ {
		if next, e := world.Do(w, api.Happening{Kind: api.HBoot, Agent: k}); e == api.OK {
			w = next
		}
	}
	return w
}

// goes is the log of a leader that goes to the second release; behind come the records that it wrote since.
func goes(behind ...api.Rec) []api.Rec {
	return append([]api.Rec{publishRec(second()), publishRec(third()), startRec(2)}, behind...)
}

// went is the log of an agent that went from the first release to the second one; behind come the records that it wrote since.
func went(try int, good bool, behind ...api.Rec) []api.Rec {
	return append([]api.Rec{beginRec(try, second()), stepRec(try), stepRec(try), doneRec(try, good)}, behind...)
}

// midway is a world of which agent 1 has the second release, 0 goes there, and 2 hasn't heard of it; all are up.
func midway(t *testing.T) api.World {
	w := asleep(t, fleet(), safe(goes(sendRec(1, 1), gotRec(1, 1, true), sendRec(0, 2), sendRec(2, 3))...),
		safe(beginRec(2, second()), stepRec(2)), safe(went(1, true)...))
	w.Mail = []api.Mail{order(2, 3, second()), reports(1, 1, true), order(0, 2, second())}
	return awake(t, w)
}

// holdLeader asks that Leader of w says what is wanted; it is zero with an error.
func holdLeader(t *testing.T, what string, w api.World, want api.Leader, wantE api.Errno) {
	t.Helper()
	l, e := Leader(w)
	if e != wantE || told(l) != told(want) || !lead.Same(l, want) || e != api.OK && !isZero(l) {
		t.Errorf("%s: Leader = %v, %v, want %v, %v", what, l, e, want, wantE)
	}
}

func holdAgent(t *testing.T, what string, w api.World, k int, want api.Agent, wantE api.Errno) {
	t.Helper()
	a, e := Agent(w, k)
	if e != wantE || told(a) != told(want) || !agent.Same(a, want) || e != api.OK && !isZero(a) {
		t.Errorf("%s: Agent %d = %v, %v, want %v, %v", what, k, a, e, want, wantE)
	}
}

// P11.1, by hand: of who is up it is what it is, and the power takes nothing of it.
func TestMidway(t *testing.T) {
	releases := []api.Release{first(), second(), third()}
	known := []api.Known{{State: api.Told, Try: 2}, {State: api.Fine, Try: 1}, {State: api.Told, Try: 3}}
	leader := api.Leader{Releases: releases, Now: 1, Goal: 2, Agents: known, Next: 4}
	agents := []api.Agent{
		{Lock: []api.Pin{{Name: 1, Version: 2}}, At: 1, Try: 2, Going: true, Goal: second()},
		{Lock: row(1, 2, 2), At: 2, Try: 1, Good: true},
		{Lock: row(1, 1, 1), At: 1, Good: true},
	}
	for crashed := range 1 << 4 {
		w := midway(t)
		for k := -1; k < 3; k++ {
			if crashed>>(k+1)&1 == 1 {
				w, _ = world.Do(w, api.Happening{Kind: api.HCrash, Agent: k})
			}
		}
		what := fmt.Sprintf("midway, crashed %04b", crashed)
		holdLeader(t, what, w, leader, api.OK)
		for k, a := range agents {
			holdAgent(t, what, w, k, a, api.OK)
		}
	}
}

// diskCase: who has disk d is what these records make of it, or e.
type diskCase struct {
	what string
	d    api.Disk
	want []api.Rec
	e    api.Errno
}

// waiting are cases of who has records l safe, and behind them something waits; next is a record that goes behind l.
func waiting(l []api.Rec, next, behindIt api.Rec) []diskCase {
	var all []diskCase
	add := func(what string, wait string, behind ...api.Rec) {
		all = append(all, diskCase{what, api.Disk{Safe: text(l...), Wait: []byte(wait)}, slices.Concat(l, behind), api.OK})
	}
	one, two := string(text(next)), string(text(next, behindIt))
	add("nothing waits", "")
	add("a record waits", one, next)
	add("two records wait", two, next, behindIt)
	for n := range one {
		add(fmt.Sprint("of a record only ", n, " bytes wait"), one[:n])
	}
	for n := len(one); n < len(two); n++ {
		add(fmt.Sprint("of two records only ", n, " bytes wait"), two[:n], next)
	}
	add("an empty line waits, ahead of a record", "\n"+one)
	add("what is no record waits, ahead of one", "no record\n"+one)
	add("what is no record waits, behind one", one+"2 0 201 0 0 0 =\n"+string(text(behindIt)), next)
	add("any bytes wait", "\x00\xff\n\n")
	add("any bytes wait behind a record", one+"\xff"+one, next)
	add("as much waits as may", one+strings.Repeat("\n", api.MaxText-len(text(l...))-len(one)), next)
	return all
}

func leaderCases() []diskCase {
	six := []api.Rec{}
	for id := 2; id <= api.MaxReleases; id++ {
		six = append(six, publishRec(release(id)))
	}
	ill := goes(sendRec(1, 1), gotRec(1, 1, false), sendRec(0, 2), sendRec(2, 3), gotRec(2, 3, false))
	back := slices.Concat(ill, []api.Rec{backRec, sendRec(0, 4), sendRec(1, 5), sendRec(2, 6), gotRec(1, 5, true), gotRec(2, 6, false), gotRec(0, 4, true), endRec})
	full := append(slices.Repeat([]api.Rec{startRec(2), backRec, endRec}, 66), startRec(2))
	full = append([]api.Rec{publishRec(second())}, full...)
	inTurn := func(what string, l ...api.Rec) diskCase { return diskCase{what, safe(l...), l, api.OK} }
	wrong := func(what string, e api.Errno, l ...api.Rec) diskCase { return diskCase{what, safe(l...), nil, e} }
	all := []diskCase{
		inTurn("nothing is written"), inTurn("a release", publishRec(second())), inTurn("all releases", six...), inTurn("all go", goes()...),
		inTurn("too many are ill", ill...), inTurn("all are back", back...), inTurn("on again", append(back, startRec(3), sendRec(1, 7))...),
		inTurn("a full log", full...), inTurn("a log that is full but for one", full[:api.MaxLog-1]...),
		{"a full log, a record waits", api.Disk{Safe: text(full...), Wait: text(backRec)}, full, api.OK},
		{"a full log, a record waits that is out of turn", api.Disk{Safe: text(full...), Wait: text(startRec(3))}, full, api.OK},
		{"two wait, and there is room for one", api.Disk{Safe: text(full[:api.MaxLog-1]...), Wait: text(full[api.MaxLog-1], endRec)}, full, api.OK},
		{"all of a log waits", api.Disk{Wait: text(full...)}, full, api.OK},
		wrong("an agent's record", api.ErrForm, stepRec(1)), wrong("an agent's record, behind others", api.ErrForm, goes(beginRec(1, second()))...),
		wrong("a release out of turn", api.ErrLate, publishRec(third())), wrong("a rule is broken", api.ErrRule, publishRec(release(2, row(1, 1, 2)...))),
		wrong("a release too many", api.ErrMany, append(six, six[4])...),
		wrong("to no release", api.ErrWho, goes()[0], startRec(3)), wrong("to where all are", api.ErrTwice, goes()[0], startRec(1)),
		wrong("start twice", api.ErrLate, goes(startRec(3))...), wrong("no such agent", api.ErrWho, goes(sendRec(3, 1))...),
		wrong("ahead of the wave", api.ErrLate, goes(sendRec(0, 1))...), wrong("not the next try", api.ErrLate, goes(sendRec(1, 2))...),
		wrong("too many are ill, and one is told", api.ErrLate, append(ill, sendRec(0, 4))...), wrong("back from nowhere", api.ErrLate, backRec),
		wrong("not over", api.ErrLate, goes(endRec)...), wrong("the first error is told: form", api.ErrForm, stepRec(1), endRec),
		wrong("the first error is told: late", api.ErrLate, endRec, stepRec(1)),
		{"a record waits that is out of turn", api.Disk{Safe: text(goes()...), Wait: text(endRec)}, nil, api.ErrLate},
		{"an agent's record waits", api.Disk{Safe: text(goes()...), Wait: text(sendRec(1, 1), stepRec(1))}, nil, api.ErrForm},
	}
	return append(all, waiting(goes(), sendRec(1, 1), gotRec(1, 1, true))...)
}

// P11.1: who isn't up is what its log makes of it, with all that waits there; or the error of that.
func TestLeaderByLog(t *testing.T) {
	for _, c := range leaderCases() {
		w := asleep(t, fleet(), c.d, safe(backRec), safe(went(9, false)...), safe(endRec)) // of the logs of others nothing is asked
		var want api.Leader
		if c.e == api.OK {
			want, _ = lead.Replay(w.C, c.want)
		}
		holdLeader(t, c.what, w, want, c.e)
		if up, e := world.Do(w, api.Happening{Kind: api.HBoot, Agent: -1}); e != c.e || e == api.OK && !lead.Same(up.H.L, want) {
			t.Errorf("%s: HBoot = %v, %v, want %v", c.what, up.H, e, c.e)
		} else if e == api.OK {
			holdLeader(t, c.what+", up", up, want, api.OK)
		}
	}
}

func agentCases() []diskCase {
	var full []api.Rec
	for try := range api.MaxLog {
		full = append(full, beginRec(try+1, second()))
	}
	inTurn := func(what string, l ...api.Rec) diskCase { return diskCase{what, safe(l...), l, api.OK} }
	wrong := func(what string, e api.Errno, l ...api.Rec) diskCase { return diskCase{what, safe(l...), nil, e} }
	all := []diskCase{
		inTurn("nothing is written"), inTurn("it goes", went(3, true)[:1]...), inTurn("it is on its way", went(3, true)[:3]...), inTurn("it is there", went(3, true)...),
		inTurn("it is there, and isn't good", went(3, false)...), inTurn("it goes back", went(3, false, beginRec(7, first()), stepRec(7))...),
		inTurn("to another one, on its way", beginRec(1, second()), stepRec(1), beginRec(4, third()), stepRec(4)), inTurn("a full log", full...),
		{"a full log, a record waits", api.Disk{Safe: text(full...), Wait: text(stepRec(api.MaxLog))}, full, api.OK},
		{"a full log, a record waits that is out of turn", api.Disk{Safe: text(full...), Wait: text(stepRec(1))}, full, api.OK},
		{"two wait, and there is room for one", api.Disk{Safe: text(full[:api.MaxLog-1]...), Wait: text(full[api.MaxLog-1], stepRec(api.MaxLog))}, full, api.OK},
		{"all of a log waits", api.Disk{Wait: text(went(2, true)...)}, went(2, true), api.OK},
		wrong("the leader's record", api.ErrForm, backRec), wrong("the leader's record, behind others", api.ErrForm, went(2, true, endRec)...),
		wrong("a step of who doesn't go", api.ErrLate, stepRec(1)), wrong("a step too many", api.ErrLate, slices.Concat(went(1, true)[:3], []api.Rec{stepRec(1)})...),
		wrong("there, a step ahead of it", api.ErrLate, beginRec(1, second()), stepRec(1), doneRec(1, true)), wrong("by another try", api.ErrLate, beginRec(3, second()), stepRec(2)),
		wrong("by a try again", api.ErrLate, went(3, true, beginRec(3, third()))...), wrong("by a try below", api.ErrLate, went(3, true, beginRec(2, third()))...),
		wrong("the first error is told: form", api.ErrForm, backRec, stepRec(1)), wrong("the first error is told: late", api.ErrLate, stepRec(1), backRec),
		{"a record waits that is out of turn", api.Disk{Safe: text(went(3, true)...), Wait: text(stepRec(3))}, nil, api.ErrLate},
		{"the leader's record waits", api.Disk{Safe: text(went(3, true)...), Wait: text(beginRec(4, third()), endRec)}, nil, api.ErrForm},
	}
	return append(all, waiting(went(3, true), beginRec(4, first()), stepRec(4))...)
}

// P11.1: as of the leader, wherever the agent stands.
func TestAgentByLog(t *testing.T) {
	for _, c := range agentCases() {
		for k := range 3 {
			disks := []api.Disk{safe(backRec), safe(went(9, false)...), safe(endRec)} // of the logs of others nothing is asked
			disks[k] = c.d
			w := asleep(t, fleet(), safe(stepRec(1)), disks...)
			var want api.Agent
			if c.e == api.OK {
				want, _ = agent.Replay(w.C.First, c.want)
			}
			holdAgent(t, c.what, w, k, want, c.e)
			if up, e := world.Do(w, api.Happening{Kind: api.HBoot, Agent: k}); e != c.e || e == api.OK && !agent.Same(up.N[k].A, want) {
				t.Errorf("%s: HBoot of %d = %v, want %v", c.what, k, e, c.e)
			} else if e == api.OK {
				holdAgent(t, c.what+", up", up, k, want, api.OK)
			}
		}
	}
}

// P11.1: there is no such agent; that is told ahead of what the logs make.
func TestNoAgent(t *testing.T) {
	one := fresh(t, api.Config{First: release(1), Waves: [][]int{{0}}})
	nonsense := asleep(t, fleet(), safe(stepRec(1)), safe(backRec), safe(endRec), safe(stepRec(1)))
	for _, w := range []api.World{one, midway(t), nonsense} {
		for _, k := range [...]int{math.MinInt, -2, -1, len(w.N), len(w.N) + 1, api.MaxAgents, math.MaxInt} {
			holdAgent(t, "no such agent", w, k, api.Agent{}, api.ErrWho)
		}
	}
}

// fault makes something wrong with midway, and says the error.
type fault struct {
	what string
	make func(w *api.World)
	want api.Errno
}

// faults stand in the order in which they are told.
func faults() []fault {
	l := []fault{
		{"the first release's number", func(w *api.World) { w.C.First.ID = 2 }, api.ErrRange},
		{"a rule is broken", func(w *api.World) { w.C.Rules = []api.Rule{{Name: 1, Version: 1, With: 9, Least: 1}} }, api.ErrRule},
		{"an agent in two waves", func(w *api.World) { w.C.Waves = [][]int{{1}, {1, 2}} }, api.ErrTwice},
		{"an agent is missing", func(w *api.World) { w.N = w.N[:2] }, api.ErrForm},
		{"mail by no try", func(w *api.World) { w.Mail = append(w.Mail, reports(0, 0, true)) }, api.ErrRange},
		{"mail to nobody", func(w *api.World) { w.Mail = append([]api.Mail{reports(3, 1, true)}, w.Mail...) }, api.ErrWho},
		{"the leader: torn", func(w *api.World) { w.H.D.Safe = w.H.D.Safe[:len(w.H.D.Safe)-1] }, api.ErrTorn},
		{"the leader: something waits", func(w *api.World) { w.H.D.Wait = text(backRec) }, api.ErrForm},
		{"the leader: out of turn", func(w *api.World) { w.H.D.Safe = append(w.H.D.Safe, text(startRec(2))...) }, api.ErrLate},
		{"the leader: it isn't what its log makes", func(w *api.World) { w.H.L.Next++ }, api.ErrForm},
	}
	for k := range 3 {
		l = append(l, []fault{
			{"too many bytes", func(w *api.World) { w.N[k].D.Wait = make([]byte, api.MaxText+1) }, api.ErrMany},
			{"no record", func(w *api.World) { w.N[k].D.Safe = append(w.N[k].D.Safe, "1\n"...) }, api.ErrText},
			{"something waits", func(w *api.World) { w.N[k].D.Wait = []byte("x") }, api.ErrForm},
			{"out of turn", func(w *api.World) { w.N[k].D.Safe = append(w.N[k].D.Safe, text(stepRec(9))...) }, api.ErrLate},
			{"it isn't what its log makes", func(w *api.World) { w.N[k].A.Good = !w.N[k].A.Good }, api.ErrForm},
			{"it isn't up, and not as new", func(w *api.World) { w.N[k].Up, w.N[k].A.Try = false, w.N[k].A.Try+1 }, api.ErrForm},
		}...)
	}
	return l
}

// P11.1: what is wrong with a world is told first, whoever is asked for, and whoever it is wrong with.
func TestNoWorld(t *testing.T) {
	ask := func(what string, w api.World, want api.Errno) {
		holdLeader(t, what, w, api.Leader{}, want)
		for _, k := range [...]int{math.MinInt, -1, 0, 1, 2, 3, math.MaxInt} {
			holdAgent(t, what, w, k, api.Agent{}, want)
		}
	}
	ask("no world at all", api.World{}, api.ErrRange)
	for k, f := range faults() {
		w := midway(t)
		f.make(&w)
		ask(f.what, w, f.want)
		for _, later := range faults()[k+1:] {
			w := midway(t)
			later.make(&w)
			f.make(&w)
			want := world.Check(w)
			if want == api.OK {
				t.Errorf("%s, and %s: it is a world", f.what, later.what)
			}
			ask(f.what+", and "+later.what, w, want)
		}
	}
}
