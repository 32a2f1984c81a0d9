package world

import (
	"fmt"
	"math"
	"slices"
	"testing"

	"vanguard/api"
	"vanguard/disk"
)

// of is a happening of an agent; its Good is of a step alone.
func of(kind, k int) api.Happening { return api.Happening{Kind: kind, Agent: k, Good: true} }

// with is a happening of a number: of mail, or of a release.
func with(kind, n int) api.Happening { return api.Happening{Kind: kind, N: n} }

func publish(l ...api.Pin) api.Happening { return api.Happening{Kind: api.HPublish, Lock: l} }

// effect is what a happening changes of a world.
type effect func(w *api.World)

// nothing is changed.
func nothing(*api.World) {}

// records of a disk.
func records(d api.Disk) []api.Rec {
	_, l, e := disk.Recover(d)
	if e != api.OK {
		panic(fmt.Sprint("no disk: ", e))
	}
	return l
}

// writes: the leader (k below 0), or agent k, has one more record in its log, and is what it makes.
func writes(k int, r api.Rec) effect {
	return func(w *api.World) {
		if k < 0 {
			w.H = headOf(w.C, append(records(w.H.D), r))
			return
		}
		w.N = slices.Clone(w.N)
		w.N[k] = nodeOf(w.C, append(records(w.N[k].D), r))
	}
}

func sends(m api.Mail) effect {
	return func(w *api.World) { w.Mail = append(slices.Clone(w.Mail), m) }
}

func loses(k int) effect {
	return func(w *api.World) { w.Mail = slices.Delete(slices.Clone(w.Mail), k, k+1) }
}

func crashes(k int) effect { return func(w *api.World) { *w = down(*w, k) } }

// boots: the leader, or agent k, is what these records make, and they are what it has on its disk.
func boots(k int, l ...api.Rec) effect {
	return func(w *api.World) {
		if k < 0 {
			w.H = headOf(w.C, l)
			return
		}
		w.N = slices.Clone(w.N)
		w.N[k] = nodeOf(w.C, l)
	}
}

func all(l ...effect) effect {
	return func(w *api.World) {
		for _, f := range l {
			f(w)
		}
	}
}

// doCase: what x makes of w: an error, or an effect.
type doCase struct {
	what string
	w    api.World
	x    api.Happening
	e    api.Errno
	then effect
}

// ask holds Do, and Run of x alone, against what is wanted.
func (c doCase) ask(t *testing.T) {
	t.Helper()
	if e := Check(c.w); e != api.OK {
		t.Fatalf("%s: Check of what is asked = %v", c.what, e)
	}
	got, e := Do(c.w, c.x)
	ran, said, eRun := Run(c.w, []api.Happening{c.x})
	if e != c.e || eRun != api.OK || !slices.Equal(said, []api.Errno{c.e}) {
		t.Errorf("%s: Do = %v, Run %v, %v, want %v", c.what, e, said, eRun, c.e)
		return
	}
	if c.e != api.OK {
		if !isZero(got) || told(ran) != told(c.w) || !Same(ran, c.w) {
			t.Errorf("%s: with an error something is changed", c.what)
		}
		return
	}
	want := c.w
	c.then(&want)
	if told(got) != told(want) || !Same(got, want) || told(ran) != told(want) {
		t.Errorf("%s:\nDo   = %v,\nRun  = %v,\nwant %v", c.what, got, ran, want)
	}
	if e := Check(got); e != api.OK {
		t.Errorf("%s: Check of what comes of it = %v", c.what, e)
	}
}

func askAll(t *testing.T, l []doCase) {
	t.Helper()
	for _, c := range l {
		c.ask(t)
	}
}

// full is a world with as much mail as may be on its way, all of it like the first one behind what w has.
func full(w api.World, m api.Mail) api.World {
	w.Mail = slices.Clone(w.Mail)
	for len(w.Mail) < api.MaxMail {
		w.Mail = append(w.Mail, m)
	}
	return w
}

// fresh is a world of fleet in which these are the leader's records, and this is on its way.
func fresh(leader []api.Rec, mail ...api.Mail) api.World {
	return logs{c: fleet(), leader: leader, mail: mail}.world()
}

// P10.2: HPublish, HStart, HBack, HEnd.
func TestLeader(t *testing.T) {
	six := []api.Rec{}
	for id := 2; id <= api.MaxReleases; id++ {
		six = append(six, publishRec(release(id)))
	}
	over := goes(sendRec(1, 1), gotRec(1, 1, true), sendRec(0, 2), sendRec(2, 3), gotRec(2, 3, true), gotRec(0, 2, false))
	back := goes(sendRec(1, 1), backRec)
	isBack := append(slices.Clone(back), gotRec(1, 1, true), sendRec(1, 2), gotRec(1, 2, false))
	askAll(t, []doCase{
		{"a release", fresh(nil), publish(row(7, 2, 3)...), api.OK, writes(-1, publishRec(release(2, row(7, 2, 3)...)))},
		{"a release of nothing", fresh(nil), publish(), api.OK, writes(-1, publishRec(release(2)))},
		{"a release on the way", midway(), publish(row(1, 1, 1)...), api.OK, writes(-1, publishRec(release(4, row(1, 1, 1)...)))},
		{"the last release", fresh(six[:4]), publish(), api.OK, writes(-1, six[4])},
		{"a release too many", fresh(six), publish(), api.ErrRange, nil}, // its number may not be: told ahead of how many there are
		{"too many pins", fresh(nil), publish(row(1, api.MaxPins+1, 1)...), api.ErrMany, nil},
		{"a version of 0", fresh(nil), publish(row(1, 1, 0)...), api.ErrRange, nil},
		{"a name twice", fresh(nil), publish(append(row(1, 1, 1), row(1, 1, 2)...)...), api.ErrTwice, nil},
		{"a release too many, with a name twice", fresh(six), publish(append(row(1, 1, 1), row(1, 1, 2)...)...), api.ErrRange, nil},
		{"a rule is broken", fresh(nil), publish(row(1, 1, 2)...), api.ErrRule, nil},
		{"a release, the leader is down", down(fresh(nil), -1), publish(), api.ErrLate, nil},
		{"a wrong release, the leader is down", down(fresh(six), -1), publish(row(1, 1, 0)...), api.ErrLate, nil},
		{"nothing else is asked", fresh(nil), api.Happening{Kind: api.HPublish, Agent: -7, N: math.MaxInt, Good: true}, api.OK, writes(-1, publishRec(release(2)))},

		{"start", fresh(goes()[:2]), with(api.HStart, 3), api.OK, writes(-1, startRec(3))},
		{"start, to where all are", fresh(goes()[:2]), with(api.HStart, 1), api.ErrTwice, nil},
		{"start, to no release", fresh(goes()[:2]), with(api.HStart, 4), api.ErrWho, nil},
		{"start, to what can be no release", fresh(goes()[:2]), with(api.HStart, api.MaxReleases+1), api.ErrRange, nil},
		{"start, to 0", fresh(goes()[:2]), with(api.HStart, 0), api.ErrRange, nil},
		{"start, to below 0", fresh(goes()), with(api.HStart, math.MinInt), api.ErrRange, nil},
		{"start twice", fresh(goes()), with(api.HStart, 3), api.ErrLate, nil},
		{"start, the leader is down", down(fresh(goes()[:2]), -1), with(api.HStart, 0), api.ErrLate, nil},

		{"back", midway(), of(api.HBack, 99), api.OK, writes(-1, backRec)},
		{"back from nowhere", fresh(nil), of(api.HBack, 0), api.ErrLate, nil},
		{"back twice", fresh(back), of(api.HBack, 0), api.ErrLate, nil},
		{"back, the leader is down", down(midway(), -1), of(api.HBack, 0), api.ErrLate, nil},

		{"over", fresh(over), of(api.HEnd, -9), api.OK, writes(-1, endRec)},
		{"over, all back", fresh(isBack), of(api.HEnd, 0), api.OK, writes(-1, endRec)},
		{"over, nobody was told", fresh(goes(backRec)), of(api.HEnd, 0), api.OK, writes(-1, endRec)},
		{"not over", midway(), of(api.HEnd, 0), api.ErrLate, nil},
		{"not over, one is on its way back", fresh(isBack[:len(isBack)-1]), of(api.HEnd, 0), api.ErrLate, nil},
		{"over nothing", fresh(nil), of(api.HEnd, 0), api.ErrLate, nil},
		{"over, the leader is down", down(fresh(over), -1), of(api.HEnd, 0), api.ErrLate, nil},
		{"over, all others are down", down(down(down(fresh(over), 0), 1), 2), of(api.HEnd, 0), api.OK, writes(-1, endRec)},
	})
}

// P10.2: HTell.
func TestTell(t *testing.T) {
	tells := func(k, try int, r api.Release) effect {
		return all(writes(-1, sendRec(k, try)), sends(order(k, try, r)))
	}
	ill := goes(sendRec(1, 1), gotRec(1, 1, false), sendRec(0, 2), gotRec(0, 2, false))
	alone := api.Config{First: first(), Waves: [][]int{{0}}}
	room := full(fresh(goes()), reports(1, 3, true))
	room.Mail = room.Mail[:api.MaxMail-1]
	askAll(t, []doCase{
		{"the first wave", fresh(goes()), of(api.HTell, 1), api.OK, tells(1, 1, second())},
		{"the second wave", fresh(goes(sendRec(1, 1), gotRec(1, 1, true))), of(api.HTell, 2), api.OK, tells(2, 2, second())},
		{"the first one is ill", fresh(goes(sendRec(1, 1), gotRec(1, 1, false))), of(api.HTell, 0), api.OK, tells(0, 2, second())},
		{"to the third release", fresh(append(goes()[:2], startRec(3))), of(api.HTell, 1), api.OK, tells(1, 1, third())},
		{"the agent is down", down(fresh(goes()), 1), of(api.HTell, 1), api.OK, tells(1, 1, second())},
		{"back", fresh(goes(sendRec(1, 1), backRec)), of(api.HTell, 1), api.OK, tells(1, 2, first())},
		{"back, it is there", midway(), of(api.HTell, 1), api.ErrLate, nil},
		{"back, after others", back(), of(api.HTell, 0), api.OK, tells(0, 4, first())},
		{"again to the second release", fresh(goes(backRec, endRec, startRec(2))), of(api.HTell, 1), api.OK, tells(1, 1, second())},
		{"behind other mail", fresh(goes(), reports(0, 9, true), order(1, 7, third())), of(api.HTell, 1), api.OK, tells(1, 1, second())},
		{"no room for mail", full(fresh(goes()), reports(1, 3, true)), of(api.HTell, 1), api.OK, writes(-1, sendRec(1, 1))},
		{"room for just this mail", room, of(api.HTell, 1), api.OK, tells(1, 1, second())},

		{"not its wave", fresh(goes()), of(api.HTell, 0), api.ErrLate, nil},
		{"told already", midway(), of(api.HTell, 2), api.ErrLate, nil},
		{"too many are ill", fresh(ill), of(api.HTell, 2), api.ErrLate, nil},
		{"back, told already", back(), of(api.HTell, 1), api.ErrLate, nil},
		{"back, idle", back(), of(api.HTell, 2), api.ErrLate, nil},
		{"nowhere", fresh(nil), of(api.HTell, 1), api.ErrLate, nil},
		{"the leader is down", down(fresh(goes()), -1), of(api.HTell, 1), api.ErrLate, nil},
		{"no such agent", fresh(goes()), of(api.HTell, 3), api.ErrWho, nil},
		{"below 0 is nobody", fresh(goes()), of(api.HTell, -1), api.ErrWho, nil},
		{"the least number", fresh(nil), of(api.HTell, math.MinInt), api.ErrWho, nil},
		{"the greatest number", fresh(nil), of(api.HTell, math.MaxInt), api.ErrWho, nil},
		{"no such agent, the leader is down", down(fresh(goes()), -1), of(api.HTell, 3), api.ErrWho, nil},
		{"no such agent of one", logs{c: alone}.world(), of(api.HTell, 1), api.ErrWho, nil},
	})
}

// P10.2: HAgain.
func TestAgain(t *testing.T) {
	turned := goes(sendRec(1, 1), gotRec(1, 1, true), sendRec(0, 2), backRec)
	askAll(t, []doCase{
		{"told", midway(), of(api.HAgain, 0), api.OK, sends(order(0, 2, second()))},
		{"told, the last one", midway(), of(api.HAgain, 2), api.OK, sends(order(2, 3, second()))},
		{"the agent is down", down(midway(), 0), of(api.HAgain, 0), api.OK, sends(order(0, 2, second()))},
		{"back", back(), of(api.HAgain, 1), api.OK, sends(order(1, 3, first()))},
		{"too many are ill", fresh(goes(sendRec(1, 1), gotRec(1, 1, false), sendRec(0, 2), sendRec(2, 3), gotRec(0, 2, false))), of(api.HAgain, 2), api.OK, sends(order(2, 3, second()))},
		{"no room for mail", full(midway(), reports(0, 2, true)), of(api.HAgain, 0), api.OK, nothing},
		{"no room in the log", fullTold(), of(api.HAgain, 1), api.OK, sends(order(1, 1, second()))},

		{"not told", fresh(goes()), of(api.HAgain, 1), api.ErrLate, nil},
		{"it said that it is there", midway(), of(api.HAgain, 1), api.ErrLate, nil},
		{"it said that it is ill", fresh(goes(sendRec(1, 1), gotRec(1, 1, false))), of(api.HAgain, 1), api.ErrLate, nil},
		{"told to go there, all go back", fresh(turned), of(api.HAgain, 0), api.ErrLate, nil},
		{"back, it said that it is there", fresh(turned), of(api.HAgain, 1), api.ErrLate, nil},
		{"back, idle", fresh(turned), of(api.HAgain, 2), api.ErrLate, nil},
		{"back, it said that it is back", fresh(append(turned, sendRec(1, 3), gotRec(1, 3, true))), of(api.HAgain, 1), api.ErrLate, nil},
		{"nowhere", fresh(nil), of(api.HAgain, 1), api.ErrLate, nil},
		{"the leader is down", down(midway(), -1), of(api.HAgain, 0), api.ErrLate, nil},
		{"no such agent", midway(), of(api.HAgain, 3), api.ErrWho, nil},
		{"below 0 is nobody", midway(), of(api.HAgain, -1), api.ErrWho, nil},
		{"no such agent, the leader is down", down(midway(), -1), of(api.HAgain, math.MinInt), api.ErrWho, nil},
	})
}

// P10.2: HStep.
func TestStep(t *testing.T) {
	ill := api.Happening{Kind: api.HStep, Agent: 1}
	done := func(k, try int, good bool) effect {
		return all(writes(k, doneRec(try, good)), sends(reports(k, try, good)))
	}
	at := func(l ...api.Rec) api.World { return logs{c: fleet(), agents: [][]api.Rec{nil, l}}.world() }
	there := []api.Rec{beginRec(5, second()), stepRec(5), stepRec(5)}
	askAll(t, []doCase{
		{"the first step", at(there[:1]...), of(api.HStep, 1), api.OK, writes(1, stepRec(5))},
		{"the last step", at(there[:2]...), of(api.HStep, 1), api.OK, writes(1, stepRec(5))},
		{"a step, and not good", at(there[:2]...), ill, api.OK, writes(1, stepRec(5))},
		{"there", at(there...), of(api.HStep, 1), api.OK, done(1, 5, true)},
		{"there, and not good", at(there...), ill, api.OK, done(1, 5, false)},
		{"there from the begin on", at(beginRec(9, first())), of(api.HStep, 1), api.OK, done(1, 9, true)},
		{"a step back", back(), of(api.HStep, 1), api.OK, writes(1, stepRec(3))},
		{"the leader is down", down(at(there...), -1), of(api.HStep, 1), api.OK, done(1, 5, true)},
		{"no room for mail", full(at(there...), reports(0, 2, true)), of(api.HStep, 1), api.OK, writes(1, doneRec(5, true))},
		{"others are on their way", midway(), of(api.HStep, 0), api.OK, writes(0, stepRec(2))},

		{"it doesn't go", at(), of(api.HStep, 1), api.ErrLate, nil},
		{"it doesn't go any more", midway(), of(api.HStep, 1), api.ErrLate, nil},
		{"it is down", down(at(there...), 1), of(api.HStep, 1), api.ErrLate, nil},
		{"no such agent", at(there...), of(api.HStep, 3), api.ErrWho, nil},
		{"below 0 is nobody", at(there...), of(api.HStep, -1), api.ErrWho, nil},
		{"the least number", at(there...), of(api.HStep, math.MinInt), api.ErrWho, nil},
	})
}

// P10.2: HReport.
func TestReport(t *testing.T) {
	askAll(t, []doCase{
		{"good", midway(), of(api.HReport, 1), api.OK, sends(reports(1, 1, true))},
		{"good, whatever the happening says", midway(), api.Happening{Kind: api.HReport, Agent: 1}, api.OK, sends(reports(1, 1, true))},
		{"not good", logs{c: fleet(), agents: [][]api.Rec{went(7, false)}}.world(), of(api.HReport, 0), api.OK, sends(reports(0, 7, false))},
		{"the leader is down", down(midway(), -1), of(api.HReport, 1), api.OK, sends(reports(1, 1, true))},
		{"no room for mail", full(midway(), reports(0, 2, true)), of(api.HReport, 1), api.OK, nothing},

		{"it goes", midway(), of(api.HReport, 0), api.ErrLate, nil},
		{"it went nowhere yet", midway(), of(api.HReport, 2), api.ErrLate, nil},
		{"it is down", down(midway(), 1), of(api.HReport, 1), api.ErrLate, nil},
		{"no such agent", midway(), of(api.HReport, 3), api.ErrWho, nil},
		{"below 0 is nobody", midway(), of(api.HReport, -1), api.ErrWho, nil},
	})
}

// P10.2: HHear, HTwice, HLose, of reports.
func TestHearReport(t *testing.T) {
	told := goes(sendRec(1, 1))
	got := func(good bool) effect { return writes(-1, gotRec(1, 1, good)) }
	late := func(what string, leader []api.Rec, m api.Mail) []doCase {
		w := fresh(leader, order(1, 1, second()), m)
		return []doCase{
			{what, w, with(api.HHear, 1), api.OK, loses(1)},
			{what + ", twice", w, with(api.HTwice, 1), api.OK, nothing},
			{what + ", lost", w, with(api.HLose, 1), api.OK, loses(1)},
		}
	}
	good, ill := fresh(told, reports(1, 1, true)), fresh(told, order(0, 4, third()), reports(1, 1, false))
	askAll(t, []doCase{
		{"good", good, with(api.HHear, 0), api.OK, all(got(true), loses(0))},
		{"good, twice", good, with(api.HTwice, 0), api.OK, got(true)},
		{"ill", ill, with(api.HHear, 1), api.OK, all(got(false), loses(1))},
		{"ill, twice", ill, with(api.HTwice, 1), api.OK, got(false)},
		{"ill, whatever the happening says", ill, api.Happening{Kind: api.HHear, Agent: 77, N: 1, Good: true}, api.OK, all(got(false), loses(1))},
		{"the agent is down", down(good, 1), with(api.HHear, 0), api.OK, all(got(true), loses(0))},
		{"lost", good, with(api.HLose, 0), api.OK, loses(0)},
		{"the leader is down", down(good, -1), with(api.HHear, 0), api.ErrLate, nil},
		{"the leader is down, twice", down(good, -1), with(api.HTwice, 0), api.ErrLate, nil},
		{"the leader is down, lost", down(good, -1), with(api.HLose, 0), api.OK, loses(0)},
	})
	askAll(t, late("it isn't told", goes(), reports(1, 1, true)))
	askAll(t, late("nobody goes", nil, reports(2, 5, false)))
	askAll(t, late("by another try", told, reports(1, 2, true)))
	askAll(t, late("of another one", told, reports(0, 1, true)))
	askAll(t, late("it said so already", append(told, gotRec(1, 1, true)), reports(1, 1, false)))
	askAll(t, late("it was told to go back since", append(told, backRec, sendRec(1, 2)), reports(1, 1, true)))
}

// P10.2: HHear, HTwice, HLose, of mail to agents.
func TestHearOrder(t *testing.T) {
	at := func(m api.Mail, l ...api.Rec) api.World {
		return logs{c: fleet(), agents: [][]api.Rec{nil, l}, mail: []api.Mail{reports(0, 3, true), m}}.world()
	}
	begins := func(try int, r api.Release) effect { return writes(1, beginRec(try, r)) }
	late := func(what string, w api.World) []doCase {
		return []doCase{
			{what, w, with(api.HHear, 1), api.OK, loses(1)},
			{what + ", twice", w, with(api.HTwice, 1), api.OK, nothing},
			{what + ", lost", w, with(api.HLose, 1), api.OK, loses(1)},
		}
	}
	news, again, notGood := at(order(1, 4, second())), at(order(1, 4, second()), went(4, true)...), at(order(1, 4, second()), went(4, false)...)
	turn := at(order(1, 5, first()), beginRec(4, second()), stepRec(4))
	askAll(t, []doCase{
		{"it goes", news, with(api.HHear, 1), api.OK, all(begins(4, second()), loses(1))},
		{"it goes, twice", news, with(api.HTwice, 1), api.OK, begins(4, second())},
		{"it goes, whatever the happening says", news, api.Happening{Kind: api.HHear, Agent: -3, N: 1, Lock: row(1, 1, 0)}, api.OK, all(begins(4, second()), loses(1))},
		{"it goes to another one", turn, with(api.HHear, 1), api.OK, all(begins(5, first()), loses(1))},
		{"it goes again", at(order(1, 5, second()), went(4, true)...), with(api.HHear, 1), api.OK, all(begins(5, second()), loses(1))},
		{"it goes by the last try", at(order(1, api.MaxTry, third()), went(4, true)...), with(api.HHear, 1), api.OK, all(begins(api.MaxTry, third()), loses(1))},
		{"it goes to a release that nobody has", at(order(1, 1, release(6, row(9, 2, 9)...))), with(api.HHear, 1), api.OK, all(begins(1, release(6, row(9, 2, 9)...)), loses(1))},
		{"the leader is down", down(news, -1), with(api.HHear, 1), api.OK, all(begins(4, second()), loses(1))},
		{"it is there already", again, with(api.HHear, 1), api.OK, all(loses(1), sends(reports(1, 4, true)))},
		{"it is there already, twice", again, with(api.HTwice, 1), api.OK, sends(reports(1, 4, true))},
		{"it is there already, lost", again, with(api.HLose, 1), api.OK, loses(1)},
		{"it is there, and not good", notGood, with(api.HHear, 1), api.OK, all(loses(1), sends(reports(1, 4, false)))},
		{"it is there, by this try, though it is told of another release", at(order(1, 4, third()), went(4, true)...), with(api.HHear, 1), api.OK, all(loses(1), sends(reports(1, 4, true)))},
		{"there is room for its report", full(again, reports(2, 2, true)), with(api.HHear, 1), api.OK, all(loses(1), sends(reports(1, 4, true)))},
		{"there is no room for its report", full(again, reports(2, 2, true)), with(api.HTwice, 1), api.OK, nothing},
		{"it is down", down(news, 1), with(api.HHear, 1), api.ErrLate, nil},
		{"it is down, twice", down(again, 1), with(api.HTwice, 1), api.ErrLate, nil},
		{"it is down, lost", down(news, 1), with(api.HLose, 1), api.OK, loses(1)},
		{"another one is down", down(down(news, 0), 2), with(api.HTwice, 1), api.OK, begins(4, second())},
	})
	askAll(t, late("it goes by this try", at(order(1, 4, second()), beginRec(4, second()))))
	askAll(t, late("it goes by this try, and nothing is left", at(order(1, 4, second()), went(4, true)[:3]...)))
	askAll(t, late("it goes by a higher try", at(order(1, 3, third()), beginRec(4, second()), stepRec(4))))
	askAll(t, late("it went by a higher try", at(order(1, 3, third()), went(4, true)...)))
}

// P10.2: no such mail is told ahead of who isn't up.
func TestHearNone(t *testing.T) {
	for _, w := range []api.World{midway(), down(down(midway(), -1), 0), logs{c: fleet()}.world(), full(midway(), reports(1, 1, true))} {
		for _, kind := range [...]int{api.HHear, api.HTwice, api.HLose} {
			for _, n := range [...]int{math.MinInt, -1, len(w.Mail), len(w.Mail) + 1, api.MaxMail, math.MaxInt} {
				doCase{fmt.Sprint("mail ", n, " of ", len(w.Mail)), w, with(kind, n), api.ErrWho, nil}.ask(t)
			}
		}
	}
}

// P10.2: HCrash, HBoot.
func TestPower(t *testing.T) {
	for k := -1; k < 3; k++ {
		for _, w := range []api.World{midway(), back(), fullLogs().world(), logs{c: fleet()}.world()} {
			for _, x := range []int{k, k * math.MaxInt} { // all below 0 is the leader
				if k > 0 {
					x = k
				}
				askAll(t, []doCase{
					{fmt.Sprint(x, " goes down"), w, of(api.HCrash, x), api.OK, crashes(k)},
					{fmt.Sprint(x, " goes down twice"), down(w, k), of(api.HCrash, x), api.ErrLate, nil},
					{fmt.Sprint(x, " comes up twice"), w, of(api.HBoot, x), api.ErrLate, nil},
					{fmt.Sprint(x, " comes up"), down(w, k), of(api.HBoot, x), api.OK, func(to *api.World) { *to = w }},
				})
			}
		}
	}
	for _, kind := range [...]int{api.HCrash, api.HBoot} {
		for _, k := range [...]int{3, 4, api.MaxAgents, math.MaxInt} {
			askAll(t, []doCase{
				{fmt.Sprint("no agent ", k), midway(), of(kind, k), api.ErrWho, nil},
				{fmt.Sprint("no agent ", k, ", of none up"), down(down(midway(), 2), -1), of(kind, k), api.ErrWho, nil},
			})
		}
	}
}

// P10.2: HBoot, where something waits, or the log makes nothing.
func TestBoot(t *testing.T) {
	lies := func(k int, safe []byte, wait string) api.World {
		w := down(logs{c: fleet()}.world(), k)
		d := api.Disk{Safe: safe, Wait: []byte(wait)}
		if k < 0 {
			w.H.D = d
		} else {
			w.N[k].D = d
		}
		return w
	}
	begin := beginRec(1, second())
	whole, full := string(text(stepRec(1))), fullLogs().agents[0]
	askAll(t, []doCase{
		{"a record waits", lies(1, text(begin), whole), of(api.HBoot, 1), api.OK, boots(1, begin, stepRec(1))},
		{"two, and a part of one", lies(1, text(begin), whole+whole+"2 0 1"), of(api.HBoot, 1), api.OK, boots(1, begin, stepRec(1), stepRec(1))},
		{"all but a line feed", lies(1, text(begin), whole[:len(whole)-1]), of(api.HBoot, 1), api.OK, boots(1, begin)},
		{"no record, and one behind it", lies(1, text(begin), "x\n"+whole), of(api.HBoot, 1), api.OK, boots(1, begin)},
		{"nothing is safe", lies(2, nil, string(text(begin))), of(api.HBoot, 2), api.OK, boots(2, begin)},
		{"no room for what waits", lies(0, text(full...), string(text(beginRec(api.MaxTry, second())))), of(api.HBoot, 0), api.OK, boots(0, full...)},
		{"room for one of two", lies(0, text(full[:api.MaxLog-1]...), string(text(full[api.MaxLog-1], stepRec(api.MaxTry)))), of(api.HBoot, 0), api.OK, boots(0, full...)},
		{"the leader's waits", lies(-1, text(goes()[:1]...), string(text(goes()[1:]...))+"6 1"), of(api.HBoot, -1), api.OK, boots(-1, goes()...)},

		{"what is safe is out of turn", lies(1, text(stepRec(1)), ""), of(api.HBoot, 1), api.ErrLate, nil},
		{"what waits is out of turn", lies(1, text(begin), string(text(begin))), of(api.HBoot, 1), api.ErrLate, nil},
		{"a record of the leader's", lies(1, text(begin, backRec), ""), of(api.HBoot, 1), api.ErrForm, nil},
		{"a record of an agent's", lies(-1, text(goes(stepRec(1))...), ""), of(api.HBoot, -1), api.ErrForm, nil},
		{"a rule is broken", lies(-1, text(publishRec(release(2, row(1, 1, 2)...))), ""), of(api.HBoot, -1), api.ErrRule, nil},
		{"what waits for the leader is out of turn", lies(-1, text(goes()...), string(text(endRec))), of(api.HBoot, -1), api.ErrLate, nil},
		{"no such release", lies(-1, text(startRec(2)), ""), of(api.HBoot, -1), api.ErrWho, nil},
		{"another one comes up", down(lies(1, text(stepRec(1)), "x"), 2), of(api.HBoot, 2), api.OK, boots(2)},
		{"the leader, which asks nothing of that, has a new release", lies(1, text(stepRec(1)), "x"), publish(), api.OK, writes(-1, publishRec(release(2)))},
	})
}

// P10.2: a log that is full: what can't be written isn't done, and who hears says nothing of that; what is out of turn is told ahead.
func TestFullLogs(t *testing.T) {
	w := fullLogs().world()
	w.Mail = []api.Mail{order(0, api.MaxTry, second()), order(1, api.MaxTry, second()), reports(2, 1, true)}
	here := logs{c: fleet(), agents: [][]api.Rec{append(fullLogs().agents[1], stepRec(api.MaxLog-1))}, mail: w.Mail}.world()
	there := logs{c: fleet(), agents: [][]api.Rec{append(fullLogs().agents[1][:api.MaxLog-3], beginRec(api.MaxTry, second()), stepRec(api.MaxTry), stepRec(api.MaxTry))}}.world()
	heard := fullTold()
	heard.Mail = []api.Mail{reports(1, 1, true)}
	askAll(t, []doCase{
		{"publish", w, publish(), api.ErrMany, nil},
		{"publish, a rule is broken", w, publish(row(1, 1, 2)...), api.ErrRule, nil},
		{"start", w, with(api.HStart, 2), api.ErrLate, nil},
		{"back", w, of(api.HBack, 0), api.ErrMany, nil},
		{"end", w, of(api.HEnd, 0), api.ErrLate, nil},
		{"tell", w, of(api.HTell, 1), api.ErrMany, nil},
		{"tell, it isn't its turn", w, of(api.HTell, 0), api.ErrLate, nil},
		{"told again, though it isn't told", w, of(api.HAgain, 1), api.ErrLate, nil},
		{"a step", w, of(api.HStep, 0), api.ErrMany, nil},
		{"the last record", w, of(api.HStep, 1), api.OK, writes(1, stepRec(api.MaxTry-1))},
		{"a step behind the last record", here, of(api.HStep, 0), api.ErrMany, nil},
		{"there, and no room to say so", there, of(api.HStep, 0), api.ErrMany, nil},
		{"mail, and it is there", w, with(api.HHear, 0), api.OK, loses(0)},
		{"mail, the last record", w, with(api.HHear, 1), api.OK, all(writes(1, beginRec(api.MaxTry, second())), loses(1))},
		{"mail by a higher try", here, with(api.HHear, 0), api.OK, loses(0)},
		{"mail by a higher try, twice", here, with(api.HTwice, 0), api.OK, nothing},
		{"a report", heard, with(api.HHear, 0), api.OK, loses(0)},
		{"a report, twice", heard, with(api.HTwice, 0), api.OK, nothing},
		{"the power goes", w, of(api.HCrash, 0), api.OK, crashes(0)},
	})
}

// P10.2: no kind.
func TestNoKind(t *testing.T) {
	for _, kind := range [...]int{math.MinInt, -1, 0, api.HBoot + 1, api.HBoot + 2, math.MaxInt} {
		for _, w := range []api.World{midway(), down(midway(), -1)} {
			doCase{fmt.Sprint("kind ", kind), w, api.Happening{Kind: kind}, api.ErrForm, nil}.ask(t)
			doCase{fmt.Sprint("kind ", kind, " of nobody"), w, api.Happening{Kind: kind, Agent: 9, N: 99}, api.ErrForm, nil}.ask(t)
		}
	}
}

// eachHappening is of each kind, and of some that are none, with its fields at their edges.
func eachHappening() []api.Happening {
	var l []api.Happening
	for kind := -1; kind <= api.HBoot+2; kind++ {
		for _, k := range [...]int{math.MinInt, -1, 0, 1, 2, 3, api.MaxAgents, math.MaxInt} {
			for _, n := range [...]int{math.MinInt, -1, 0, 1, 2, 3, api.MaxMail - 1, api.MaxMail, math.MaxInt} {
				l = append(l, api.Happening{Kind: kind, Agent: k, N: n, Good: n%2 == 0})
			}
		}
	}
	for _, lock := range [][]api.Pin{{}, row(1, 1, 2), row(2, api.MaxPins, 99), row(2, api.MaxPins+1, 99), row(5, 1, 0), append(row(3, 1, 1), row(2, 1, 1)...)} {
		l = append(l, publish(lock...))
	}
	return l
}

// P10.2: Check's error comes first, whatever happens; and all is zero.
func TestDoOfNoWorld(t *testing.T) {
	happenings := eachHappening()
	for k, c := range wrongWorlds() {
		for _, x := range []api.Happening{happenings[k%len(happenings)], of(api.HCrash, 1), {}} {
			if w, e := Do(c.w, x); e != c.want || !isZero(w) {
				t.Errorf("%s: Do of %v = %v, %v, want %v", c.what, x, w, e, c.want)
			}
		}
	}
	if w, e := Do(api.World{}, of(api.HBoot, 0)); e != api.ErrRange || !isZero(w) {
		t.Errorf("Do in nothing = %v, %v", w, e)
	}
}
