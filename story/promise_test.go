package story

import (
	"fmt"
	"slices"
	"testing"

	"vanguard/api"
	"vanguard/disk"
	"vanguard/lead"
	"vanguard/note"
	"vanguard/wave"
)

// view of a world: what story says of all, and what they wrote.
type view struct {
	c      api.Config
	l      api.Leader
	agents []api.Agent
	round  []api.Rec // of the leader, since all go somewhere; none if nobody goes
	tries  int       // how many there were ahead of the round
	logs   [][]api.Rec
}

func records(t *testing.T, d api.Disk) []api.Rec {
	t.Helper()
	_, l, e := disk.Recover(d)
	if e != api.OK {
		t.Fatalf("Recover = %v", e)
	}
	return l
}

func viewOf(t *testing.T, w api.World) view {
	t.Helper()
	l, e := Leader(w)
	if e != api.OK {
		t.Fatalf("Leader = %v, of\n%v", e, w)
	}
	v := view{c: w.C, l: l}
	for k, n := range w.N {
		a, e := Agent(w, k)
		if e != api.OK {
			t.Fatalf("Agent %d = %v, of\n%v", k, e, w)
		}
		v.agents, v.logs = append(v.agents, a), append(v.logs, records(t, n.D))
	}
	log := records(t, w.H.D)
	begin := len(log)
	if l.Goal != 0 {
		for log[begin-1].Kind != api.LStart {
			begin--
		}
	}
	v.round = log[begin:]
	for _, r := range log[:begin] {
		if r.Kind == api.LSend {
			v.tries++
		}
	}
	return v
}

// tryTo is the try of this round by which agent k began to go to a release; 0: it didn't.
func (v view) tryTo(k, id int) int {
	for _, r := range v.logs[k] {
		if r.Kind == api.ABegin && r.Try > v.tries && r.R.ID == id {
			return r.Try
		}
	}
	return 0
}

// went tells whether agent k goes, or went, to the new release in this round, wherever it goes now.
func (v view) went(k int) bool { return v.l.Goal != 0 && v.tryTo(k, v.l.Goal) != 0 }

// came tells whether agent k came in this round to a release.
func (v view) came(k, id int) bool {
	try := v.tryTo(k, id)
	return try != 0 && slices.ContainsFunc(v.logs[k], func(r api.Rec) bool { return r.Kind == api.ADone && r.Try == try })
}

// fine tells whether agent k is good at the new release, and the leader heard that.
func (v view) fine(k int) bool {
	try := v.tryTo(k, v.l.Goal)
	has := func(l []api.Rec, want api.Rec) bool {
		return slices.ContainsFunc(l, func(r api.Rec) bool { return note.Same(r, want) })
	}
	return has(v.logs[k], doneRec(try, true)) && has(v.round, gotRec(k, try, true))
}

// has tells whether agent k has just this release.
func (v view) has(k, id int) bool {
	a := v.agents[k]
	return !a.Going && a.At == id && slices.Equal(a.Lock, v.l.Releases[id-1].Lock)
}

// each asks of all agents.
func (v view) each(ask func(k int) string) string {
	for k := range v.agents {
		if wrong := ask(k); wrong != "" {
			return wrong
		}
	}
	return ""
}

// still: where nobody goes anywhere all have just the release that is now.
func still(v view) string {
	return v.each(func(k int) string {
		if v.l.Goal == 0 && !v.has(k, v.l.Now) {
			return fmt.Sprintf("nobody goes, and %d hasn't release %d", k, v.l.Now)
		}
		return ""
	})
}

// behind: who goes, or went, to the new release goes behind all waves ahead of theirs. As it is asked of each world of a history, who is behind went there later.
func behind(v view) string {
	return v.each(func(k int) string {
		if !v.went(k) {
			return ""
		}
		for _, ahead := range slices.Concat(v.c.Waves[:wave.Of(v.c.Waves, k)]...) {
			if !v.came(ahead, v.l.Goal) {
				return fmt.Sprintf("%d went to release %d, and %d, ahead of it, didn't come there", k, v.l.Goal, ahead)
			}
		}
		return ""
	})
}

// danger: of who went to the new release, and wasn't fine there, nor is back, there are no more than the budget but in one wave.
func danger(v view) string {
	all := 0
	in := make([]int, len(v.c.Waves))
	for k := range v.agents {
		if v.went(k) && !v.fine(k) && !v.came(k, v.l.Now) {
			all++
			in[wave.Of(v.c.Waves, k)]++
		}
	}
	if all-slices.Max(in) > v.c.Budget {
		return fmt.Sprintf("%d are in danger", all)
	}
	return ""
}

// known: nobody has a package at a version that no release has.
func known(v view) string {
	return v.each(func(k int) string {
		for _, p := range v.agents[k].Lock {
			if !slices.ContainsFunc(v.l.Releases, func(r api.Release) bool { return slices.Contains(r.Lock, p) }) {
				return fmt.Sprintf("%d has %v", k, p)
			}
		}
		return ""
	})
}

// allHeard: nobody is to be told, and nobody to be heard of; nor should all go back.
func (v view) allHeard() bool {
	ill := 0
	for k, a := range v.l.Agents {
		turn, _, e := lead.Turn(v.c, v.l, k)
		if e != api.OK || turn || a.State == api.Told {
			return false
		}
		if a.State == api.Ill {
			ill++
		}
	}
	return v.l.Back || ill <= v.c.Budget
}

// over: where all is heard it is over; and where it is all are there, or back.
func over(v view) string {
	if v.l.Goal == 0 {
		return ""
	}
	is, e := lead.Over(v.c, v.l)
	if e != api.OK || is != v.allHeard() {
		return fmt.Sprintf("over is %v, %v, and all is heard: %v", is, e, v.allHeard())
	}
	to := v.l.Goal
	if v.l.Back {
		to = v.l.Now
	}
	return v.each(func(k int) string {
		if is && !v.has(k, to) {
			return fmt.Sprintf("it is over, and %d hasn't release %d", k, to)
		}
		return ""
	})
}

type promise struct {
	what  string
	wrong func(v view) string
}

func promises() []promise {
	return []promise{{"still", still}, {"behind", behind}, {"danger", danger}, {"known", known}, {"over", over}}
}

// keeps asks that all promises are kept in w, of which v is the view.
func (v view) keeps(t *testing.T, w api.World) {
	t.Helper()
	for _, p := range promises() {
		if wrong := p.wrong(v); wrong != "" {
			t.Fatalf("%s: %s, in\n%v", p.what, wrong, w)
		}
	}
}

func keeps(t *testing.T, w api.World) {
	t.Helper()
	viewOf(t, w).keeps(t, w)
}

// A promise that is broken is seen: worlds that no happenings lead to, by what all wrote.
func TestBrokenPromises(t *testing.T) {
	alone := api.Config{First: first(), Waves: [][]int{{0}, {1}, {2}}}
	for _, c := range []struct {
		what   string // all promises that are broken
		leader []api.Rec
		agents [][]api.Rec
	}{
		{"still", goes()[:2], [][]api.Rec{went(1, true)}},
		{"still", goes()[:2], [][]api.Rec{nil, nil, {beginRec(1, first())}}},
		{"still", goes(backRec, endRec), [][]api.Rec{nil, went(1, true)}},
		{"still", goes(sendRec(0, 1), gotRec(0, 1, true), sendRec(1, 2), gotRec(1, 2, true), sendRec(2, 3), gotRec(2, 3, true), endRec), [][]api.Rec{went(1, true), went(2, true)}},
		{"behind", goes(sendRec(0, 1)), [][]api.Rec{nil, {beginRec(1, second())}}},
		{"behind danger", goes(sendRec(0, 1)), [][]api.Rec{{beginRec(1, second())}, nil, went(2, true)[:1]}},
		{"behind", goes(sendRec(0, 1), backRec), [][]api.Rec{{beginRec(2, first()), doneRec(2, true)}, {beginRec(3, second())}}},
		{"danger", goes(sendRec(0, 1)), [][]api.Rec{went(1, true), went(2, true)}},
		{"danger", goes(sendRec(0, 1), gotRec(0, 1, false)), [][]api.Rec{went(1, false), {beginRec(2, second())}}},
		{"danger", goes(sendRec(0, 1), gotRec(0, 1, true)), [][]api.Rec{went(1, false), {beginRec(2, second())}}},
		{"danger", goes(sendRec(0, 1), backRec), [][]api.Rec{went(1, false, beginRec(3, first())), went(2, false)}},
		{"behind danger", goes(), [][]api.Rec{{beginRec(1, second())}, {beginRec(2, second())}}},
		{"still known", nil, [][]api.Rec{{beginRec(1, third()), stepRec(1), stepRec(1)}}},
		{"known", goes()[:3], [][]api.Rec{{beginRec(1, release(4, row(1, 1, 9)...)), stepRec(1)}}},
		{"over", goes(backRec), [][]api.Rec{went(1, true)}},
		{"over", goes(sendRec(0, 1), backRec, sendRec(0, 2), gotRec(0, 2, true)), [][]api.Rec{went(1, true, beginRec(2, first()))}},
		{"behind over", goes(sendRec(0, 1), gotRec(0, 1, true), sendRec(1, 2), gotRec(1, 2, true), sendRec(2, 3), gotRec(2, 3, true)), [][]api.Rec{went(1, true)[:3], went(2, true), went(3, true)}},
	} {
		var disks []api.Disk
		for _, l := range c.agents {
			disks = append(disks, safe(l...))
		}
		v := viewOf(t, asleep(t, alone, safe(c.leader...), disks...))
		broken := ""
		for _, p := range promises() {
			if p.wrong(v) != "" {
				broken += " " + p.what
			}
		}
		if broken != " "+c.what {
			t.Errorf("%v, %v: broken are%s, want %s", c.leader, c.agents, broken, c.what)
		}
	}
}
