package story

import (
	"slices"
	"testing"

	"vanguard/agent"
	"vanguard/api"
	"vanguard/lead"
	"vanguard/world"
)

// of is a happening of an agent, or of the leader.
func of(kind, k int) api.Happening { return api.Happening{Kind: kind, Agent: k} }

// with is a happening of a number: of mail, or of a release.
func with(kind, n int) api.Happening { return api.Happening{Kind: kind, N: n} }

func publish(l ...api.Pin) api.Happening { return api.Happening{Kind: api.HPublish, Lock: l} }

func step(k int, good bool) api.Happening {
	return api.Happening{Kind: api.HStep, Agent: k, Good: good}
}

// ran is w after a script, of which what can't be is left out.
func ran(t *testing.T, w api.World, l ...api.Happening) api.World {
	t.Helper()
	for part := range slices.Chunk(l, api.MaxScript) {
		next, _, e := world.Run(w, part)
		if e != api.OK {
			t.Fatalf("Run = %v, of\n%v", e, w)
		}
		w = next
	}
	return w
}

// place is what all wrote, and what is on its way, in whatever order; once is false if some mail is there twice.
func place(t *testing.T, w api.World) (key string, once bool) {
	var log, mail []string
	for _, r := range records(t, w.H.D) {
		log = append(log, told(r))
	}
	for _, m := range w.Mail {
		mail = append(mail, told(m))
	}
	slices.Sort(log)
	slices.Sort(mail)
	key = told(w.H.L) + told(log) + told(mail)
	for _, n := range w.N {
		key += "|" + string(n.D.Safe)
	}
	return key, len(slices.Compact(mail)) == len(w.Mail)
}

// late are the happenings of a world in which all mail stays on its way: it is heard ever again, or late, or, as good as lost, never.
func late(w api.World) []api.Happening {
	l := []api.Happening{of(api.HBack, 0), of(api.HEnd, 0)}
	for k := range w.N {
		l = append(l, of(api.HTell, k), of(api.HAgain, k), of(api.HReport, k), step(k, true), step(k, false))
	}
	for k := range w.Mail {
		l = append(l, with(api.HTwice, k))
	}
	return l
}

// mostWorlds of a walk: more come up only if somebody does ever again what they should do once.
const mostWorlds = 10000

// walk visits all worlds that can come of w until nobody goes anywhere any more, each of them once; answers those where that is so.
func walk(t *testing.T, w api.World, visit func(w api.World)) (ends []api.World) {
	var all []api.World
	seen := map[string]bool{}
	add := func(w api.World) {
		if key, once := place(t, w); once && !seen[key] {
			seen[key] = true
			all = append(all, w)
		}
	}
	add(w)
	for k := 0; k < len(all); k++ {
		if len(all) > mostWorlds {
			t.Fatalf("there is no end of worlds; one of them is\n%v", all[k])
		}
		w := all[k]
		visit(w)
		if w.H.L.Goal == 0 {
			ends = append(ends, w)
		}
		for _, x := range late(w) {
			if next, e := world.Do(w, x); e == api.OK {
				add(next)
			}
		}
	}
	return ends
}

// hasRoom tells whether all may write as much as they must to come to an end.
func hasRoom(t *testing.T, w api.World) bool {
	room := func(d api.Disk, most int) bool { return len(records(t, d)) <= api.MaxLog-most }
	for _, n := range w.N {
		if !room(n.D, 60) {
			return false
		}
	}
	return room(w.H.D, 30)
}

// pass: all are up, what may be told is, all is heard, all step until they are there, and all is heard of that.
func pass(t *testing.T, w api.World, good bool) api.World {
	hear := slices.Repeat([]api.Happening{with(api.HHear, 0)}, 2*api.MaxMail) // of an order a report may come
	var boot, tell, steps []api.Happening
	for k := -1; k < len(w.N); k++ {
		boot = append(boot, of(api.HBoot, k))
	}
	for k := range w.N {
		tell = append(tell, of(api.HTell, k), of(api.HAgain, k))
		steps = append(steps, slices.Repeat([]api.Happening{step(k, good)}, 10)...)
	}
	return ran(t, w, slices.Concat(boot, hear, tell, hear, steps, hear)...)
}

// settles asks that all comes to an end where all is heard, all is told that may be, and all go back if too many are ill.
func settles(t *testing.T, w api.World, good bool) {
	t.Helper()
	from := w
	for range len(w.C.Waves) + 3 {
		w = pass(t, w, good)
		v := viewOf(t, w)
		ill := 0
		for _, a := range v.l.Agents {
			if a.State == api.Ill {
				ill++
			}
		}
		x, now := of(api.HEnd, 0), v.l.Goal
		switch {
		case v.l.Back:
			now = v.l.Now
		case ill > w.C.Budget:
			x, now = of(api.HBack, 0), v.l.Now
		}
		w = ran(t, w, x)
		keeps(t, w)
		if w.H.L.Goal == 0 {
			if w.H.L.Now != now && v.l.Goal != 0 {
				t.Fatalf("it is over, and %d is now, not %d, from\n%v", w.H.L.Now, now, from)
			}
			return
		}
	}
	t.Fatalf("all is heard, and it isn't over:\n%v, from\n%v", w, from)
}

// pair is a fleet of two agents, each a wave of its own.
func pair(budget int) api.Config {
	return api.Config{First: first(), Waves: [][]int{{1}, {0}}, Budget: budget}
}

// started is a world of c in which all are to go to a release of this lock.
func started(t *testing.T, c api.Config, l ...api.Pin) api.World {
	return ran(t, fresh(t, c), publish(l...), with(api.HStart, 2))
}

// fullest is the one of these worlds, with this release now, that has most mail on its way.
func fullest(t *testing.T, l []api.World, now int) api.World {
	t.Helper()
	var most api.World
	for _, w := range l {
		if w.H.L.Now == now && len(w.Mail) > len(most.Mail) {
			most = w
		}
	}
	if len(most.Mail) == 0 {
		t.Fatalf("of %d worlds none has release %d now", len(l), now)
	}
	return most
}

// P11.2: all that can come of a round, with all mail heard at all times; and of a further round, from where all are there, or back, with the old mail on its way still.
func TestRounds(t *testing.T) {
	for _, c := range []struct {
		what    string
		c       api.Config
		l       []api.Pin
		further bool
	}{
		{"one agent", api.Config{First: first(), Waves: [][]int{{0}}}, row(1, 2, 2), true},
		{"a wave each", pair(0), row(1, 1, 2), true},
		{"a wave each, one may be ill", pair(1), row(1, 1, 2), false},
		{"one wave, that has no steps to make", api.Config{First: first(), Waves: [][]int{{1, 0}}}, row(1, 1, 1), false},
	} {
		t.Run(c.what, func(t *testing.T) {
			t.Parallel()
			visit := func(w api.World) { keeps(t, w) }
			ends := walk(t, started(t, c.c, c.l...), visit)
			for now := 1; now <= 2; now++ {
				w := fullest(t, ends, now)
				if c.further {
					further := walk(t, ran(t, w, publish(row(2, 1, 3)...), with(api.HStart, 3)), visit)
					fullest(t, further, now)
					fullest(t, further, 3)
				}
			}
		})
	}
}

// P11.2: wherever all are, and whatever was lost, where all is heard it comes to an end.
func TestSettles(t *testing.T) {
	walk(t, started(t, pair(0), row(1, 1, 2)...), func(w api.World) {
		settles(t, w, true)
		settles(t, w, false)
		w.Mail = nil
		settles(t, w, true)
	})
}

// dice throws the same numbers each time.
type dice uint64

func (d *dice) below(n int) int {
	*d = *d*6364136223846793005 + 1442695040888963407
	return int(uint64(*d) >> 33 % uint64(n))
}

// happening is one of those that may be in w, or nearly; more often one that brings it on.
func (d *dice) happening(w api.World) api.Happening {
	var l []api.Happening
	add := func(times int, x api.Happening) { l = append(l, slices.Repeat([]api.Happening{x}, times)...) }
	for k := range w.Mail {
		add(8, with(api.HHear, k))
		add(4, with(api.HTwice, k))
		add(1, with(api.HLose, k))
	}
	for k := range w.N {
		d.ofAgent(w, k, add)
	}
	for k := -1; k < len(w.N); k++ {
		if k < 0 && w.H.Up || k >= 0 && w.N[k].Up {
			add(1, of(api.HCrash, k))
		} else {
			add(8, of(api.HBoot, k))
		}
	}
	switch {
	case w.H.L.Goal == 0:
		add(4, with(api.HStart, 1+d.below(api.MaxReleases)))
		add(1, publish(row(1+d.below(4), d.below(4), 1+d.below(9))...))
	case d.below(40) == 0:
		add(4, of(api.HBack, 0))
	default:
		add(4, of(api.HEnd, 0))
	}
	return l[d.below(len(l))]
}

func (d *dice) ofAgent(w api.World, k int, add func(times int, x api.Happening)) {
	if w.N[k].A.Going {
		add(8, step(k, d.below(12) > 0))
	} else {
		add(1, of(api.HReport, k))
	}
	if w.H.L.Goal != 0 && w.H.L.Back == (w.H.L.Agents[k].State != api.Idle) {
		add(8, of(api.HTell, k))
	}
	add(2, of(api.HAgain, k))
}

func fleets() []api.Config {
	rules := []api.Rule{{Name: 1, Version: 9, With: 2, Least: 9}, {Name: 4, Version: 7, With: 3, Least: 1}}
	return []api.Config{
		fleet(), pair(0), pair(1),
		{First: release(1), Rules: rules, Waves: [][]int{{2}, {1}, {0}}},
		{First: first(), Waves: [][]int{{5, 0}, {4}, {1, 2, 3}}, Budget: 1},
		{First: release(1, row(1, 4, 2)...), Waves: [][]int{{0}, {1}, {2}, {3}, {4}, {5}}, Budget: api.MaxBudget},
		{First: release(1, row(3, 2, 3)...), Rules: rules, Waves: [][]int{{3, 2, 1, 0}}, Budget: 2},
	}
}

// history of a fleet: how it is now, what each was when it was up last, and how often it was over: all were back, or there.
type history struct {
	w           api.World
	l           api.Leader
	agents      []api.Agent
	back, there int
}

func newHistory(t *testing.T, c api.Config) *history {
	h := &history{agents: make([]api.Agent, lead.Agents(c))}
	h.see(fresh(t, c))
	return h
}

func (h *history) see(w api.World) {
	h.w = w
	if w.H.Up {
		h.l = w.H.L
	}
	for k, n := range w.N {
		if n.Up {
			h.agents[k] = n.A
		}
	}
}

// goOn tells whether x happened; nothing is changed if it didn't.
func (h *history) goOn(x api.Happening) bool {
	next, e := world.Do(h.w, x)
	if e != api.OK {
		return false
	}
	switch {
	case x.Kind == api.HEnd && h.l.Back:
		h.back++
	case x.Kind == api.HEnd:
		h.there++
	}
	h.see(next)
	return true
}

// holds asks that whoever isn't up is still what it was, and that the promises are kept.
func (h *history) holds(t *testing.T) {
	t.Helper()
	v := viewOf(t, h.w)
	if !lead.Same(v.l, h.l) {
		t.Fatalf("Leader = %v, want %v, of\n%v", v.l, h.l, h.w)
	}
	for k, want := range h.agents {
		if !agent.Same(v.agents[k], want) {
			t.Fatalf("Agent %d = %v, want %v, of\n%v", k, v.agents[k], want, h.w)
		}
	}
	v.keeps(t, h.w)
}

// P11.1 and P11.2: long histories, whatever is lost, comes twice or late, and whenever the power goes.
func TestHistories(t *testing.T) {
	back, there := make([]int, len(fleets())), make([]int, len(fleets()))
	t.Run("all", func(t *testing.T) {
		for k, c := range fleets() {
			t.Run(told(c.Waves), func(t *testing.T) {
				t.Parallel()
				d := dice(k)
				for range 2 {
					h := newHistory(t, c)
					for n := range 1000 {
						if !h.goOn(d.happening(h.w)) {
							continue
						}
						h.holds(t)
						if n%40 == 0 && hasRoom(t, h.w) {
							settles(t, h.w, n%80 == 0)
						}
					}
					back[k] += h.back
					there[k] += h.there
				}
			})
		}
	})
	for k, c := range fleets() {
		if back[k] == 0 || there[k] == 0 {
			t.Errorf("%v: all were back %d times, and there %d times", c.Waves, back[k], there[k])
		}
	}
}

// asked is ran, with the promises asked of each world on the way.
func asked(t *testing.T, w api.World, l ...api.Happening) api.World {
	t.Helper()
	for _, x := range l {
		w = ran(t, w, x)
		keeps(t, w)
	}
	return w
}

// errand of an agent: it is told, hears it, makes so many steps, and is heard of when it is there.
func errand(k, steps int) []api.Happening {
	there := slices.Repeat([]api.Happening{step(k, true)}, steps+1)
	return slices.Concat([]api.Happening{of(api.HTell, k), with(api.HHear, 0)}, there, []api.Happening{with(api.HHear, 0)})
}

// P11.2: where a log is full nothing comes to an end any more; but who has what is as promised.
func TestFullLogs(t *testing.T) {
	c := api.Config{First: release(1, row(1, 10, 1)...), Waves: [][]int{{1}, {0}}}
	start, back, end := with(api.HStart, 2), of(api.HBack, 0), of(api.HEnd, 0)
	round := slices.Concat([]api.Happening{start}, errand(1, 20), []api.Happening{back}, errand(1, 20), []api.Happening{end})
	vain := slices.Repeat([]api.Happening{start, back, end}, 65)
	for _, f := range []struct {
		what   string
		script []api.Happening
		log    func(w api.World) api.Disk
	}{
		{"an agent's log, on its way back", slices.Repeat(round, 6), func(w api.World) api.Disk { return w.N[1].D }},
		{"the leader's log, when all are told", slices.Concat(vain, []api.Happening{start}, errand(1, 20), errand(0, 20)), func(w api.World) api.Disk { return w.H.D }},
	} {
		w := asked(t, fresh(t, c), publish(row(11, 10, 1)...))
		w = asked(t, w, f.script...)
		for range 3 {
			if n := len(records(t, f.log(w))); n != api.MaxLog || w.H.L.Goal != 2 {
				t.Errorf("%s: there are %d records, all go to %d", f.what, n, w.H.L.Goal)
			}
			w = asked(t, pass(t, w, true), end)
		}
	}
}
