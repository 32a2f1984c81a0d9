package world

import (
	"slices"
	"testing"

	"vanguard/agent"
	"vanguard/api"
	"vanguard/lead"
)

// model of a world: the records that all wrote, who is up, and the mail; what they are is made of that anew each time.
type model struct {
	c      api.Config
	leader []api.Rec
	agents [][]api.Rec
	up     []bool // the leader's is behind those of the agents
	mail   []api.Mail
}

func newModel(c api.Config) model {
	n := lead.Agents(c)
	m := model{c: c, agents: make([][]api.Rec, n), up: make([]bool, n+1)}
	for k := range m.up {
		m.up[k] = true
	}
	return m
}

func (m model) copied() model {
	m.leader, m.up, m.mail = slices.Clone(m.leader), slices.Clone(m.up), slices.Clone(m.mail)
	m.agents = slices.Clone(m.agents)
	for k, l := range m.agents {
		m.agents[k] = slices.Clone(l)
	}
	return m
}

// world is what the model says of all that is in one.
func (m model) world() api.World {
	w := logs{c: m.c, leader: m.leader, agents: m.agents, mail: m.mail}.world()
	for k, up := range m.up {
		if k == len(m.agents) {
			k = -1
		}
		if !up {
			w = down(w, k)
		}
	}
	return w
}

func (m *model) leaderUp() bool { return m.up[len(m.agents)] }

// leaderWrites and agentWrites take who is up.
func (m *model) leaderWrites(r api.Rec) api.Errno {
	if _, e := lead.Next(m.c, headOf(m.c, m.leader).L, r); e != api.OK {
		return e
	}
	if len(m.leader) == api.MaxLog {
		return api.ErrMany
	}
	m.leader = append(m.leader, r)
	return api.OK
}

func (m *model) agentWrites(k int, r api.Rec) api.Errno {
	if _, e := agent.Next(nodeOf(m.c, m.agents[k]).A, r); e != api.OK {
		return e
	}
	if len(m.agents[k]) == api.MaxLog {
		return api.ErrMany
	}
	m.agents[k] = append(m.agents[k], r)
	return api.OK
}

func (m *model) send(x api.Mail) {
	if len(m.mail) < api.MaxMail {
		m.mail = append(m.mail, x)
	}
}

func (m *model) report(k int) {
	a := nodeOf(m.c, m.agents[k]).A
	m.send(reports(k, a.Try, a.Good))
}

// do is the chapter's P10.2, told kind by kind; with an error m is to be thrown away.
func (m *model) do(x api.Happening) api.Errno {
	l := headOf(m.c, m.leader).L
	switch x.Kind {
	case api.HHear, api.HTwice, api.HLose:
		return m.take(x)
	case api.HPublish:
		return m.asLeader(publishRec(release(len(l.Releases)+1, x.Lock...)))
	case api.HStart:
		return m.asLeader(startRec(x.N))
	case api.HBack:
		return m.asLeader(backRec)
	case api.HEnd:
		return m.asLeader(endRec)
	case api.HCrash, api.HBoot:
		return m.power(x)
	case api.HTell, api.HAgain, api.HStep, api.HReport:
		if x.Agent < 0 || x.Agent >= len(m.agents) {
			return api.ErrWho
		}
		if x.Kind == api.HTell || x.Kind == api.HAgain {
			return m.tell(x, l)
		}
		return m.atAgent(x)
	}
	return api.ErrForm
}

func (m *model) asLeader(r api.Rec) api.Errno {
	if !m.leaderUp() {
		return api.ErrLate
	}
	return m.leaderWrites(r)
}

func (m *model) take(x api.Happening) api.Errno {
	if x.N < 0 || x.N >= len(m.mail) {
		return api.ErrWho
	}
	p := m.mail[x.N]
	if x.Kind != api.HTwice {
		m.mail = slices.Delete(m.mail, x.N, x.N+1)
	}
	if x.Kind == api.HLose {
		return api.OK
	}
	if p.Report {
		if !m.leaderUp() {
			return api.ErrLate
		}
		m.leaderWrites(gotRec(p.Agent, p.Try, p.Good))
		return api.OK
	}
	if !m.up[p.Agent] {
		return api.ErrLate
	}
	if a := nodeOf(m.c, m.agents[p.Agent]).A; a.Try == p.Try && !a.Going {
		m.report(p.Agent)
		return api.OK
	}
	m.agentWrites(p.Agent, beginRec(p.Try, p.R))
	return api.OK
}

func (m *model) tell(x api.Happening, l api.Leader) api.Errno {
	if !m.leaderUp() || l.Goal == 0 {
		return api.ErrLate
	}
	to := l.Releases[l.Goal-1]
	if l.Back {
		to = l.Releases[l.Now-1]
	}
	if x.Kind == api.HTell {
		if e := m.leaderWrites(sendRec(x.Agent, l.Next)); e != api.OK {
			return e
		}
		m.send(order(x.Agent, l.Next, to))
		return api.OK
	}
	known := l.Agents[x.Agent]
	if known.State != api.Told || known.Back != l.Back {
		return api.ErrLate
	}
	m.send(order(x.Agent, known.Try, to))
	return api.OK
}

func (m *model) atAgent(x api.Happening) api.Errno {
	a := nodeOf(m.c, m.agents[x.Agent]).A
	switch left, _ := agent.Left(a); {
	case !m.up[x.Agent]:
		return api.ErrLate
	case x.Kind == api.HReport && (a.Going || a.Try == 0):
		return api.ErrLate
	case x.Kind == api.HReport:
		m.report(x.Agent)
		return api.OK
	case !a.Going:
		return api.ErrLate
	case len(left) > 0:
		return m.agentWrites(x.Agent, stepRec(a.Try))
	}
	if e := m.agentWrites(x.Agent, doneRec(a.Try, x.Good)); e != api.OK {
		return e
	}
	m.report(x.Agent)
	return api.OK
}

func (m *model) power(x api.Happening) api.Errno {
	k := x.Agent
	if k >= len(m.agents) {
		return api.ErrWho
	}
	if k < 0 {
		k = len(m.agents)
	}
	if m.up[k] != (x.Kind == api.HCrash) {
		return api.ErrLate
	}
	m.up[k] = !m.up[k]
	return api.OK
}

// after is m after x, or m as it was, with the error.
func (m model) after(x api.Happening) (model, api.Errno) {
	next := m.copied()
	if e := next.do(x); e != api.OK {
		return m, e
	}
	return next, api.OK
}

// holds tells whether Do makes of w, which is m's, what m says, and answers that.
func holds(t *testing.T, m model, w api.World, x api.Happening) (model, api.World, bool) {
	t.Helper()
	next, want := m.after(x)
	got, e := Do(w, x)
	if e != want || e != api.OK && !isZero(got) {
		t.Fatalf("Do of %v = %v, want %v, in\n%v", x, e, want, w)
	}
	if e != api.OK {
		return m, w, false
	}
	if made := next.world(); told(got) != told(made) || !Same(got, made) {
		t.Fatalf("Do of %v =\n%v, want\n%v, in\n%v", x, got, made, w)
	}
	if e := Check(got); e != api.OK {
		t.Fatalf("Check of what comes of %v = %v", x, e)
	}
	return next, got, true
}

// pair is a fleet of two agents, each a wave of its own, of which nobody may be ill.
func pair() api.Config { return api.Config{First: first(), Waves: [][]int{{1}, {0}}} }

// some happenings of a pair: so few that all short histories of them can be asked.
func some() []api.Happening {
	l := []api.Happening{publish(row(1, 1, 2)...), with(api.HStart, 2), of(api.HBack, 0), of(api.HEnd, 0), with(api.HTwice, 0), with(api.HLose, 0), with(api.HHear, 0), with(api.HHear, 1), of(api.HCrash, -1), of(api.HBoot, -1)}
	for k := range 2 {
		for _, kind := range [...]int{api.HTell, api.HAgain, api.HStep, api.HReport, api.HCrash, api.HBoot} {
			l = append(l, of(kind, k))
		}
		l = append(l, api.Happening{Kind: api.HStep, Agent: k})
	}
	return l
}

// walked runs a script that has no error.
func walked(t *testing.T, m model, l ...api.Happening) model {
	t.Helper()
	for k, x := range l {
		next, e := m.after(x)
		if e != api.OK {
			t.Fatalf("happening %d of the script, %v: %v", k, x, e)
		}
		m = next
	}
	return m
}

// P10.2: all that may happen, so many times, from here on; each world that comes up is asked once.
func walk(t *testing.T, from model, times int) {
	t.Helper()
	type place struct {
		m model
		w api.World
	}
	seen := map[string]bool{told(from.world()): true}
	edge := []place{{from, from.world()}}
	for range times {
		var next []place
		for _, p := range edge {
			for _, x := range some() {
				m, w, ok := holds(t, p.m, p.w, x)
				if key := told(w); ok && !seen[key] {
					seen[key] = true
					next = append(next, place{m, w})
				}
			}
		}
		edge = next
	}
}

func TestWalks(t *testing.T) {
	hear, step, ill := with(api.HHear, 0), of(api.HStep, 1), api.Happening{Kind: api.HStep, Agent: 1}
	start := []api.Happening{publish(row(1, 1, 2)...), with(api.HStart, 2), of(api.HTell, 1)}
	there := append(slices.Clone(start), hear, step)
	for _, c := range []struct {
		what  string
		times int
		l     []api.Happening
	}{
		{"from new on", 5, nil},
		{"told", 4, start},
		{"there but for the last record", 4, there},
		{"both are there", 3, append(slices.Clone(there), step, hear, of(api.HTell, 0), hear, of(api.HStep, 0), of(api.HStep, 0))},
		{"one is ill", 4, append(slices.Clone(there), ill, hear)},
		{"back", 4, append(slices.Clone(there), ill, of(api.HBack, 0), hear, of(api.HTell, 1), of(api.HCrash, 1))},
	} {
		t.Run(c.what, func(t *testing.T) { walk(t, walked(t, newModel(pair()), c.l...), c.times) })
	}
}

// P10.2: whatever a happening has in its fields, also where its kind has no use for them.
func TestEachHappening(t *testing.T) {
	up := model{c: fleet(), leader: goes(sendRec(1, 1)), agents: [][]api.Rec{nil, went(1, true), {beginRec(4, third())}}, up: []bool{true, true, true, true}}
	up.mail = []api.Mail{order(1, 1, second()), reports(1, 1, true), order(2, 3, second()), order(0, 7, third())}
	few := up.copied()
	few.up = []bool{false, true, false, false}
	for _, m := range []model{up, few, newModel(pair())} {
		w := m.world()
		for _, x := range eachHappening() {
			holds(t, m, w, x)
		}
	}
}

// dice throws the same numbers each time.
type dice uint64

func (d *dice) below(n int) int {
	*d = *d*6364136223846793005 + 1442695040888963407
	return int(uint64(*d) >> 33 % uint64(n))
}

// happening of any kind, of a fleet of so many agents; most often of a kind that brings it on.
func (d *dice) happening(agents int) api.Happening {
	kinds := []int{
		api.HPublish, api.HStart, api.HBack, api.HEnd, api.HEnd, api.HAgain, api.HReport, api.HTwice, api.HLose, api.HCrash, 0,
		api.HBoot, api.HBoot, api.HBoot, api.HBoot, api.HBoot,
		api.HTell, api.HTell, api.HTell, api.HStep, api.HStep, api.HStep, api.HStep, api.HStep, api.HStep, api.HHear, api.HHear, api.HHear, api.HHear,
	}
	x := api.Happening{Kind: kinds[d.below(len(kinds))], Agent: d.below(agents), N: d.below(3), Good: d.below(8) > 0}
	switch x.Kind {
	case api.HPublish:
		x.Lock = [...][]api.Pin{nil, row(1, 2, 2), row(4, 1, 5), row(1, 4, 5), row(1, 1, 2)}[d.below(5)] // the last one breaks a rule
	case api.HStart:
		x.N = 1 + d.below(4)
	case api.HCrash, api.HBoot:
		x.Agent = d.below(agents+1) - 1
	}
	if d.below(40) == 0 {
		x.Agent, x.N = d.below(2*api.MaxAgents)-3, d.below(2*api.MaxMail)-3
	}
	return x
}

// P10.2 and P10.3: long histories; Run answers of each what Do does, one after the other.
func TestHistories(t *testing.T) {
	d := dice(1)
	happened := map[int]int{} // by kind
	for k := range 60 {
		c := goodConfigs()[k%len(goodConfigs())]
		m, w := newModel(c), logs{c: c}.world()
		for range 3 { // scripts, one behind the other
			var script []api.Happening
			var want []api.Errno
			before := w
			for range api.MaxScript {
				x := d.happening(len(w.N))
				script = append(script, x)
				_, e := m.after(x)
				want = append(want, e)
				var ok bool
				if m, w, ok = holds(t, m, w, x); ok {
					happened[x.Kind]++
				}
			}
			got, said, e := Run(before, script)
			if e != api.OK || !slices.Equal(said, want) || told(got) != told(w) || !Same(got, w) {
				t.Fatalf("Run of %v = %v, %v, %v, want %v, %v", script, got, said, e, w, want)
			}
		}
	}
	for kind := api.HPublish; kind <= api.HBoot; kind++ {
		if happened[kind] < 50 {
			t.Errorf("kind %d happened %d times alone", kind, happened[kind])
		}
	}
}

// P10.3
func TestRun(t *testing.T) {
	long := slices.Repeat([]api.Happening{of(api.HCrash, -1), of(api.HBoot, -1)}, api.MaxScript)
	for k, w := range goodWorlds() {
		for _, l := range [][]api.Happening{nil, {}} {
			if got, said, e := Run(w, l); e != api.OK || len(said) != 0 || told(got) != told(w) {
				t.Errorf("world %d: Run of nothing = %v, %v", k, said, e)
			}
		}
		for _, many := range [...]int{api.MaxScript + 1, api.MaxScript + 2, len(long)} {
			if got, said, e := Run(w, long[:many]); e != api.ErrMany || said != nil || !isZero(got) {
				t.Errorf("world %d: Run of %d = %v, %v", k, many, said, e)
			}
		}
	}
	w := midway()
	got, said, e := Run(w, long[:api.MaxScript])
	if e != api.OK || told(got) != told(w) || !slices.Equal(said, make([]api.Errno, api.MaxScript)) {
		t.Errorf("Run of as many as may be = %v, %v", said, e)
	}
	errs, want := []api.Happening{{}, of(api.HStep, 9), of(api.HBoot, 1), with(api.HHear, 3)}, []api.Errno{api.ErrForm, api.ErrWho, api.ErrLate, api.ErrWho}
	if got, said, e := Run(w, errs); e != api.OK || !slices.Equal(said, want) || told(got) != told(w) {
		t.Errorf("Run of what can't be = %v, %v, want %v", said, e, want)
	}
	mixed, want := []api.Happening{with(api.HHear, 9), with(api.HLose, 0), with(api.HHear, 2), {}, with(api.HHear, 1), of(api.HTell, 5), with(api.HHear, 1)}, []api.Errno{api.ErrWho, api.OK, api.ErrWho, api.ErrForm, api.OK, api.ErrWho, api.ErrWho}
	left := midway()
	left.Mail = left.Mail[1:2]
	if got, said, e := Run(w, mixed); e != api.OK || !slices.Equal(said, want) || told(got) != told(left) {
		t.Errorf("Run = %v, %v, %v, want %v", got, said, e, want)
	}
}

// P10.3: Check's error ahead of a script that is too long; and all is zero.
func TestRunOfNoWorld(t *testing.T) {
	long := make([]api.Happening, api.MaxScript+1)
	for _, c := range wrongWorlds() {
		for _, l := range [][]api.Happening{nil, long[:1], long} {
			if w, said, e := Run(c.w, l); e != c.want || said != nil || !isZero(w) {
				t.Errorf("%s: Run of %d = %v, %v, %v, want %v", c.what, len(l), w, said, e, c.want)
			}
		}
	}
}

// P10.2: whatever the power takes comes back with it, at each point of a history.
func TestPowerAnywhere(t *testing.T) {
	d := dice(7)
	w := logs{c: fleet()}.world()
	for range 1000 {
		for k := -1; k < len(w.N); k++ {
			if k < 0 && !w.H.Up || k >= 0 && !w.N[k].Up {
				continue
			}
			got, said, e := Run(w, []api.Happening{of(api.HCrash, k), of(api.HBoot, k)})
			if e != api.OK || !slices.Equal(said, []api.Errno{api.OK, api.OK}) || !Same(got, w) {
				t.Fatalf("the power of %d: %v, %v, %v", k, got, said, e)
			}
		}
		if next, e := Do(w, d.happening(len(w.N))); e == api.OK {
			w = next
		}
	}
	if n := len(records(w.H.D)); n < 20 {
		t.Errorf("only %d records were written", n)
	}
}
