package world

import (
	"vanguard/agent"
	"vanguard/api"
	"vanguard/lead"
	"vanguard/way"
)

// happen makes of the world at work what x says; with an error what it leaves is to be thrown away.
func happen(w *api.World, x api.Happening) api.Errno {
	switch x.Kind {
	case api.HHear, api.HTwice, api.HLose:
		return take(w, x)
	case api.HPublish, api.HStart, api.HBack, api.HEnd:
		return leaderWrites(w, x)
	case api.HTell, api.HAgain, api.HStep, api.HReport:
		return withAgent(w, x)
	case api.HCrash, api.HBoot:
		return power(w, x)
	}
	return api.ErrForm
}

// toWrite answers, by kind of happening, what the leader has to write.
func toWrite(l api.Leader, x api.Happening) map[int]api.Rec {
	return map[int]api.Rec{
		api.HPublish: {Kind: api.LPublish, R: api.Release{ID: len(l.Releases) + 1, Lock: x.Lock}},
		api.HStart:   {Kind: api.LStart, N: x.N},
		api.HTell:    {Kind: api.LSend, Agent: x.Agent, Try: l.Next},
		api.HBack:    {Kind: api.LBack},
		api.HEnd:     {Kind: api.LEnd},
	}
}

// leaderWrites takes the kinds of happenings that toWrite knows.
func leaderWrites(w *api.World, x api.Happening) api.Errno {
	if !w.H.Up {
		return api.ErrLate
	}
	return leaderOf(w).write(toWrite(w.H.L, x)[x.Kind])
}

// take takes a piece of mail from its way; heard or lost.
func take(w *api.World, x api.Happening) api.Errno {
	left, m, e := way.Take(w.Mail, x.N, x.Kind == api.HTwice)
	if e != api.OK {
		return e
	}
	w.Mail = left
	switch {
	case x.Kind == api.HLose:
		return api.OK
	case m.Report:
		return leaderHears(w, m)
	}
	return agentHears(w, m)
}

func leaderHears(w *api.World, m api.Mail) api.Errno {
	if !w.H.Up {
		return api.ErrLate
	}
	_ = leaderOf(w).write(api.Rec{Kind: api.LGot, Agent: m.Agent, Try: m.Try, Good: m.Good}) // mail that comes late, or to a full log, is heard in vain
	return api.OK
}

func agentHears(w *api.World, m api.Mail) api.Errno {
	p := agentOf(w, m.Agent)
	switch {
	case !*p.up:
		return api.ErrLate
	case m.Try == p.is.Try && !p.is.Going: // it is there already, and what it said of that may be lost
		return report(w, m.Agent)
	}
	_ = p.write(api.Rec{Kind: api.ABegin, Try: m.Try, R: m.R}) // in vain, as for the leader
	return api.OK
}

func withAgent(w *api.World, x api.Happening) api.Errno {
	if !hasAgent(*w, x.Agent) {
		return api.ErrWho
	}
	switch x.Kind {
	case api.HStep:
		return step(w, x)
	case api.HReport:
		return reportAgain(w, x.Agent)
	}
	return tell(w, x)
}

// tell sends an agent where all go: for the first time by the next try, or again by the one that it was told.
func tell(w *api.World, x api.Happening) api.Errno {
	if !w.H.Up {
		return api.ErrLate
	}
	_, to, e := lead.Turn(w.C, w.H.L, x.Agent)
	if e != api.OK {
		return e
	}
	if x.Kind == api.HTell {
		e = leaderWrites(w, x)
	} else {
		e = checkAgain(w.H.L, x.Agent)
	}
	if e != api.OK {
		return e
	}
	return send(w, api.Mail{Agent: x.Agent, Try: w.H.L.Agents[x.Agent].Try, R: to})
}

// checkAgain tells whether what an agent was told holds no more.
func checkAgain(l api.Leader, k int) api.Errno {
	if a := l.Agents[k]; a.State != api.Told || a.Back != l.Back {
		return api.ErrLate
	}
	return api.OK
}

func step(w *api.World, x api.Happening) api.Errno {
	p := agentOf(w, x.Agent)
	if !*p.up || !p.is.Going {
		return api.ErrLate
	}
	left, e := agent.Left(*p.is)
	if e != api.OK {
		return e
	}
	if len(left) > 0 {
		return p.write(api.Rec{Kind: api.AStep, Try: p.is.Try})
	}
	if e := p.write(api.Rec{Kind: api.ADone, Try: p.is.Try, Good: x.Good}); e != api.OK {
		return e
	}
	return report(w, x.Agent)
}

func reportAgain(w *api.World, k int) api.Errno {
	n := w.N[k]
	if !n.Up || n.A.Going || n.A.Try == 0 {
		return api.ErrLate
	}
	return report(w, k)
}

// report sends what an agent says of where it is.
func report(w *api.World, k int) api.Errno {
	a := w.N[k].A
	return send(w, api.Mail{Agent: k, Try: a.Try, Report: true, Good: a.Good})
}

func send(w *api.World, m api.Mail) api.Errno {
	all, e := way.Send(w.Mail, m)
	if e != api.OK {
		return e
	}
	w.Mail = all
	return api.OK
}

// power takes the power from an agent, or the leader (all below 0), or brings it back.
func power(w *api.World, x api.Happening) api.Errno {
	switch {
	case x.Agent < 0:
		return leaderOf(w).power(x.Kind)
	case !hasAgent(*w, x.Agent):
		return api.ErrWho
	}
	return agentOf(w, x.Agent).power(x.Kind)
}
