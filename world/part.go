package world

import (
	"vanguard/agent"
	"vanguard/api"
	"vanguard/disk"
	"vanguard/lead"
)

// part is the leader, or an agent, at work: what it is, its disk, and whether it is up; and what tells how a log makes it.
type part[T any] struct {
	is     *T
	disk   *api.Disk
	up     *bool
	replay func(l []api.Rec) (T, api.Errno)
	next   func(now T, r api.Rec) (T, api.Errno)
	same   func(a, b T) bool
}

func leaderOf(w *api.World) part[api.Leader] {
	return part[api.Leader]{
		is: &w.H.L, disk: &w.H.D, up: &w.H.Up,
		replay: func(l []api.Rec) (api.Leader, api.Errno) { return lead.Replay(w.C, l) },
		next:   func(now api.Leader, r api.Rec) (api.Leader, api.Errno) { return lead.Next(w.C, now, r) },
		same:   lead.Same,
	}
}

func agentOf(w *api.World, k int) part[api.Agent] {
	n := &w.N[k]
	return part[api.Agent]{
		is: &n.A, disk: &n.D, up: &n.Up,
		replay: func(l []api.Rec) (api.Agent, api.Errno) { return agent.Replay(w.C.First, l) },
		next:   agent.Next,
		same:   agent.Same,
	}
}

// check tells what is wrong with p as what its log makes, in a world whose configuration is checked.
func (p part[T]) check() api.Errno {
	_, l, e := disk.Recover(*p.disk)
	switch {
	case e != api.OK:
		return e
	case !*p.up: // it knows nothing of its log until it is up again, so nobody asks yet what that would make
		l = nil
	case len(p.disk.Wait) > 0:
		return api.ErrForm
	}
	made, e := p.replay(l)
	if e == api.OK && !p.same(made, *p.is) {
		return api.ErrForm
	}
	return e
}

// write makes p what a record makes of it, with the record safe on its disk; with an error it leaves p as it is.
func (p part[T]) write(r api.Rec) api.Errno {
	next, e := p.next(*p.is, r)
	if e != api.OK {
		return e
	}
	put, e := disk.Put(*p.disk, r)
	if e != api.OK {
		return e
	}
	synced, e := disk.Sync(put)
	if e != api.OK {
		return e
	}
	*p.is, *p.disk = next, synced
	return api.OK
}

// power takes the power away, or brings it back.
func (p part[T]) power(kind int) api.Errno {
	if crash := kind == api.HCrash; crash != *p.up {
		return api.ErrLate
	}
	if *p.up {
		return p.crash()
	}
	return p.boot()
}

// crash leaves p as new: all that it knew is on its disk alone.
func (p part[T]) crash() api.Errno {
	fresh, e := p.replay(nil)
	if e != api.OK {
		return e
	}
	*p.is, *p.up = fresh, false
	return api.OK
}

func (p part[T]) boot() api.Errno {
	recovered, l, e := disk.Recover(*p.disk)
	if e != api.OK {
		return e
	}
	made, e := p.replay(l)
	if e != api.OK {
		return e
	}
	*p.is, *p.disk, *p.up = made, recovered, true
	return api.OK
}
