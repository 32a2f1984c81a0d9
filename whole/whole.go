// Package whole: copies of what the layers hand out, lists too, so that nobody shares them.
package whole

import (
	"bytes"
	"slices"

	"vanguard/api"
)

// Release copies a release, whatever it is.
func Release(r api.Release) api.Release {
	r.Lock = slices.Clone(r.Lock)
	return r
}

// Mail copies a piece of mail, whatever it is.
func Mail(m api.Mail) api.Mail {
	m.R = Release(m.R)
	return m
}

// Agent copies an agent, whatever it is.
func Agent(a api.Agent) api.Agent {
	a.Lock, a.Goal = slices.Clone(a.Lock), Release(a.Goal)
	return a
}

// Leader copies a leader, whatever it is.
func Leader(l api.Leader) api.Leader {
	l.Releases, l.Agents = each(l.Releases, Release), slices.Clone(l.Agents)
	return l
}

// Disk copies a disk, whatever it is.
func Disk(d api.Disk) api.Disk {
	return api.Disk{Safe: bytes.Clone(d.Safe), Wait: bytes.Clone(d.Wait)}
}

// Config copies a configuration, whatever it is.
func Config(c api.Config) api.Config {
	c.First, c.Rules, c.Waves = Release(c.First), slices.Clone(c.Rules), each(c.Waves, members)
	return c
}

// World copies a world, whatever it is.
func World(w api.World) api.World {
	w.C, w.N, w.Mail = Config(w.C), each(w.N, node), each(w.Mail, Mail)
	w.H.L, w.H.D = Leader(w.H.L), Disk(w.H.D)
	return w
}

func members(l []int) []int { return slices.Clone(l) }

func node(n api.Node) api.Node {
	n.A, n.D = Agent(n.A), Disk(n.D)
	return n
}

// each copies a list of what has lists within it.
func each[T any](l []T, one func(T) T) []T {
	l = slices.Clone(l)
	for k, x := range l {
		l[k] = one(x)
	}
	return l
}
