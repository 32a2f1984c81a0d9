package whole

import (
	"math"
	"reflect"
	"slices"
	"testing"

	"vanguard/api"
)

func TestRelease(t *testing.T) {
	for _, r := range []api.Release{
		{}, {ID: 3}, {Lock: []api.Pin{}}, {ID: math.MinInt, Lock: []api.Pin{{}}},
		{ID: 1, Lock: []api.Pin{{Name: 1, Version: 2}, {Name: 3, Version: 4}}},
		{ID: 2, Lock: make([]api.Pin, api.MaxPins+1)},
	} {
		before := slices.Clone(r.Lock)
		got := Release(r)
		if got.ID != r.ID || !slices.Equal(got.Lock, r.Lock) {
			t.Errorf("Release(%v) = %v", r, got)
		}
		for k := range got.Lock {
			got.Lock[k] = api.Pin{Name: -7, Version: -7}
		}
		if !slices.Equal(r.Lock, before) {
			t.Errorf("%v became %v", before, r.Lock)
		}
	}
}

// The spare room behind a lock isn't written into, whoever lays something behind the copy.
func TestSpareRoom(t *testing.T) {
	room := []api.Pin{{Name: 1, Version: 2}, {Name: 3, Version: 4}}
	got := Release(api.Release{ID: 1, Lock: room[:1]})
	_ = append(got.Lock, api.Pin{Name: 9, Version: 9})
	if room[1] != (api.Pin{Name: 3, Version: 4}) {
		t.Errorf("behind it: %v", room[1])
	}
}

func TestMail(t *testing.T) {
	for _, m := range []api.Mail{
		{}, {Agent: 1, Try: 2, Report: true, Good: true}, {Agent: math.MinInt, Try: math.MaxInt, Good: true, R: api.Release{Lock: []api.Pin{}}},
		{Agent: 2, Try: 3, R: api.Release{ID: 4, Lock: []api.Pin{{Name: 1, Version: 2}, {Name: 3, Version: 4}}}},
	} {
		before := slices.Clone(m.R.Lock)
		got := Mail(m)
		if got.Agent != m.Agent || got.Try != m.Try || got.Report != m.Report || got.Good != m.Good || got.R.ID != m.R.ID || !slices.Equal(got.R.Lock, m.R.Lock) {
			t.Errorf("Mail(%v) = %v", m, got)
		}
		for k := range got.R.Lock {
			got.R.Lock[k] = api.Pin{Name: -7, Version: -7}
		}
		if !slices.Equal(m.R.Lock, before) {
			t.Errorf("%v became %v", before, m.R.Lock)
		}
	}
}

// crowd is a world with something in each list of it, whatever sense that makes.
func crowd() api.World {
	lock := func(name int) []api.Pin { return []api.Pin{{Name: name, Version: 2}, {Name: 3, Version: math.MaxInt}} }
	release := func(id int) api.Release { return api.Release{ID: id, Lock: lock(id)} }
	disk := func(b byte) api.Disk { return api.Disk{Safe: []byte{b, 1}, Wait: []byte{b, 2}} }
	node := func(n int) api.Node {
		return api.Node{A: api.Agent{Lock: lock(n), At: n, Try: 5, Going: true, Goal: release(-n), Good: true}, D: disk(byte(n)), Up: n > 8}
	}
	return api.World{
		C:    api.Config{First: release(7), Rules: []api.Rule{{Name: 1}, {Least: -1}}, Waves: [][]int{{1, 2}, {3}}, Budget: 9},
		H:    api.Head{L: api.Leader{Releases: []api.Release{release(1), release(2)}, Now: 3, Goal: 4, Back: true, Agents: []api.Known{{State: 1, Try: 2, Back: true}, {}}, Next: 6}, D: disk(3), Up: true},
		N:    []api.Node{node(8), node(9)},
		Mail: []api.Mail{{Agent: 1, Try: 2, Report: true, Good: true, R: release(5)}, {R: release(6)}},
	}
}

// hollow has lists that are empty, and not nil.
func hollow() api.World {
	no := api.Release{Lock: []api.Pin{}}
	disk := api.Disk{Safe: []byte{}, Wait: []byte{}}
	return api.World{
		C:    api.Config{First: no, Rules: []api.Rule{}, Waves: [][]int{{}, nil}},
		H:    api.Head{L: api.Leader{Releases: []api.Release{no, {}}, Agents: []api.Known{}}, D: disk},
		N:    []api.Node{{A: api.Agent{Lock: []api.Pin{}, Goal: no}, D: disk}, {}},
		Mail: []api.Mail{{R: no}, {}},
	}
}

// spoil writes over all that lies in the lists of x, however deep.
func spoil(x reflect.Value) {
	switch x.Kind() {
	case reflect.Struct:
		for k := range x.NumField() {
			spoil(x.Field(k))
		}
	case reflect.Slice:
		for k := range x.Len() {
			spoil(x.Index(k))
			x.Index(k).SetZero()
		}
	}
}

// holds: a copy is the same, and what is done to it isn't seen in what it was made of.
func holds[T any](t *testing.T, one func(T) T, made func(w api.World) T) {
	t.Helper()
	for _, world := range []func() api.World{crowd, hollow, func() api.World { return api.World{} }} {
		x, want := made(world()), made(world())
		got := one(x)
		if !reflect.DeepEqual(got, want) {
			t.Errorf("a copy of %v is %v", want, got)
		}
		spoil(reflect.ValueOf(got))
		if !reflect.DeepEqual(x, want) {
			t.Errorf("%v became %v", want, x)
		}
	}
}

func TestAll(t *testing.T) {
	holds(t, World, func(w api.World) api.World { return w })
	holds(t, Config, func(w api.World) api.Config { return w.C })
	holds(t, Leader, func(w api.World) api.Leader { return w.H.L })
	holds(t, Disk, func(w api.World) api.Disk { return w.H.D })
	holds(t, Agent, func(w api.World) api.Agent { return append(w.N, api.Node{})[0].A })
}
