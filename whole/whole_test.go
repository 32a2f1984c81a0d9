package whole

import (
	"math"
	"slices"
	"testing"

	"vanguard/api"
)

func TestRelease(t *testing.T) {
	for _, r := range []api.Release{
		{}, {ID: 3}, {Lock: []api.Pin{}}, {ID: math.MinInt, Lock: []api.Pin{{}}},
		{ID: 1, Lock: []api.Pin{{Name: 1, Version: 2}, {Name: 3, Version: 4}}},
		{ID: 2, Lock: make([]api.Pin, api.MaxPins+1)},
	} {
		before := slices.Clone(r.Lock)
		got := Release(r)
		if got.ID != r.ID || !slices.Equal(got.Lock, r.Lock) {
			t.Errorf("Release(%v) = %v", r, got)
		}
		for k := range got.Lock {
			got.Lock[k] = api.Pin{Name: -7, Version: -7}
		}
		if !slices.Equal(r.Lock, before) {
			t.Errorf("%v became %v", before, r.Lock)
		}
	}
}

// The spare room behind a lock isn't written into, whoever lays something behind the copy.
func TestSpareRoom(t *testing.T) {
	room := []api.Pin{{Name: 1, Version: 2}, {Name: 3, Version: 4}}
	got := Release(api.Release{ID: 1, Lock: room[:1]})
	_ = append(got.Lock, api.Pin{Name: 9, Version: 9})
	if room[1] != (api.Pin{Name: 3, Version: 4}) {
		t.Errorf("behind it: %v", room[1])
	}
}

func TestMail(t *testing.T) {
	for _, m := range []api.Mail{
		{}, {Agent: 1, Try: 2, Report: true, Good: true}, {Agent: math.MinInt, Try: math.MaxInt, Good: true, R: api.Release{Lock: []api.Pin{}}},
		{Agent: 2, Try: 3, R: api.Release{ID: 4, Lock: []api.Pin{{Name: 1, Version: 2}, {Name: 3, Version: 4}}}},
	} {
		before := slices.Clone(m.R.Lock)
		got := Mail(m)
		if got.Agent != m.Agent || got.Try != m.Try || got.Report != m.Report || got.Good != m.Good || got.R.ID != m.R.ID || !slices.Equal(got.R.Lock, m.R.Lock) {
			t.Errorf("Mail(%v) = %v", m, got)
		}
		for k := range got.R.Lock {
			got.R.Lock[k] = api.Pin{Name: -7, Version: -7}
		}
		if !slices.Equal(m.R.Lock, before) {
			t.Errorf("%v became %v", before, m.R.Lock)
		}
	}
}
