package table

import (
	"math"
	"slices"
	"testing"

	"vanguard/api"
)

// There and back it is the same lock, in memory of its own.
func TestThereAndBack(t *testing.T) {
	var full []api.Pin
	for k := range api.MaxPins {
		full = append(full, api.Pin{Name: api.MaxName - api.MaxPins + 1 + k, Version: api.MaxVersion})
	}
	for _, l := range [][]api.Pin{nil, {}, {{Name: 1, Version: 1}}, {{Name: 1, Version: 9}, {Name: 7, Version: 2}, {Name: api.MaxName, Version: api.MaxVersion}}, full} {
		v, e := Of(l)
		got := v.Pins()
		if e != api.OK || !slices.Equal(got, l) {
			t.Errorf("of %v: %v, %v", l, got, e)
		}
		before := slices.Clone(l)
		for k := range got {
			got[k] = api.Pin{}
		}
		if !slices.Equal(l, before) {
			t.Errorf("%v became %v", before, l)
		}
	}
}

// What is laid at a name comes in its place, or goes.
func TestChanged(t *testing.T) {
	v, _ := Of([]api.Pin{{Name: 1, Version: 9}, {Name: 7, Version: 2}})
	v[1], v[3], v[7] = 0, 4, 5
	if got := v.Pins(); !slices.Equal(got, []api.Pin{{Name: 3, Version: 4}, {Name: 7, Version: 5}}) {
		t.Errorf("%v", got)
	}
}

func TestNoLock(t *testing.T) {
	for _, c := range []struct {
		l    []api.Pin
		want api.Errno
	}{
		{[]api.Pin{{}}, api.ErrRange},
		{[]api.Pin{{Name: 1, Version: 1}, {Name: api.MaxName + 1, Version: 1}}, api.ErrRange},
		{[]api.Pin{{Name: math.MinInt, Version: 1}}, api.ErrRange},
		{[]api.Pin{{Name: 1, Version: 1}, {Name: 1, Version: 2}}, api.ErrTwice},
		{make([]api.Pin, api.MaxPins+1), api.ErrMany},
	} {
		if v, e := Of(c.l); v != (Versions{}) || e != c.want {
			t.Errorf("Of(%v) = %v, %v, want %v", c.l, v, e, c.want)
		}
	}
}
