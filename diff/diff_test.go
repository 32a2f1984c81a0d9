package diff

import (
	"math"
	"slices"
	"strconv"
	"strings"
	"testing"

	"vanguard/api"
	"vanguard/lock"
)

// locked reads a lock that a test writes as text.
func locked(t *testing.T, s string) []api.Pin {
	t.Helper()
	l, e := lock.Parse(s)
	if e != api.OK {
		t.Fatalf("%q is no lock: %v", s, e)
	}
	return l
}

// told writes steps: -1 goes, +4@1 comes, ~2@3 is turned.
func told(ops []api.Op) string {
	var words []string
	for _, o := range ops {
		switch {
		case o.Kind == api.Drop && o.Version == 0:
			words = append(words, "-"+strconv.Itoa(o.Name))
		case o.Kind == api.Add:
			words = append(words, "+"+strconv.Itoa(o.Name)+"@"+strconv.Itoa(o.Version))
		case o.Kind == api.Turn:
			words = append(words, "~"+strconv.Itoa(o.Name)+"@"+strconv.Itoa(o.Version))
		default:
			words = append(words, "?")
		}
	}
	return strings.Join(words, " ")
}

// full is a lock of as many pins as may be, of the names from first on.
func full(first, version int) []api.Pin {
	var l []api.Pin
	for k := range api.MaxPins {
		l = append(l, api.Pin{Name: first + k, Version: version})
	}
	return l
}

// someLocks are all locks of three names, the least and the greatest among them, each absent or at one of three versions.
func someLocks() [][]api.Pin {
	all := [][]api.Pin{nil}
	for _, name := range [...]int{1, 7, api.MaxName} {
		var more [][]api.Pin
		for _, l := range all {
			more = append(more, l)
			for _, version := range [...]int{1, 2, api.MaxVersion} {
				more = append(more, append(slices.Clone(l), api.Pin{Name: name, Version: version}))
			}
		}
		all = more
	}
	return all
}

type wrongLock struct {
	l    []api.Pin
	want api.Errno
}

func wrongLocks() []wrongLock {
	return []wrongLock{
		{[]api.Pin{{}}, api.ErrRange},
		{[]api.Pin{{Name: api.MaxName + 1, Version: 1}}, api.ErrRange},
		{[]api.Pin{{Name: math.MinInt, Version: 1}}, api.ErrRange},
		{[]api.Pin{{Name: 1, Version: api.MaxVersion + 1}}, api.ErrRange},
		{[]api.Pin{{Name: 2, Version: 1}, {Name: 1, Version: 1}}, api.ErrTwice},
		{[]api.Pin{{Name: 2, Version: 1}, {Name: 2, Version: 1}}, api.ErrTwice},
		{make([]api.Pin, api.MaxPins+1), api.ErrMany},
	}
}

// P2.1
func TestDiff(t *testing.T) {
	for _, c := range []struct{ from, to, want string }{
		{"", "", ""},
		{"1@1", "1@1", ""},
		{"1@1,7@2,20@99", "1@1,7@2,20@99", ""},
		{"", "1@1", "+1@1"},
		{"1@1", "", "-1"},
		{"1@1", "1@2", "~1@2"},
		{"1@2", "1@1", "~1@1"},
		{"1@1", "2@1", "-1 +2@1"},
		{"2@1", "1@1", "-2 +1@1"},
		{"1@1,2@1", "2@3,4@1", "-1 ~2@3 +4@1"},
		{"2@3,4@1", "1@1,2@1", "-4 +1@1 ~2@1"},
		{"1@1,3@1,5@1,7@1", "2@1,3@2,4@1,5@1,6@1", "-1 -7 +2@1 ~3@2 +4@1 +6@1"},
		{"20@99", "20@1", "~20@1"},
		{"20@1", "20@99", "~20@99"},
		{"1@1", "1@99,20@99", "~1@99 +20@99"},
		{"1@1,2@1,3@1,4@1,5@1,6@1,7@1,8@1,9@1,10@1,11@1,12@1", "", "-1 -2 -3 -4 -5 -6 -7 -8 -9 -10 -11 -12"},
		{"12@1", "1@1,2@1,3@1,4@1,5@1,6@1,7@1,8@1,9@1,10@1,11@1,12@2", "+1@1 +2@1 +3@1 +4@1 +5@1 +6@1 +7@1 +8@1 +9@1 +10@1 +11@1 ~12@2"},
	} {
		ops, e := Diff(locked(t, c.from), locked(t, c.to))
		if e != api.OK || told(ops) != c.want {
			t.Errorf("from %q to %q: %q, %v, want %q", c.from, c.to, told(ops), e, c.want)
		}
	}
}

// P2.1: of two wrong locks, from is told first.
func TestDiffErrors(t *testing.T) {
	good := full(1, 1)
	for _, w := range wrongLocks() {
		for _, c := range []struct {
			from, to []api.Pin
			want     api.Errno
		}{{w.l, good, w.want}, {w.l, nil, w.want}, {good, w.l, w.want}, {nil, w.l, w.want}} {
			if ops, e := Diff(c.from, c.to); ops != nil || e != c.want {
				t.Errorf("Diff(%v, %v) = %v, %v, want %v", c.from, c.to, ops, e, c.want)
			}
		}
		for _, other := range wrongLocks() {
			if ops, e := Diff(w.l, other.l); ops != nil || e != w.want {
				t.Errorf("Diff(%v, %v) = %v, %v, want %v", w.l, other.l, ops, e, w.want)
			}
		}
	}
}

// P2.2
func TestApply(t *testing.T) {
	for _, c := range []struct {
		l    string
		o    api.Op
		want string
	}{
		{"", api.Op{Kind: api.Add, Name: 1, Version: 1}, "1@1"},
		{"", api.Op{Kind: api.Add, Name: api.MaxName, Version: api.MaxVersion}, "20@99"},
		{"2@1", api.Op{Kind: api.Add, Name: 1, Version: 5}, "1@5,2@1"},
		{"2@1", api.Op{Kind: api.Add, Name: 3, Version: 5}, "2@1,3@5"},
		{"2@1,9@4", api.Op{Kind: api.Add, Name: 5, Version: 3}, "2@1,5@3,9@4"},
		{"1@1,2@1,3@1,4@1,5@1,6@1,7@1,8@1,9@1,10@1,12@1", api.Op{Kind: api.Add, Name: 11, Version: 1}, "1@1,2@1,3@1,4@1,5@1,6@1,7@1,8@1,9@1,10@1,11@1,12@1"},
		{"1@1", api.Op{Kind: api.Drop, Name: 1}, ""},
		{"1@1,2@2,20@3", api.Op{Kind: api.Drop, Name: 1}, "2@2,20@3"},
		{"1@1,2@2,20@3", api.Op{Kind: api.Drop, Name: 2}, "1@1,20@3"},
		{"1@1,2@2,20@3", api.Op{Kind: api.Drop, Name: 20}, "1@1,2@2"},
		{"1@1,2@2,20@3", api.Op{Kind: api.Turn, Name: 2, Version: 1}, "1@1,2@1,20@3"},
		{"1@1,2@2,20@3", api.Op{Kind: api.Turn, Name: 20, Version: api.MaxVersion}, "1@1,2@2,20@99"},
		{"1@1,2@2,20@3", api.Op{Kind: api.Turn, Name: 2, Version: 2}, "1@1,2@2,20@3"},
	} {
		l, e := Apply(locked(t, c.l), c.o)
		if got, _ := lock.Print(l); e != api.OK || got != c.want {
			t.Errorf("Apply(%q, %v) = %q, %v, want %q", c.l, c.o, got, e, c.want)
		}
	}
}

// P2.2: steps that are done to a full lock.
func TestApplyToFull(t *testing.T) {
	for _, c := range []struct {
		o    api.Op
		want int
	}{
		{api.Op{Kind: api.Drop, Name: 1}, api.MaxPins - 1},
		{api.Op{Kind: api.Turn, Name: 1, Version: 2}, api.MaxPins},
	} {
		if l, e := Apply(full(1, 1), c.o); e != api.OK || len(l) != c.want {
			t.Errorf("Apply(full, %v) = %v, %v", c.o, l, e)
		}
	}
}

// P2.2: what is wrong with a step, and which of several wrongs is told.
func TestApplyErrors(t *testing.T) {
	l := locked(t, "1@1,2@1")
	for _, c := range []struct {
		what string
		l    []api.Pin
		o    api.Op
		want api.Errno
	}{
		{"no kind", l, api.Op{}, api.ErrForm},
		{"kind 4", l, api.Op{Kind: 4, Name: 1, Version: 1}, api.ErrForm},
		{"kind below 0", l, api.Op{Kind: -1, Name: 1, Version: 1}, api.ErrForm},
		{"the greatest kind", l, api.Op{Kind: math.MaxInt, Name: 3, Version: 1}, api.ErrForm},
		{"kind ahead of range", l, api.Op{Kind: 4, Name: -1, Version: -1}, api.ErrForm},
		{"Add of name 0", l, api.Op{Kind: api.Add, Version: 1}, api.ErrRange},
		{"Add of a name too great", l, api.Op{Kind: api.Add, Name: api.MaxName + 1, Version: 1}, api.ErrRange},
		{"Add of the greatest int", l, api.Op{Kind: api.Add, Name: math.MaxInt, Version: 1}, api.ErrRange},
		{"Add at version 0", l, api.Op{Kind: api.Add, Name: 3}, api.ErrRange},
		{"Add at a version too great", l, api.Op{Kind: api.Add, Name: 3, Version: api.MaxVersion + 1}, api.ErrRange},
		{"Add below 0", l, api.Op{Kind: api.Add, Name: 3, Version: -1}, api.ErrRange},
		{"Turn of name 0", l, api.Op{Kind: api.Turn, Version: 1}, api.ErrRange},
		{"Turn of a name below 0", l, api.Op{Kind: api.Turn, Name: -1, Version: 1}, api.ErrRange},
		{"Turn to version 0", l, api.Op{Kind: api.Turn, Name: 1}, api.ErrRange},
		{"Turn to a version too great", l, api.Op{Kind: api.Turn, Name: 1, Version: api.MaxVersion + 1}, api.ErrRange},
		{"Drop of name 0", l, api.Op{Kind: api.Drop}, api.ErrRange},
		{"Drop of a name too great", l, api.Op{Kind: api.Drop, Name: api.MaxName + 1}, api.ErrRange},
		{"Drop of the least int", l, api.Op{Kind: api.Drop, Name: math.MinInt}, api.ErrRange},
		{"Drop with the version that is there", l, api.Op{Kind: api.Drop, Name: 1, Version: 1}, api.ErrRange},
		{"Drop below version 0", l, api.Op{Kind: api.Drop, Name: 1, Version: -1}, api.ErrRange},
		{"range ahead of twice", l, api.Op{Kind: api.Add, Name: 1}, api.ErrRange},
		{"range ahead of who", l, api.Op{Kind: api.Drop, Name: 3, Version: 1}, api.ErrRange},
		{"range ahead of many", full(1, 1), api.Op{Kind: api.Add, Name: 20}, api.ErrRange},
		{"Add of what is there", l, api.Op{Kind: api.Add, Name: 1, Version: 1}, api.ErrTwice},
		{"Add of what is there at another version", l, api.Op{Kind: api.Add, Name: 2, Version: 7}, api.ErrTwice},
		{"twice ahead of many", full(1, 1), api.Op{Kind: api.Add, Name: 12, Version: 1}, api.ErrTwice},
		{"Drop of what isn't there", l, api.Op{Kind: api.Drop, Name: 3}, api.ErrWho},
		{"Turn of what isn't there", l, api.Op{Kind: api.Turn, Name: 3, Version: 1}, api.ErrWho},
		{"Drop of nothing", nil, api.Op{Kind: api.Drop, Name: 1}, api.ErrWho},
		{"Turn of nothing", nil, api.Op{Kind: api.Turn, Name: 1, Version: 1}, api.ErrWho},
		{"Drop from a full lock", full(1, 1), api.Op{Kind: api.Drop, Name: 13}, api.ErrWho},
		{"Turn of a full lock", full(1, 1), api.Op{Kind: api.Turn, Name: 13, Version: 1}, api.ErrWho},
		{"Add to a full lock", full(1, 1), api.Op{Kind: api.Add, Name: 13, Version: 1}, api.ErrMany},
		{"Add ahead of a full lock", full(2, 1), api.Op{Kind: api.Add, Name: 1, Version: 1}, api.ErrMany},
	} {
		if got, e := Apply(c.l, c.o); got != nil || e != c.want {
			t.Errorf("%s: Apply(%v, %v) = %v, %v, want %v", c.what, c.l, c.o, got, e, c.want)
		}
	}
	for _, w := range wrongLocks() {
		for _, o := range []api.Op{{}, {Kind: api.Add}, {Kind: api.Add, Name: 2, Version: 1}, {Kind: api.Drop, Name: 9}, {Kind: api.Drop, Name: 2}} {
			if got, e := Apply(w.l, o); got != nil || e != w.want {
				t.Errorf("Apply(%v, %v) = %v, %v, want %v", w.l, o, got, e, w.want)
			}
		}
	}
}

// P2.3
func TestBetween(t *testing.T) {
	for _, c := range []struct {
		from, to, l string
		want        int
	}{
		{"", "", "", 0},
		{"", "", "1@1", -1},
		{"1@1", "1@1", "1@1", 0},
		{"1@1", "1@1", "1@2", -1},
		{"1@1", "1@1", "", -1},
		{"1@1", "", "", 1},
		{"1@1,2@1", "2@3,4@1", "1@1,2@1", 0},
		{"1@1,2@1", "2@3,4@1", "2@1", 1},
		{"1@1,2@1", "2@3,4@1", "2@3", 2},
		{"1@1,2@1", "2@3,4@1", "2@3,4@1", 3},
		{"1@1,2@1", "2@3,4@1", "1@1,2@3", -1}, // a part of the steps, but not of their beginning
		{"1@1,2@1", "2@3,4@1", "2@1,4@1", -1},
		{"1@1,2@1", "2@3,4@1", "2@2", -1},
		{"1@1,2@1", "2@3,4@1", "", -1},
		{"1@1,2@1", "2@3,4@1", "1@1,2@3,4@1", -1},
		{"20@1", "20@99", "20@99", 1},
	} {
		k, e := Between(locked(t, c.from), locked(t, c.to), locked(t, c.l))
		if k != c.want || e != api.OK {
			t.Errorf("Between(%q, %q, %q) = %d, %v, want %d", c.from, c.to, c.l, k, e, c.want)
		}
	}
}

// P2.3: from is told ahead of to, to ahead of l; with an error the number is 0, not -1.
func TestBetweenErrors(t *testing.T) {
	good := full(1, 1)
	for _, w := range wrongLocks() {
		for _, other := range wrongLocks() {
			for _, c := range [][3][]api.Pin{
				{w.l, other.l, other.l}, {w.l, other.l, good}, {w.l, good, other.l}, {w.l, nil, nil},
				{good, w.l, other.l}, {good, w.l, good},
				{good, good, w.l}, {nil, good, w.l},
			} {
				if k, e := Between(c[0], c[1], c[2]); k != 0 || e != w.want {
					t.Errorf("Between(%v) = %d, %v, want %v", c, k, e, w.want)
				}
			}
		}
	}
}

// walk does all steps from from to to, and holds each lock on the way against P2.3 and P2.4.
func walk(t *testing.T, from, to []api.Pin) [][]api.Pin {
	t.Helper()
	ops, e := Diff(from, to)
	if e != api.OK {
		t.Fatalf("Diff(%v, %v): %v", from, to, e)
	}
	seen := [][]api.Pin{from}
	now := from
	for _, o := range ops {
		if now, e = Apply(now, o); e != api.OK {
			t.Fatalf("from %v to %v: Apply of %v: %v", from, to, o, e)
		}
		seen = append(seen, now)
	}
	if !slices.Equal(now, to) {
		t.Fatalf("from %v to %v: steps %q make %v", from, to, told(ops), now)
	}
	for k, l := range seen {
		if e := lock.Check(l); e != api.OK {
			t.Fatalf("from %v to %v: %v is no lock: %v", from, to, l, e)
		}
		if got, e := Between(from, to, l); got != k || e != api.OK {
			t.Fatalf("Between(%v, %v, %v) = %d, %v, want %d", from, to, l, got, e, k)
		}
	}
	return seen
}

// P2.3 and P2.4, of all pairs of some locks: what the walk meets is between, and nothing else is.
func TestAllPairs(t *testing.T) {
	locks := someLocks()
	for _, from := range locks {
		for _, to := range locks {
			seen := walk(t, from, to)
			for _, l := range locks {
				met := slices.ContainsFunc(seen, func(s []api.Pin) bool { return slices.Equal(s, l) })
				if k, e := Between(from, to, l); e != api.OK || !met && k != -1 {
					t.Fatalf("Between(%v, %v, %v) = %d, %v", from, to, l, k, e)
				}
			}
		}
	}
}

// P2.4 where there is no room: from full lock to full lock, of as many names in common as can be, and of as few.
func TestFullLocks(t *testing.T) {
	for first := 1; first+api.MaxPins-1 <= api.MaxName; first++ {
		for other := 1; other+api.MaxPins-1 <= api.MaxName; other++ {
			walk(t, full(first, 1), full(other, 1))
			walk(t, full(first, 1), full(other, api.MaxVersion))
		}
	}
	walk(t, full(1, 1), nil)
	walk(t, nil, full(9, api.MaxVersion))
}

// P2 of 'What holds everywhere': what is handed in stays as it is, with the room behind it, and answers are new memory.
func TestMemory(t *testing.T) {
	behind := api.Pin{Name: 77, Version: 78}
	roomy := func(l []api.Pin) []api.Pin { return append(slices.Clone(l), behind, behind, behind) }
	for _, from := range someLocks() {
		for _, to := range someLocks() {
			a, b := roomy(from), roomy(to)
			l, m := a[:len(from)], b[:len(to)]
			ops, _ := Diff(l, m)
			Between(l, m, m)
			Between(l, m, l)
			for _, o := range append(ops, api.Op{Kind: api.Add, Name: 2, Version: 1}, api.Op{Kind: api.Add, Name: 1, Version: 1}) {
				got, _ := Apply(l, o)
				got = append(got, api.Pin{Name: 5, Version: 5})
				for k := range got {
					got[k] = api.Pin{Name: 6, Version: 6}
				}
			}
			if !slices.Equal(a, roomy(from)) || !slices.Equal(b, roomy(to)) {
				t.Fatalf("from %v to %v: became %v and %v", from, to, a, b)
			}
		}
	}
}

// A Turn to the version that is there answers the same lock, but in memory of its own.
func TestApplyAnswersNewMemory(t *testing.T) {
	l := locked(t, "1@1,2@2")
	got, _ := Apply(l, api.Op{Kind: api.Turn, Name: 2, Version: 2})
	got[0].Version = 50
	if l[0].Version != 1 {
		t.Errorf("the answer shares memory with the lock: %v", l)
	}
}

// Empty and nil are the same lock.
func TestNilAndEmpty(t *testing.T) {
	none, empty := []api.Pin(nil), []api.Pin{}
	for _, c := range [][3][]api.Pin{{none, none, empty}, {none, empty, none}, {empty, none, none}, {empty, empty, empty}} {
		if ops, e := Diff(c[0], c[1]); len(ops) != 0 || e != api.OK {
			t.Errorf("Diff of nothing: %v, %v", ops, e)
		}
		if k, e := Between(c[0], c[1], c[2]); k != 0 || e != api.OK {
			t.Errorf("Between of nothing: %d, %v", k, e)
		}
	}
	if l, e := Apply(empty, api.Op{Kind: api.Add, Name: 1, Version: 1}); e != api.OK || len(l) != 1 {
		t.Errorf("Apply to nothing: %v, %v", l, e)
	}
}
