package note

import (
	"math"
	"slices"
	"strconv"
	"strings"
	"testing"

	"vanguard/api"
	"vanguard/lock"
)

// row is a lock of so many pins, named 1 and on, all at this version.
func row(many, version int) []api.Pin {
	var l []api.Pin
	for k := range many {
		l = append(l, api.Pin{Name: k + 1, Version: version})
	}
	return l
}

func release(id int, l ...api.Pin) api.Release { return api.Release{ID: id, Lock: l} }

// written is how a record is written, whether it is one or not.
func written(r api.Rec) string {
	good := "0"
	if r.Good {
		good = "1"
	}
	var pins []string
	for _, p := range r.R.Lock {
		pins = append(pins, strconv.Itoa(p.Name)+"@"+strconv.Itoa(p.Version))
	}
	return strconv.Itoa(r.Kind) + " " + strconv.Itoa(r.Agent) + " " + strconv.Itoa(r.Try) + " " + strconv.Itoa(r.N) + " " +
		good + " " + strconv.Itoa(r.R.ID) + " =" + strings.Join(pins, ",")
}

// equal holds field against field, an empty lock like none.
func equal(a, b api.Rec) bool {
	if a.Kind != b.Kind || a.Agent != b.Agent || a.Try != b.Try || a.N != b.N || a.Good != b.Good || a.R.ID != b.R.ID || len(a.R.Lock) != len(b.R.Lock) {
		return false
	}
	for k, p := range a.R.Lock {
		if p.Name != b.R.Lock[k].Name || p.Version != b.R.Lock[k].Version {
			return false
		}
	}
	return true
}

type wrongLock struct {
	l    []api.Pin
	want api.Errno
}

func someWrongLocks() []wrongLock {
	return []wrongLock{
		{row(api.MaxPins+1, 1), api.ErrMany},
		{make([]api.Pin, api.MaxPins+1), api.ErrMany},
		{[]api.Pin{{}}, api.ErrRange},
		{row(2, 0), api.ErrRange},
		{row(2, api.MaxVersion+1), api.ErrRange},
		{[]api.Pin{{Name: api.MaxName + 1, Version: 1}}, api.ErrRange},
		{[]api.Pin{{Name: 3, Version: 1}, {Name: 3, Version: 1}}, api.ErrTwice},
		{[]api.Pin{{Name: 3, Version: 1}, {Name: 2, Version: 1}}, api.ErrTwice},
	}
}

// P5.1
func TestRelease(t *testing.T) {
	for id := 1; id <= api.MaxReleases; id++ {
		for _, l := range [][]api.Pin{nil, {}, row(1, 1), row(api.MaxPins, api.MaxVersion)} {
			if e := Release(api.Release{ID: id, Lock: l}); e != api.OK {
				t.Errorf("Release(%d, %v) = %v", id, l, e)
			}
		}
		for _, w := range someWrongLocks() {
			if e := Release(api.Release{ID: id, Lock: w.l}); e != w.want {
				t.Errorf("Release(%d, %v) = %v, want %v", id, w.l, e, w.want)
			}
		}
	}
	for _, id := range [...]int{math.MinInt, -1, 0, api.MaxReleases + 1, math.MaxInt} {
		for _, l := range [][]api.Pin{nil, {}, row(1, 1), row(api.MaxPins+1, 1), {{Name: 3, Version: 1}, {Name: 3, Version: 1}}} {
			if e := Release(api.Release{ID: id, Lock: l}); e != api.ErrRange {
				t.Errorf("Release(%d, %v) = %v, want ErrRange", id, l, e)
			}
		}
	}
}

type checkCase struct {
	what string
	r    api.Rec
	want api.Errno
}

func goodRecs() []checkCase {
	full := row(api.MaxPins, api.MaxVersion)
	return []checkCase{
		{"begin", api.Rec{Kind: api.ABegin, Try: 7, R: release(2, api.Pin{Name: 3, Version: 4})}, api.OK},
		{"begin, nothing in the lock", api.Rec{Kind: api.ABegin, Try: 1, R: release(1)}, api.OK},
		{"begin, the most of all", api.Rec{Kind: api.ABegin, Try: api.MaxTry, R: release(api.MaxReleases, full...)}, api.OK},
		{"step", api.Rec{Kind: api.AStep, Try: 1}, api.OK},
		{"step, the last try", api.Rec{Kind: api.AStep, Try: api.MaxTry}, api.OK},
		{"done, good", api.Rec{Kind: api.ADone, Try: 7, Good: true}, api.OK},
		{"done, not good", api.Rec{Kind: api.ADone, Try: 7}, api.OK},
		{"publish", api.Rec{Kind: api.LPublish, R: release(3, row(2, 2)...)}, api.OK},
		{"publish, an empty lock", api.Rec{Kind: api.LPublish, R: api.Release{ID: 3, Lock: []api.Pin{}}}, api.OK},
		{"publish, the most of all", api.Rec{Kind: api.LPublish, R: release(api.MaxReleases, full...)}, api.OK},
		{"start, the first", api.Rec{Kind: api.LStart, N: 1}, api.OK},
		{"start, the last", api.Rec{Kind: api.LStart, N: api.MaxReleases}, api.OK},
		{"send, to the first", api.Rec{Kind: api.LSend, Try: 1}, api.OK},
		{"send, to the last", api.Rec{Kind: api.LSend, Agent: api.MaxAgents - 1, Try: api.MaxTry}, api.OK},
		{"got, good", api.Rec{Kind: api.LGot, Agent: 5, Try: 1, Good: true}, api.OK},
		{"got, not good", api.Rec{Kind: api.LGot, Try: api.MaxTry}, api.OK},
		{"back", api.Rec{Kind: api.LBack}, api.OK},
		{"back, an empty lock", api.Rec{Kind: api.LBack, R: api.Release{Lock: []api.Pin{}}}, api.OK},
		{"end", api.Rec{Kind: api.LEnd}, api.OK},
	}
}

func wrongRecs() []checkCase {
	twice := []api.Pin{{Name: 3, Version: 1}, {Name: 3, Version: 1}}
	return []checkCase{
		{"zero", api.Rec{}, api.ErrForm},
		{"no kind", api.Rec{Kind: api.LEnd + 1}, api.ErrForm},
		{"no kind, below", api.Rec{Kind: -1}, api.ErrForm},
		{"begin, of an agent", api.Rec{Kind: api.ABegin, Agent: 1, Try: 1, R: release(1)}, api.ErrForm},
		{"begin, good", api.Rec{Kind: api.ABegin, Try: 1, Good: true, R: release(1)}, api.ErrForm},
		{"begin, by no try", api.Rec{Kind: api.ABegin, R: release(1)}, api.ErrRange},
		{"begin, by a try too many", api.Rec{Kind: api.ABegin, Try: api.MaxTry + 1, R: release(1)}, api.ErrRange},
		{"begin, of no release", api.Rec{Kind: api.ABegin, Try: 1}, api.ErrRange},
		{"begin, of a release too many", api.Rec{Kind: api.ABegin, Try: 1, R: release(api.MaxReleases + 1)}, api.ErrRange},
		{"begin, twice in the lock", api.Rec{Kind: api.ABegin, Try: 1, R: release(1, twice...)}, api.ErrTwice},
		{"step, to a release", api.Rec{Kind: api.AStep, Try: 1, R: release(1)}, api.ErrForm},
		{"step, with a lock", api.Rec{Kind: api.AStep, Try: 1, R: release(0, row(1, 1)...)}, api.ErrForm},
		{"done, by no try", api.Rec{Kind: api.ADone, Good: true}, api.ErrRange},
		{"publish, by a try", api.Rec{Kind: api.LPublish, Try: 1, R: release(1)}, api.ErrForm},
		{"publish, too many pins", api.Rec{Kind: api.LPublish, R: release(1, row(api.MaxPins+1, 1)...)}, api.ErrMany},
		{"start, nothing", api.Rec{Kind: api.LStart}, api.ErrRange},
		{"start, one too many", api.Rec{Kind: api.LStart, N: api.MaxReleases + 1}, api.ErrRange},
		{"start, below", api.Rec{Kind: api.LStart, N: -1}, api.ErrRange},
		{"send, one too many", api.Rec{Kind: api.LSend, Agent: api.MaxAgents, Try: 1}, api.ErrRange},
		{"send, below", api.Rec{Kind: api.LSend, Agent: -1, Try: 1}, api.ErrRange},
		{"send, by no try", api.Rec{Kind: api.LSend, Agent: 1}, api.ErrRange},
		{"send, good", api.Rec{Kind: api.LSend, Agent: 1, Try: 1, Good: true}, api.ErrForm},
		{"got, of a release", api.Rec{Kind: api.LGot, Agent: 1, Try: 1, N: 1}, api.ErrForm},
		{"back, good", api.Rec{Kind: api.LBack, Good: true}, api.ErrForm},
		{"end, of an agent", api.Rec{Kind: api.LEnd, Agent: 1}, api.ErrForm},
		{"end, by a try", api.Rec{Kind: api.LEnd, Try: 1}, api.ErrForm},
		// which error comes first
		{"form ahead of the agent's range", api.Rec{Kind: api.LSend, Agent: api.MaxAgents, Try: 1, N: 1}, api.ErrForm},
		{"form ahead of the try's range", api.Rec{Kind: api.AStep, Try: 0, Good: true}, api.ErrForm},
		{"form ahead of the release's range", api.Rec{Kind: api.LPublish, N: 1}, api.ErrForm},
		{"form ahead of the lock", api.Rec{Kind: api.LPublish, Good: true, R: release(1, twice...)}, api.ErrForm},
		{"a wrong number without a use is form, not range", api.Rec{Kind: api.LBack, Agent: math.MinInt}, api.ErrForm},
		{"a wrong lock without a use is form", api.Rec{Kind: api.LBack, R: release(0, twice...)}, api.ErrForm},
		{"the try ahead of the lock", api.Rec{Kind: api.ABegin, R: release(1, twice...)}, api.ErrRange},
		{"the release's number ahead of its lock", api.Rec{Kind: api.ABegin, Try: 1, R: release(0, twice...)}, api.ErrRange},
	}
}

func allRecs() []checkCase { return append(goodRecs(), wrongRecs()...) }

// P5.1
func TestCheck(t *testing.T) {
	for _, c := range allRecs() {
		if e := Check(c.r); e != c.want {
			t.Errorf("%s: Check(%v) = %v, want %v", c.what, c.r, e, c.want)
		}
	}
}

// kindUses says of each kind what P5.1 says, by its words.
func kindUses(kind int) string {
	return map[int]string{
		api.ABegin: "Try R", api.AStep: "Try", api.ADone: "Try Good", api.LPublish: "R", api.LStart: "N",
		api.LSend: "Agent Try", api.LGot: "Agent Try Good",
	}[kind]
}

// wantOf answers the error that P5.1 asks of r, told thing by thing in its order.
func wantOf(r api.Rec) api.Errno {
	if r.Kind < 1 || r.Kind > 9 {
		return api.ErrForm
	}
	uses := func(field string) bool { return slices.Contains(strings.Fields(kindUses(r.Kind)), field) }
	zero := map[string]bool{"Agent": r.Agent == 0, "Try": r.Try == 0, "N": r.N == 0, "Good": !r.Good, "R": r.R.ID == 0 && len(r.R.Lock) == 0}
	for field, isZero := range zero {
		if !isZero && !uses(field) {
			return api.ErrForm
		}
	}
	switch {
	case r.Agent < 0 || r.Agent >= 6:
		return api.ErrRange
	case uses("Try") && (r.Try < 1 || r.Try > 200):
		return api.ErrRange
	case uses("N") && (r.N < 1 || r.N > 6):
		return api.ErrRange
	case uses("R") && (r.R.ID < 1 || r.R.ID > 6):
		return api.ErrRange
	case uses("R"):
		return lock.Check(r.R.Lock)
	}
	return api.OK
}

// gridReleases have each number at its edges, with each kind of lock.
func gridReleases() []api.Release {
	locks := [][]api.Pin{nil, {}, row(1, 1), row(api.MaxPins, api.MaxVersion)}
	for _, w := range someWrongLocks() {
		locks = append(locks, w.l)
	}
	var all []api.Release
	for _, id := range [...]int{math.MinInt, -1, 0, 1, api.MaxReleases, api.MaxReleases + 1} {
		for _, l := range locks {
			all = append(all, api.Release{ID: id, Lock: l})
		}
	}
	return all
}

// eachRec asks of all records of a grid that has each field at its edges.
func eachRec(ask func(r api.Rec)) {
	releases := gridReleases()
	kinds := []int{math.MinInt, -1, api.LEnd + 1, math.MaxInt}
	for kind := range api.LEnd + 1 {
		kinds = append(kinds, kind)
	}
	for _, kind := range kinds {
		for _, agent := range [...]int{-1, 0, 1, api.MaxAgents - 1, api.MaxAgents, math.MaxInt} {
			for _, try := range [...]int{math.MinInt, -1, 0, 1, api.MaxTry, api.MaxTry + 1} {
				for _, n := range [...]int{-1, 0, 1, api.MaxReleases, api.MaxReleases + 1} {
					for _, good := range [...]bool{false, true} {
						for _, r := range releases {
							ask(api.Rec{Kind: kind, Agent: agent, Try: try, N: n, Good: good, R: r})
						}
					}
				}
			}
		}
	}
}

// P5.1, of all records of the grid.
func TestCheckGrid(t *testing.T) {
	good := 0
	eachRec(func(r api.Rec) {
		want := wantOf(r)
		if e := Check(r); e != want {
			t.Fatalf("Check(%v) = %v, want %v", r, e, want)
		}
		if want == api.OK {
			good++
		}
	})
	if good < api.LEnd {
		t.Errorf("only %d records of the grid are good", good)
	}
}

// P5.1: whatever the fields are, one that differs is seen.
func TestSame(t *testing.T) {
	changes := []func(r *api.Rec){
		func(r *api.Rec) { r.Kind++ },
		func(r *api.Rec) { r.Agent++ },
		func(r *api.Rec) { r.Try++ },
		func(r *api.Rec) { r.N++ },
		func(r *api.Rec) { r.Good = !r.Good },
		func(r *api.Rec) { r.R.ID++ },
		func(r *api.Rec) { r.R.Lock = append(slices.Clone(r.R.Lock), api.Pin{}) },
		func(r *api.Rec) { r.R.Lock = append([]api.Pin{{Name: 1}}, r.R.Lock...) },
		func(r *api.Rec) { r.Kind, r.Agent = r.Kind+1, r.Agent-1 },
		func(r *api.Rec) { r.Try, r.N = r.Try-1, r.N+1 },
	}
	odd := api.Rec{Kind: math.MaxInt - 1, Agent: math.MinInt, Try: -7, N: 1000, Good: true, R: release(-5, row(400, -3)...)}
	for _, c := range append(allRecs(), checkCase{what: "odd", r: odd}) {
		other := c.r
		other.R.Lock = slices.Clone(c.r.R.Lock)
		if !Same(c.r, other) || !Same(c.r, c.r) {
			t.Errorf("%s: %v isn't the same as itself", c.what, c.r)
		}
		for k, change := range changes {
			changed := c.r
			change(&changed)
			if Same(c.r, changed) || Same(changed, c.r) {
				t.Errorf("%s: change %d of %v isn't seen", c.what, k, c.r)
			}
		}
	}
	for _, a := range allRecs() {
		for _, b := range allRecs() {
			if Same(a.r, b.r) != equal(a.r, b.r) || Alike(a.r.R, b.r.R) != equal(api.Rec{R: a.r.R}, api.Rec{R: b.r.R}) {
				t.Errorf("Same(%v, %v) = %v, Alike %v", a.r, b.r, Same(a.r, b.r), Alike(a.r.R, b.r.R))
			}
		}
	}
}

// P5.1
func TestAlike(t *testing.T) {
	pin := func(name, version int) []api.Pin { return []api.Pin{{Name: name, Version: version}} }
	for _, c := range []struct {
		a, b api.Release
		want bool
	}{
		{api.Release{}, api.Release{}, true},
		{api.Release{}, api.Release{Lock: []api.Pin{}}, true},
		{release(-1, pin(0, -4)...), release(-1, pin(0, -4)...), true},
		{release(1, row(400, 1)...), release(1, row(400, 1)...), true},
		{release(1), release(2), false},
		{release(1), release(-1), false},
		{release(1, pin(1, 2)...), release(2, pin(1, 2)...), false},
		{release(1, pin(1, 2)...), release(1, pin(2, 1)...), false},
		{release(1, pin(1, 2)...), release(1, pin(1, 3)...), false},
		{release(1, pin(1, 2)...), release(1, pin(3, 2)...), false},
		{release(1, row(2, 1)...), release(1, row(3, 1)...), false},
		{release(1, row(1, 1)...), release(1), false},
		{release(1, api.Pin{}), release(1), false},
		{release(1, api.Pin{Name: 1}, api.Pin{Name: 2}), release(1, api.Pin{Name: 2}, api.Pin{Name: 1}), false},
	} {
		if Alike(c.a, c.b) != c.want || Alike(c.b, c.a) != c.want {
			t.Errorf("Alike(%v, %v) = %v", c.a, c.b, !c.want)
		}
	}
}

// P5.2
func TestPrint(t *testing.T) {
	for _, c := range []struct {
		r    api.Rec
		want string
	}{
		{api.Rec{Kind: api.ABegin, Try: 7, R: release(2, api.Pin{Name: 3, Version: 4})}, "1 0 7 0 0 2 =3@4"},
		{api.Rec{Kind: api.ABegin, Try: 200, R: release(6, api.Pin{Name: 1, Version: 99}, api.Pin{Name: 20, Version: 10})}, "1 0 200 0 0 6 =1@99,20@10"},
		{api.Rec{Kind: api.AStep, Try: 10}, "2 0 10 0 0 0 ="},
		{api.Rec{Kind: api.ADone, Try: 7, Good: true}, "3 0 7 0 1 0 ="},
		{api.Rec{Kind: api.ADone, Try: 7}, "3 0 7 0 0 0 ="},
		{api.Rec{Kind: api.LPublish, R: release(2)}, "4 0 0 0 0 2 ="},
		{api.Rec{Kind: api.LStart, N: 2}, "5 0 0 2 0 0 ="},
		{api.Rec{Kind: api.LSend, Agent: 5, Try: 33}, "6 5 33 0 0 0 ="},
		{api.Rec{Kind: api.LGot, Agent: 4, Try: 1, Good: true}, "7 4 1 0 1 0 ="},
		{api.Rec{Kind: api.LBack}, "8 0 0 0 0 0 ="},
		{api.Rec{Kind: api.LEnd, R: api.Release{Lock: []api.Pin{}}}, "9 0 0 0 0 0 ="},
	} {
		if s, e := Print(c.r); s != c.want || e != api.OK {
			t.Errorf("Print(%v) = %q, %v, want %q", c.r, s, e, c.want)
		}
		if r, e := Parse(c.want); !equal(r, c.r) || e != api.OK {
			t.Errorf("Parse(%q) = %v, %v, want %v", c.want, r, e, c.r)
		}
	}
}

// P5.2 and P5.3, of all records of the grid: Parse tells the lock's error ahead of Check's.
func TestPrintAndParseGrid(t *testing.T) {
	eachRec(func(r api.Rec) {
		want, text := wantOf(r), written(r)
		s, e := Print(r)
		if e != want || e == api.OK && s != text || e != api.OK && s != "" {
			t.Fatalf("Print(%v) = %q, %v, want %q, %v", r, s, e, text, want)
		}
		if e := lock.Check(r.R.Lock); e != api.OK {
			want = e
		}
		got, e := Parse(text)
		if e != want || e == api.OK && !equal(got, r) || e != api.OK && !isZero(got) {
			t.Fatalf("Parse(%q) = %v, %v, want %v", text, got, e, want)
		}
	})
}

func isZero(r api.Rec) bool { return equal(r, api.Rec{}) && r.R.Lock == nil }

// P5.2: what isn't written so, be it in the numbers or in the lock.
func TestParseText(t *testing.T) {
	beyond := strconv.FormatUint(math.MaxUint64, 10)
	for _, s := range []string{
		"", " ", "=", " =", "8", "8 ", "8 =", "8 0 0 0 0 =", "8 0 0 0 0 0", "8 0 0 0 0 0 ", "8 0 0 0 0 0=", "8 0 0 0 0 0 0 =", "8 0 0 0 0 0 0",
		"8 0 0 0 0 0  =", "8  0 0 0 0 0 =", " 8 0 0 0 0 0 =", "8 0 0 0 0 0 = ", "8 0 0 0 0 0 =\n", "8\t0 0 0 0 0 =", "8 0 0 0 0 0 \t=", "8 0 0 0 0 0\n=", "\xef\xbb\xbf8 0 0 0 0 0 =",
		"8,0,0,0,0,0,=", "8 0 0 0 0 0 ==", "8 0 0 0 0 0 =x", "8 0 0 0 0 0 :", "8 0 0 0 0 0 x=", "=8 0 0 0 0 0", "8 0 0 0 0 0 1@1", "=1@1 8 0 0 0 0 0",
		"08 0 0 0 0 0 =", "8 00 0 0 0 0 =", "8 0 00 0 0 0 =", "8 0 0 00 0 0 =", "8 0 0 0 00 0 =", "8 0 0 0 0 00 =",
		"+8 0 0 0 0 0 =", "8 -0 0 0 0 0 =", "8 0 +0 0 0 0 =", "8 0 0 -0 0 0 =", "8 0 0 0 +0 0 =", "8 0 0 0 -0 0 =", "8 0 0 0 0 -0 =",
		"x 0 0 0 0 0 =", "8 x 0 0 0 0 =", "8 0 x 0 0 0 =", "8 0 0 x 0 0 =", "8 0 0 0 x 0 =", "8 0 0 0 0 x =", "8 0 0 0 true 0 =", "8 0 0 0 false 0 =",
		"8 0 0 0 2 0 =", "8 0 0 0 -1 0 =", "8 0 0 0 10 0 =", "3 0 7 0 2 0 =", "3 0 7 0 01 0 =", "3 0 7 0 +1 0 =", "3 0 7 0 9223372036854775807 0 =",
		beyond + " 0 0 0 0 0 =", "8 " + beyond + " 0 0 0 0 =", "8 0 9223372036854775808 0 0 0 =", "8 0 0 -9223372036854775809 0 0 =", "8 0 0 0 0 " + beyond + " =",
		"1 0 7 0 0 2 =3@4 ", "1 0 7 0 0 2 = 3@4", "1 0 7 0 0 2 =3", "1 0 7 0 0 2 =3@", "1 0 7 0 0 2 =3@4,", "1 0 7 0 0 2 =,3@4", "1 0 7 0 0 2 =3@04", "1 0 7 0 0 2 =3@4=", "1 0 7 0 0 2 =3@4 =",
		"1 0 7 0 0 2 =3@4\n1 0 7 0 0 2 =3@4",
		// ahead of what the numbers are, and of the lock's error
		"10 0 0 0 2 0 =", "10 6 201 7 1 7", "10 0 0 0 2 0 =1@0", "1 0 7 0 0 2 =3@0,x", "8 0 0 0 0 0 =1@1,x", "-1 -1 -1 -1 -1 -1 =",
	} {
		if r, e := Parse(s); !isZero(r) || e != api.ErrText {
			t.Errorf("Parse(%q) = %v, %v, want ErrText", s, r, e)
		}
	}
}

// P5.2: the lock's error is told ahead of Check's.
func TestParseErrorsInOrder(t *testing.T) {
	many := strings.Join(slices.Repeat([]string{"1@1"}, api.MaxPins+1), ",")
	for _, c := range []struct {
		s    string
		want api.Errno
	}{
		{"10 0 0 0 0 0 =", api.ErrForm},
		{"10 0 0 0 0 0 =1@0", api.ErrRange},
		{"10 0 0 0 0 0 =1@1,1@1", api.ErrTwice},
		{"10 0 0 0 0 0 =" + many, api.ErrMany},
		{"8 0 0 0 0 0 =1@1", api.ErrForm},
		{"8 0 0 0 0 0 =1@1,1@1", api.ErrTwice},
		{"1 0 0 0 0 0 =1@1,1@1", api.ErrTwice},
		{"1 0 0 0 0 0 =" + many, api.ErrMany},
		{"1 0 0 0 0 0 =1@1", api.ErrRange},
		{"1 0 0 1 0 0 =1@1", api.ErrForm},
		{"-8 0 0 0 0 0 =", api.ErrForm},
		{"7 -1 1 0 0 0 =", api.ErrRange},
		{"9223372036854775807 0 0 0 0 0 =", api.ErrForm},
		{"7 -9223372036854775808 1 0 1 0 =", api.ErrRange},
	} {
		if r, e := Parse(c.s); !isZero(r) || e != c.want {
			t.Errorf("Parse(%q) = %v, %v, want %v", c.s, r, e, c.want)
		}
	}
}

// P5.2: only the length of the whole text is told ahead of its form.
func TestParseLong(t *testing.T) {
	head := "1 0 7 0 0 2 ="
	pins := func(n int) string { return strings.Repeat("1@1,", n)[:4*n-1] }
	room := (api.MaxText - len(head) + 1) / 4
	whole := head + pins(room)
	atLimit := whole + strings.Repeat("0", api.MaxText-len(whole)) // the last version has some more digits
	for _, c := range []struct {
		what, s string
		want    api.Errno
	}{
		{"too many pins, at the limit", atLimit, api.ErrMany},
		{"a comma at the end, below the limit", head + pins(room-1) + ",", api.ErrText},
		{"a lock that is none, at the limit", head + strings.Repeat("x", api.MaxText-len(head)), api.ErrText},
		{"a lock that is none, a byte too many", head + strings.Repeat("x", api.MaxText-len(head)+1), api.ErrMany},
		{"blanks at the limit", strings.Repeat(" ", api.MaxText), api.ErrText},
		{"blanks, a byte too many", strings.Repeat(" ", api.MaxText+1), api.ErrMany},
		{"a number at the limit", strings.Repeat("9", api.MaxText), api.ErrText},
		{"bytes are counted, not runes", strings.Repeat("é", api.MaxText/2+1), api.ErrMany},
		{"a good one, and much behind it", head + "3@4" + strings.Repeat(" ", api.MaxText), api.ErrMany},
	} {
		if r, e := Parse(c.s); !isZero(r) || e != c.want {
			t.Errorf("%s (%d bytes): %v, want %v", c.what, len(c.s), e, c.want)
		}
	}
	if len(atLimit) != api.MaxText {
		t.Errorf("%d bytes are not at the limit", len(atLimit))
	}
}

// checkBack wants of any text that it is refused with nothing beside the error, or is printed as it was.
func checkBack(t *testing.T, s string) {
	t.Helper()
	r, e := Parse(s)
	if e != api.OK {
		if !isZero(r) {
			t.Fatalf("Parse(%q) = %v beside %v", s, r, e)
		}
		return
	}
	if back, e := Print(r); back != s || e != api.OK {
		t.Fatalf("Parse(%q) = %v, which is printed %q, %v", s, r, back, e)
	}
}

// nearTexts are all texts that one byte more, less, or another one (of some letters) makes of s.
func nearTexts(s string) []string {
	const letters = "0129-+@,= x\n"
	var all []string
	for k := range len(s) + 1 {
		for i := range letters {
			all = append(all, s[:k]+letters[i:i+1]+s[k:])
		}
	}
	for k := range s {
		all = append(all, s[:k]+s[k+1:])
		for i := range letters {
			all = append(all, s[:k]+letters[i:i+1]+s[k+1:])
		}
	}
	return all
}

// P5.3 the other way round, of texts near those of good records, and, of two of these, of texts near those.
func TestNearTexts(t *testing.T) {
	for _, c := range goodRecs() {
		for _, s := range nearTexts(written(c.r)) {
			checkBack(t, s)
		}
	}
	for _, good := range [...]string{"8 0 0 0 0 0 =", "1 0 7 0 0 2 =3@4"} {
		for _, near := range nearTexts(good) {
			for _, s := range nearTexts(near) {
				checkBack(t, s)
			}
		}
	}
}

// P5.3, of each number that a field may be.
func TestRoundTrip(t *testing.T) {
	ask := func(r api.Rec) {
		t.Helper()
		s, e := Print(r)
		if e != api.OK {
			t.Fatalf("Print(%v): %v", r, e)
		}
		if got, e := Parse(s); e != api.OK || !equal(got, r) || !Same(got, r) {
			t.Fatalf("Parse(%q) = %v, %v, want %v", s, got, e, r)
		}
	}
	for try := 1; try <= api.MaxTry; try++ {
		ask(api.Rec{Kind: api.AStep, Try: try})
		for _, good := range [...]bool{false, true} {
			ask(api.Rec{Kind: api.ADone, Try: try, Good: good})
			for agent := range api.MaxAgents {
				ask(api.Rec{Kind: api.LSend, Agent: agent, Try: try})
				ask(api.Rec{Kind: api.LGot, Agent: agent, Try: try, Good: good})
			}
		}
		for many := range api.MaxPins + 1 {
			ask(api.Rec{Kind: api.ABegin, Try: try, R: release(1+try%api.MaxReleases, row(many, 1+try%api.MaxVersion)...)})
		}
	}
	for id := 1; id <= api.MaxReleases; id++ {
		ask(api.Rec{Kind: api.LStart, N: id})
		for many := range api.MaxPins + 1 {
			ask(api.Rec{Kind: api.LPublish, R: release(id, row(many, api.MaxVersion-many)...)})
		}
	}
	ask(api.Rec{Kind: api.LBack})
	ask(api.Rec{Kind: api.LEnd})
}

// P2 of 'What holds everywhere': nothing that is handed in is changed, nor the room behind it, and no answer shares memory with another one.
func TestMemory(t *testing.T) {
	behind := api.Pin{Name: 77, Version: 78}
	for _, c := range allRecs() {
		room := append(slices.Clone(c.r.R.Lock), behind, behind)
		before := slices.Clone(room)
		r := c.r
		r.R.Lock = room[:len(c.r.R.Lock)]
		Release(r.R)
		Check(r)
		Same(r, r)
		Alike(r.R, r.R)
		Print(r)
		if !slices.Equal(room, before) {
			t.Errorf("%s: %v became %v", c.what, before, room)
		}
	}
	const text = "1 0 7 0 0 2 =3@4,5@6"
	first, _ := Parse(text)
	second, _ := Parse(text)
	first.R.Lock[0] = behind
	_ = append(first.R.Lock, behind)
	if third, _ := Parse(text); !equal(second, third) || second.R.Lock[0] != (api.Pin{Name: 3, Version: 4}) {
		t.Errorf("answers share memory: %v, %v", second, third)
	}
}
