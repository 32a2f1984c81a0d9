package way

import (
	"fmt"
	"math"
	"slices"
	"testing"

	"vanguard/api"
	"vanguard/note"
)

// row is a lock of so many pins, named 1 and on, all at this version.
func row(many, version int) []api.Pin {
	var l []api.Pin
	for k := range many {
		l = append(l, api.Pin{Name: k + 1, Version: version})
	}
	return l
}

func release(id int, l ...api.Pin) api.Release { return api.Release{ID: id, Lock: l} }

// order is mail to an agent, report is mail from one.
func order(agent, try int, r api.Release) api.Mail { return api.Mail{Agent: agent, Try: try, R: r} }

func report(agent, try int, good bool) api.Mail {
	return api.Mail{Agent: agent, Try: try, Report: true, Good: good}
}

// told writes all fields, a list of nothing like none.
func told(x any) string { return fmt.Sprintf("%v", x) }

// isZero tells whether nothing is answered, no list either.
func isZero(m api.Mail) bool { return told(m) == told(api.Mail{}) && m.R.Lock == nil }

// deep copies a list of mail, locks too.
func deep(l []api.Mail) []api.Mail {
	l = slices.Clone(l)
	for k := range l {
		l[k].R.Lock = slices.Clone(l[k].R.Lock)
	}
	return l
}

type mailCase struct {
	what string
	m    api.Mail
	want api.Errno
}

func goodMail() []mailCase {
	return []mailCase{
		{"an order", order(1, 2, release(2, row(1, 3)...)), api.OK},
		{"an order to the first, by the first try", order(0, 1, release(1, row(2, 1)...)), api.OK},
		{"an order to the last, by the last try", order(api.MaxAgents-1, api.MaxTry, release(api.MaxReleases, row(api.MaxPins, api.MaxVersion)...)), api.OK},
		{"an order to have nothing", order(0, 1, release(1)), api.OK},
		{"an order to have nothing, an empty lock", order(0, 1, api.Release{ID: 1, Lock: []api.Pin{}}), api.OK},
		{"a report, good", report(1, 2, true), api.OK},
		{"a report, not good", report(1, 2, false), api.OK},
		{"a report of the first, by the first try", report(0, 1, true), api.OK},
		{"a report of the last, by the last try", report(api.MaxAgents-1, api.MaxTry, false), api.OK},
		{"a report with an empty lock", api.Mail{Try: 1, Report: true, R: api.Release{Lock: []api.Pin{}}}, api.OK},
	}
}

func wrongMail() []mailCase {
	twice := []api.Pin{{Name: 3, Version: 1}, {Name: 3, Version: 1}}
	return []mailCase{
		{"zero", api.Mail{}, api.ErrRange},
		{"an agent below", order(-1, 1, release(1)), api.ErrRange},
		{"an agent too many", order(api.MaxAgents, 1, release(1)), api.ErrRange},
		{"no try", order(0, 0, release(1)), api.ErrRange},
		{"a try below", order(0, -1, release(1)), api.ErrRange},
		{"a try too many", order(0, api.MaxTry+1, release(1)), api.ErrRange},
		{"a report of an agent below", report(-1, 1, true), api.ErrRange},
		{"a report of an agent too many", report(api.MaxAgents, 1, true), api.ErrRange},
		{"a report of the least agent of all", report(math.MinInt, 1, true), api.ErrRange},
		{"a report by no try", report(0, 0, true), api.ErrRange},
		{"a report by a try too many", report(0, api.MaxTry+1, false), api.ErrRange},
		{"a report by the greatest try of all", report(0, math.MaxInt, false), api.ErrRange},
		{"a report with a release", api.Mail{Try: 1, Report: true, R: release(1, row(1, 1)...)}, api.ErrForm},
		{"a report with a release's number", api.Mail{Try: 1, Report: true, R: release(1)}, api.ErrForm},
		{"a report with a lock", api.Mail{Try: 1, Report: true, R: release(0, row(1, 1)...)}, api.ErrForm},
		{"a report with a pin that is zero", api.Mail{Try: 1, Report: true, R: release(0, api.Pin{})}, api.ErrForm},
		{"a good order", api.Mail{Try: 1, Good: true, R: release(1)}, api.ErrForm},
		{"an order of no release", order(0, 1, api.Release{}), api.ErrRange},
		{"an order of a release too many", order(0, 1, release(api.MaxReleases+1)), api.ErrRange},
		{"an order with too many pins", order(0, 1, release(1, row(api.MaxPins+1, 1)...)), api.ErrMany},
		{"an order with a version of 0", order(0, 1, release(1, row(1, 0)...)), api.ErrRange},
		{"an order with a name twice", order(0, 1, release(1, twice...)), api.ErrTwice},
		// which error comes first
		{"the agent ahead of the form", api.Mail{Agent: -1, Try: 1, Report: true, R: release(1)}, api.ErrRange},
		{"the try ahead of the form", api.Mail{Report: true, R: release(1)}, api.ErrRange},
		{"the agent ahead of a good order", api.Mail{Agent: api.MaxAgents, Try: 1, Good: true, R: release(1)}, api.ErrRange},
		{"the try ahead of a good order", api.Mail{Good: true, R: release(1)}, api.ErrRange},
		{"the agent ahead of the lock", order(-1, 1, release(1, twice...)), api.ErrRange},
		{"the try ahead of the lock", order(0, 0, release(1, twice...)), api.ErrRange},
		{"a good order ahead of its release's number", api.Mail{Try: 1, Good: true}, api.ErrForm},
		{"a good order ahead of its lock", api.Mail{Try: 1, Good: true, R: release(1, twice...)}, api.ErrForm},
		{"a wrong release of a report is form, not range", api.Mail{Try: 1, Report: true, R: release(-1)}, api.ErrForm},
		{"a wrong lock of a report is form", api.Mail{Try: 1, Report: true, Good: true, R: release(0, twice...)}, api.ErrForm},
		{"the release's number ahead of its lock", order(0, 1, release(0, twice...)), api.ErrRange},
	}
}

func allMail() []mailCase { return append(goodMail(), wrongMail()...) }

// goodLists are lists of each length that may be, of all good mail in turn.
func goodLists() [][]api.Mail {
	all := [][]api.Mail{nil, {}}
	good := goodMail()
	for many := range api.MaxMail + 1 {
		var l []api.Mail
		for k := range many {
			l = append(l, good[(k+many)%len(good)].m)
		}
		all = append(all, l)
	}
	return all
}

// reports are so many reports, each by another try.
func reports(many int) []api.Mail {
	var l []api.Mail
	for k := range many {
		l = append(l, report(k%api.MaxAgents, k+1, k%2 == 0))
	}
	return l
}

// P9.1
func TestCheck(t *testing.T) {
	for _, c := range allMail() {
		if e := Check([]api.Mail{c.m}); e != c.want {
			t.Errorf("%s: Check(%v) = %v, want %v", c.what, c.m, e, c.want)
		}
	}
	for _, l := range goodLists() {
		if e := Check(l); e != api.OK {
			t.Errorf("Check of %d = %v", len(l), e)
		}
	}
}

// P9.1: of how many there are is told ahead of what each of them is.
func TestCheckMany(t *testing.T) {
	for _, many := range [...]int{api.MaxMail + 1, api.MaxMail + 2, 3 * api.MaxMail} {
		for _, l := range [][]api.Mail{reports(many), make([]api.Mail, many), append(reports(many-1), api.Mail{Try: 1, Good: true})} {
			if e := Check(l); e != api.ErrMany {
				t.Errorf("Check of %d = %v, want ErrMany", many, e)
			}
		}
	}
	if e := Check(append(reports(api.MaxMail-1), api.Mail{Try: 1, Good: true})); e != api.ErrForm {
		t.Errorf("Check of as many as may be, the last one wrong = %v, want ErrForm", e)
	}
}

// P9.1: wherever the first wrong one stands, it is its error.
func TestCheckOneByOne(t *testing.T) {
	for _, c := range wrongMail() {
		for _, place := range [...]int{0, 1, 5, api.MaxMail - 1} {
			for _, behind := range wrongMail() {
				l := append(reports(place), c.m)
				if len(l) < api.MaxMail {
					l = append(l, behind.m)
				}
				if e := Check(l); e != c.want {
					t.Errorf("%s, at %d, ahead of %s: Check = %v, want %v", c.what, place, behind.what, e, c.want)
				}
			}
		}
	}
}

// wantOf answers the error that P9.1 asks of one piece of mail, told thing by thing in its order.
func wantOf(m api.Mail) api.Errno {
	if m.Agent < 0 || m.Agent >= 6 || m.Try < 1 || m.Try > 200 {
		return api.ErrRange
	}
	if m.Report {
		if m.R.ID != 0 || len(m.R.Lock) != 0 {
			return api.ErrForm
		}
		return api.OK
	}
	if m.Good {
		return api.ErrForm
	}
	return note.Release(m.R)
}

func gridReleases() []api.Release {
	var all []api.Release
	for _, id := range [...]int{math.MinInt, -1, 0, 1, api.MaxReleases, api.MaxReleases + 1} {
		for _, l := range [][]api.Pin{nil, {}, {{}}, row(1, 1), row(api.MaxPins, api.MaxVersion), row(api.MaxPins+1, 1), row(2, api.MaxVersion+1), {{Name: 3, Version: 1}, {Name: 3, Version: 1}}} {
			all = append(all, api.Release{ID: id, Lock: l})
		}
	}
	return all
}

// eachMail asks of all mail of a grid that has each field at its edges.
func eachMail(ask func(m api.Mail)) {
	releases := gridReleases()
	for _, agent := range [...]int{math.MinInt, -1, 0, 1, api.MaxAgents - 1, api.MaxAgents, math.MaxInt} {
		for _, try := range [...]int{math.MinInt, -1, 0, 1, 2, api.MaxTry, api.MaxTry + 1, math.MaxInt} {
			for _, isReport := range [...]bool{false, true} {
				for _, good := range [...]bool{false, true} {
					for _, r := range releases {
						ask(api.Mail{Agent: agent, Try: try, Report: isReport, Good: good, R: r})
					}
				}
			}
		}
	}
}

// P9.1 and P9.2, of all mail of the grid.
func TestGrid(t *testing.T) {
	right := 0
	eachMail(func(m api.Mail) {
		want := wantOf(m)
		if e := Check([]api.Mail{m}); e != want {
			t.Fatalf("Check(%v) = %v, want %v", m, e, want)
		}
		l, e := Send(nil, m)
		left, got, eTake := Take([]api.Mail{m}, 0, false)
		if e != want || eTake != want {
			t.Fatalf("%v: Send %v, Take %v, want %v", m, e, eTake, want)
		}
		if want != api.OK {
			if l != nil || left != nil || !isZero(got) {
				t.Fatalf("%v: with an error Send %v, Take %v, %v", m, l, left, got)
			}
			return
		}
		right++
		if told(l) != told([]api.Mail{m}) || len(left) != 0 || told(got) != told(m) {
			t.Fatalf("%v: Send %v, Take %v, %v", m, l, left, got)
		}
	})
	if right < 50 {
		t.Errorf("only %d of the grid are right", right)
	}
}

// P9.1: whatever the fields are, one that differs is seen, wherever it stands.
func TestSame(t *testing.T) {
	changes := []func(m *api.Mail){
		func(m *api.Mail) { m.Agent++ },
		func(m *api.Mail) { m.Try++ },
		func(m *api.Mail) { m.Agent, m.Try = m.Agent+1, m.Try-1 },
		func(m *api.Mail) { m.Report = !m.Report },
		func(m *api.Mail) { m.Good = !m.Good },
		func(m *api.Mail) { m.R.ID++ },
		func(m *api.Mail) { m.R.ID, m.Try = m.R.ID+1, m.Try-1 },
		func(m *api.Mail) { m.R.Lock = append(slices.Clone(m.R.Lock), api.Pin{}) },
		func(m *api.Mail) { m.R.Lock = append([]api.Pin{{Name: 1}}, m.R.Lock...) },
	}
	odd := api.Mail{Agent: math.MinInt, Try: math.MaxInt - 1, Report: true, Good: true, R: release(-5, row(400, -3)...)}
	for _, c := range append(allMail(), mailCase{what: "odd", m: odd}) {
		for place := range 3 {
			l := reports(3)
			l[place] = c.m
			if !Same(l, l) || !Same(l, deep(l)) {
				t.Errorf("%s: %v isn't the same as itself", c.what, l)
			}
			for k, change := range changes {
				changed := deep(l)
				change(&changed[place])
				if Same(l, changed) || Same(changed, l) {
					t.Errorf("%s, at %d: change %d isn't seen", c.what, place, k)
				}
			}
		}
	}
	for _, a := range allMail() {
		for _, b := range allMail() {
			if want := told(a.m) == told(b.m); Same([]api.Mail{a.m}, []api.Mail{b.m}) != want {
				t.Errorf("Same(%v, %v) isn't %v", a.m, b.m, want)
			}
		}
	}
}

// P9.1: two lists of other lengths, or in another order, aren't the same.
func TestSameLists(t *testing.T) {
	x, y := report(1, 2, true), order(1, 2, release(2, row(2, 2)...))
	emptyLock := report(1, 2, true)
	emptyLock.R.Lock = []api.Pin{}
	turned := order(1, 2, release(2, api.Pin{Name: 2, Version: 2}, api.Pin{Name: 1, Version: 2}))
	for _, c := range []struct {
		a, b []api.Mail
		want bool
	}{
		{nil, nil, true},
		{nil, []api.Mail{}, true},
		{[]api.Mail{x}, []api.Mail{emptyLock}, true},
		{[]api.Mail{x, y}, []api.Mail{x, y}, true},
		{make([]api.Mail, 400), make([]api.Mail, 400), true},
		{nil, []api.Mail{{}}, false},
		{[]api.Mail{x}, nil, false},
		{[]api.Mail{x, y}, []api.Mail{y, x}, false},
		{[]api.Mail{x, y}, []api.Mail{x}, false},
		{[]api.Mail{x, y}, []api.Mail{y}, false},
		{[]api.Mail{x, x}, []api.Mail{x}, false},
		{[]api.Mail{y}, []api.Mail{turned}, false},
		{make([]api.Mail, 400), make([]api.Mail, 401), false},
	} {
		if Same(c.a, c.b) != c.want || Same(c.b, c.a) != c.want {
			t.Errorf("Same(%v, %v) = %v", c.a, c.b, !c.want)
		}
	}
}

// P9.2: it comes behind all; if there is no room all stays.
func TestSend(t *testing.T) {
	for _, l := range goodLists() {
		for _, c := range goodMail() {
			want := append(deep(l), c.m)
			if len(l) == api.MaxMail {
				want = want[:api.MaxMail]
			}
			got, e := Send(l, c.m)
			if e != api.OK || told(got) != told(want) || !Same(got, want) || Check(got) != api.OK {
				t.Errorf("Send of %s behind %d = %v, %v", c.what, len(l), got, e)
			}
		}
	}
}

// P9.2: what is wrong with the list is told ahead of what is wrong with the mail, and that though there is no room.
func TestSendErrors(t *testing.T) {
	for _, c := range wrongMail() {
		for _, l := range goodLists() {
			if got, e := Send(l, c.m); e != c.want || got != nil {
				t.Errorf("%s, behind %d: Send = %v, %v, want %v", c.what, len(l), got, e, c.want)
			}
		}
		for _, m := range allMail() {
			for _, l := range [][]api.Mail{{c.m}, append(reports(7), c.m), append(reports(api.MaxMail-1), c.m)} {
				if got, e := Send(l, m.m); e != c.want || got != nil {
					t.Errorf("%s, behind it %s: Send = %v, %v, want %v", c.what, m.what, got, e, c.want)
				}
			}
		}
	}
	for _, m := range allMail() {
		if got, e := Send(reports(api.MaxMail+1), m.m); e != api.ErrMany || got != nil {
			t.Errorf("%s, behind too many: Send = %v, %v, want ErrMany", m.what, got, e)
		}
	}
}

// P9.2: each one may be taken; the others stay, in their order, or all do.
func TestTake(t *testing.T) {
	for _, l := range goodLists() {
		for k := range l {
			var others []api.Mail
			for i, m := range l {
				if i != k {
					others = append(others, m)
				}
			}
			left, m, e := Take(l, k, false)
			if e != api.OK || told(left) != told(others) || !Same(left, others) || told(m) != told(l[k]) {
				t.Errorf("Take of %d of %d = %v, %v, %v", k, len(l), left, m, e)
			}
			left, m, e = Take(l, k, true)
			if e != api.OK || told(left) != told(l) || !Same(left, l) || told(m) != told(l[k]) {
				t.Errorf("Take of %d of %d, twice = %v, %v, %v", k, len(l), left, m, e)
			}
		}
	}
}

// P9.2: where there is no such one; the spare room behind the list isn't mail.
func TestTakeNone(t *testing.T) {
	for _, l := range append(goodLists(), reports(9)[:4], reports(9)[:0]) {
		for _, k := range [...]int{math.MinInt, -1, len(l), len(l) + 1, api.MaxMail, math.MaxInt} {
			for _, twice := range [...]bool{false, true} {
				if left, m, e := Take(l, k, twice); e != api.ErrWho || left != nil || !isZero(m) {
					t.Errorf("Take of %d of %d = %v, %v, %v, want ErrWho", k, len(l), left, m, e)
				}
			}
		}
	}
}

// P9.2: what is wrong with the list is told first, whichever one is taken.
func TestTakeErrors(t *testing.T) {
	lists := []struct {
		l    []api.Mail
		want api.Errno
	}{
		{reports(api.MaxMail + 1), api.ErrMany},
		{make([]api.Mail, api.MaxMail+1), api.ErrMany},
	}
	for _, c := range wrongMail() {
		for _, place := range [...]int{0, 3, api.MaxMail - 1} {
			lists = append(lists, struct {
				l    []api.Mail
				want api.Errno
			}{append(reports(place), c.m), c.want})
		}
	}
	for _, c := range lists {
		for _, k := range [...]int{math.MinInt, -1, 0, len(c.l) - 1, len(c.l), math.MaxInt} {
			for _, twice := range [...]bool{false, true} {
				if left, m, e := Take(c.l, k, twice); e != c.want || left != nil || !isZero(m) {
					t.Errorf("Take of %d of %d = %v, %v, %v, want %v", k, len(c.l), left, m, e, c.want)
				}
			}
		}
	}
}

// histories goes on with each thing that may happen, so many times, and holds the mail against the tries that are on their way.
func histories(t *testing.T, l []api.Mail, tries []int, more int) {
	t.Helper()
	var got []int
	for _, m := range l {
		got = append(got, m.Try)
	}
	if !slices.Equal(got, tries) || Check(l) != api.OK {
		t.Fatalf("on their way are %v, want %v", got, tries)
	}
	if more == 0 {
		return
	}
	sent, e := Send(l, order(more%api.MaxAgents, more, release(1, row(more, 1)...)))
	if e != api.OK {
		t.Fatalf("Send: %v", e)
	}
	histories(t, sent, append(slices.Clone(tries), more), more-1)
	for k, try := range tries {
		for _, twice := range [...]bool{false, true} {
			left, m, e := Take(l, k, twice)
			if e != api.OK || told(m) != told(order(try%api.MaxAgents, try, release(1, row(try, 1)...))) {
				t.Fatalf("Take of %d of %v: %v, %v", k, tries, m, e)
			}
			then := slices.Clone(tries)
			if !twice {
				then = slices.Delete(then, k, k+1)
			}
			histories(t, left, then, more-1)
		}
	}
}

// P9.2, from no mail on, whatever happens.
func TestHistories(t *testing.T) { histories(t, nil, nil, 7) }

// spare are a pin and mail that lie in spare room.
var spare = api.Pin{Name: 77, Version: 78}

func spareMail() api.Mail { return order(66, 67, release(68, spare)) }

// memory of what is handed in: all lists of it, with their spare room.
type memory struct {
	pins [][]api.Pin
	mail []api.Mail
}

// one copies m so that its lock has spare room behind it.
func (x *memory) one(m api.Mail) api.Mail {
	all := append(slices.Clone(m.R.Lock), spare, spare, spare)
	x.pins = append(x.pins, all)
	m.R.Lock = all[:len(m.R.Lock)]
	return m
}

// list copies l so that it, and each lock of it, has spare room behind it.
func (x *memory) list(l []api.Mail) []api.Mail {
	x.mail = nil
	for _, m := range append(slices.Clone(l), spareMail(), spareMail(), spareMail()) {
		x.mail = append(x.mail, x.one(m))
	}
	return x.mail[:len(l)]
}

func (x *memory) told() string { return told(x.pins) + told(x.mail) }

// fill writes over all of it.
func (x *memory) fill() {
	for _, l := range x.pins {
		fillPins(l)
	}
	clear(x.mail)
}

// fillPins writes over a lock, and the spare room behind it.
func fillPins(l []api.Pin) {
	l = l[:cap(l)]
	for k := range l {
		l[k] = api.Pin{Name: -1, Version: -1}
	}
}

// fillMail writes over an answer, lock by lock, and tells whether one of them showed in another one, or in m.
func fillMail(l []api.Mail, m api.Mail) (shared bool) {
	pieces := append(slices.Clone(l), m)
	for k := range pieces {
		before := told(pieces[k+1:])
		fillPins(pieces[k].R.Lock)
		shared = shared || told(pieces[k+1:]) != before
	}
	clear(l[:cap(l)])
	return shared
}

type answer struct {
	l []api.Mail
	m api.Mail
}

// answers are all that the calls make of l, and of m.
func answers(l []api.Mail, m api.Mail) []answer {
	sent, _ := Send(l, m)
	all := []answer{{l: sent}}
	for _, k := range [...]int{0, len(l) / 2, len(l) - 1} {
		for _, twice := range [...]bool{false, true} {
			left, taken, _ := Take(l, k, twice)
			all = append(all, answer{left, taken})
		}
	}
	return all
}

// P2 of 'What holds everywhere': nothing that is handed in is changed, nor the room behind it, and no answer shares memory with it, or with itself.
func TestMemory(t *testing.T) {
	lists := [][]api.Mail{reports(api.MaxMail + 1)}
	for _, l := range goodLists() {
		if len(l) < 5 || len(l) >= api.MaxMail-1 { // those between are no other case, and take long
			lists = append(lists, l)
		}
	}
	for _, c := range wrongMail() {
		lists = append(lists, append(reports(2), c.m))
	}
	for _, given := range lists {
		for _, c := range allMail() {
			x := &memory{}
			l, m := x.list(given), x.one(c.m)
			was := x.told()
			Check(l)
			Same(l, l)
			first, second := answers(l, m), answers(l, m)
			for k, a := range first {
				if fillMail(a.l, a.m) {
					t.Errorf("%s, %d: lists of answer %d share memory", c.what, len(l), k)
				}
			}
			if x.told() != was {
				t.Errorf("%s, %d: what was handed in was changed", c.what, len(l))
			}
			kept := told(second)
			x.fill()
			if told(second) != kept {
				t.Errorf("%s, %d: an answer has memory of what was handed in", c.what, len(l))
			}
		}
	}
}

// P2: what is handed in may share memory with itself.
func TestMemoryShared(t *testing.T) {
	pins := row(6, 1)
	l := []api.Mail{order(1, 2, release(2, pins[:3]...)), order(1, 2, release(2, pins[:3]...)), order(2, 3, release(3, pins[1:4]...)), report(1, 1, true)}
	was := told(l)
	for _, m := range l {
		for k, a := range answers(l[:3], m) {
			if fillMail(a.l, a.m) {
				t.Errorf("lists of answer %d share memory", k)
			}
			if told(l) != was || !slices.Equal(pins, row(6, 1)) {
				t.Fatalf("answer %d changed what was handed in: %v", k, l)
			}
		}
	}
}
