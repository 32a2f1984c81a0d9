package wave

import (
	"math"
	"slices"
	"testing"

	"vanguard/api"
)

// alone are so many waves, of one agent each, in order.
func alone(agents int) [][]int {
	var l [][]int
	for agent := range agents {
		l = append(l, []int{agent})
	}
	return l
}

// together is one wave of so many agents.
func together(agents int) [][]int { return [][]int{slices.Concat(alone(agents)...)} }

// copied shares no memory with l.
func copied(l [][]int) [][]int {
	var all [][]int
	for _, members := range l {
		all = append(all, slices.Clone(members))
	}
	return all
}

func sameWaves(a, b [][]int) bool { return slices.EqualFunc(a, b, slices.Equal[[]int]) }

type checkCase struct {
	what   string
	l      [][]int
	agents int
	want   api.Errno
}

func goodWaves() []checkCase {
	return []checkCase{
		{"one agent", [][]int{{0}}, 1, api.OK},
		{"two in one wave", [][]int{{0, 1}}, 2, api.OK},
		{"two in one wave, falling", [][]int{{1, 0}}, 2, api.OK},
		{"two waves, the last agent first", [][]int{{1}, {0}}, 2, api.OK},
		{"a wave of one, a wave of two", [][]int{{0}, {1, 2}}, 3, api.OK},
		{"mixed", [][]int{{4, 1}, {0}, {5, 2, 3}}, api.MaxAgents, api.OK},
		{"as many agents as may be, alone", alone(api.MaxAgents), api.MaxAgents, api.OK},
		{"as many agents as may be, together", together(api.MaxAgents), api.MaxAgents, api.OK},
	}
}

func wrongWaves() []checkCase {
	all := []checkCase{
		{"no waves", nil, 1, api.ErrForm},
		{"empty waves", [][]int{}, api.MaxAgents, api.ErrForm},
		{"a wave of nobody", [][]int{nil}, 1, api.ErrForm},
		{"an empty wave behind all", [][]int{{0}, {}}, 1, api.ErrForm},
		{"a wave of nobody between", [][]int{{0}, nil, {1}}, 2, api.ErrForm},
		{"a wave of nobody ahead of all", [][]int{{}, {0, 1}}, 2, api.ErrForm},
		{"the first one stands in none", [][]int{{1}, {2}}, 3, api.ErrForm},
		{"the last one stands in none", [][]int{{1}, {0}}, 3, api.ErrForm},
		{"one between stands in none", [][]int{{2, 0}}, 3, api.ErrForm},
		{"one of as many as may be stands in none", alone(api.MaxAgents - 1), api.MaxAgents, api.ErrForm},
		{"the one behind the last", [][]int{{0, 1}}, 1, api.ErrWho},
		{"the one behind as many as may be", alone(api.MaxAgents + 1), api.MaxAgents, api.ErrWho},
		{"twice in one wave", [][]int{{0, 0}}, 1, api.ErrTwice},
		{"twice in one wave, with one between", [][]int{{1, 0, 1}}, 2, api.ErrTwice},
		{"in two waves", [][]int{{0}, {0}}, 1, api.ErrTwice},
		{"in two waves, with one between", [][]int{{0}, {1}, {0}}, 2, api.ErrTwice},
		{"all, and all again", append(alone(api.MaxAgents), alone(api.MaxAgents)...), api.MaxAgents, api.ErrTwice},
		// which error comes first
		{"who ahead of twice, of one agent", [][]int{{0}, {7, 7}}, 1, api.ErrWho},
		{"who, then twice", [][]int{{9, 0, 0}}, 1, api.ErrWho},
		{"twice, then who", [][]int{{0, 0, 9}}, 1, api.ErrTwice},
		{"twice, then who in the next wave", [][]int{{0, 0}, {9}}, 1, api.ErrTwice},
		{"who, then a wave of nobody", [][]int{{9}, {}}, 1, api.ErrWho},
		{"twice, then a wave of nobody", [][]int{{0, 0}, {}}, 1, api.ErrTwice},
		{"a wave of nobody, then who", [][]int{{}, {9}}, 1, api.ErrForm},
		{"a wave of nobody, then twice", [][]int{{0}, {}, {0}}, 1, api.ErrForm},
		{"who ahead of somebody in none", [][]int{{1}, {9}}, 2, api.ErrWho},
		{"twice ahead of somebody in none", [][]int{{1}, {1}}, 2, api.ErrTwice},
		{"as many members as agents, one of them twice", [][]int{{0, 2}, {2}}, 3, api.ErrTwice},
		{"as many members as agents, one of them another", [][]int{{0, 3}, {2}}, 3, api.ErrWho},
	}
	for _, n := range [...]int{math.MinInt, -1, 2, api.MaxAgents, math.MaxInt} {
		all = append(all,
			checkCase{"no such agent", [][]int{{0, n}, {1}}, 2, api.ErrWho},
			checkCase{"no such agent, behind all", [][]int{{0}, {1, n}}, 2, api.ErrWho})
	}
	return all
}

// wrongCounts are of waves with every other wrong, for the number of agents is told first.
func wrongCounts() []checkCase {
	var all []checkCase
	for _, agents := range [...]int{math.MinInt, -1, 0, api.MaxAgents + 1, math.MaxInt} {
		for _, l := range [][][]int{nil, {}, {nil}, {{0}}, {{0, 0}}, {{-1}}, {{99}}, alone(api.MaxAgents), alone(api.MaxAgents + 1)} {
			all = append(all, checkCase{"so many agents may not be", l, agents, api.ErrRange})
		}
	}
	return all
}

func allCases() []checkCase { return slices.Concat(goodWaves(), wrongWaves(), wrongCounts()) }

// P4.1
func TestCheck(t *testing.T) {
	for _, c := range allCases() {
		if e := Check(c.l, c.agents); e != c.want {
			t.Errorf("%s: Check(%v, %d) = %v, want %v", c.what, c.l, c.agents, e, c.want)
		}
	}
}

// P4.1: each number of agents, from none to too many, asked of the waves of each other number.
func TestCheckCounts(t *testing.T) {
	for had := 1; had <= api.MaxAgents+2; had++ {
		for agents := -1; agents <= api.MaxAgents+2; agents++ {
			want := api.OK
			switch {
			case agents < 1 || agents > api.MaxAgents:
				want = api.ErrRange
			case had > agents:
				want = api.ErrWho
			case had < agents:
				want = api.ErrForm
			}
			for _, l := range [][][]int{alone(had), together(had)} {
				if e := Check(l, agents); e != want {
					t.Errorf("Check(%v, %d) = %v, want %v", l, agents, e, want)
				}
			}
		}
	}
}

// P4.1: of any lists, not only of waves that Check takes.
func TestOf(t *testing.T) {
	l := [][]int{{1}, {2, 0}}
	odd := [][]int{nil, {7, -3}, {}, {7, 7, math.MaxInt}, {math.MinInt, -3, 5}}
	for _, c := range []struct {
		l           [][]int
		agent, want int
	}{
		{nil, 0, -1}, {[][]int{}, 0, -1}, {[][]int{nil}, 0, -1}, {[][]int{{}}, -1, -1},
		{l, 1, 0}, {l, 2, 1}, {l, 0, 1},
		{l, 3, -1}, {l, -1, -1}, {l, math.MinInt, -1}, {l, math.MaxInt, -1},
		{odd, 7, 1}, {odd, -3, 1}, {odd, math.MaxInt, 3}, {odd, math.MinInt, 4}, {odd, 5, 4}, {odd, 0, -1}, {odd, 3, -1},
		{alone(400), 399, 399}, {alone(400), 400, -1}, {together(400), 399, 0},
	} {
		if k := Of(c.l, c.agent); k != c.want {
			t.Errorf("Of(%v, %d) = %d, want %d", c.l, c.agent, k, c.want)
		}
	}
}

// P4.2
func TestNow(t *testing.T) {
	const yes, no = true, false
	l := [][]int{{1}, {2, 0}}
	most := [][]int{{4, 1}, {0}, {5, 2, 3}}
	for _, c := range []struct {
		l       [][]int
		through []bool
		want    int
	}{
		{[][]int{{0}}, []bool{no}, 0},
		{[][]int{{0}}, []bool{yes}, 1},
		{l, []bool{no, no, no}, 0},
		{l, []bool{no, yes, no}, 1},
		{l, []bool{yes, yes, no}, 1},
		{l, []bool{no, yes, yes}, 1},
		{l, []bool{yes, yes, yes}, 2},
		// who is through in a later wave doesn't count for an earlier one
		{l, []bool{yes, no, yes}, 0},
		{l, []bool{yes, no, no}, 0},
		{[][]int{{1, 0}}, []bool{yes, no}, 0},
		{[][]int{{1, 0}}, []bool{no, yes}, 0},
		{[][]int{{1, 0}}, []bool{yes, yes}, 1},
		{most, []bool{no, no, no, no, no, no}, 0},
		{most, []bool{no, yes, no, no, yes, no}, 1},
		{most, []bool{yes, yes, no, no, yes, no}, 2},
		{most, []bool{yes, yes, yes, no, yes, yes}, 2},
		{most, []bool{yes, yes, yes, yes, no, yes}, 0},
		{most, []bool{yes, yes, yes, yes, yes, yes}, 3},
		{alone(api.MaxAgents), []bool{yes, yes, yes, yes, yes, no}, 5},
		{alone(api.MaxAgents), []bool{yes, yes, yes, yes, yes, yes}, 6},
		{together(api.MaxAgents), []bool{yes, yes, yes, yes, yes, no}, 0},
		{together(api.MaxAgents), []bool{yes, yes, yes, yes, yes, yes}, 1},
	} {
		if k, e := Now(c.l, c.through); k != c.want || e != api.OK {
			t.Errorf("Now(%v, %v) = %d, %v, want %d", c.l, c.through, k, e, c.want)
		}
	}
}

// P4.2: Check's error, with no number beside it, whoever is through; through itself may be too short, or too long.
func TestNowChecks(t *testing.T) {
	for _, c := range allCases() {
		if c.agents < 0 || c.agents > 1000 { // no list is so long
			continue
		}
		for _, all := range [...]bool{false, true} {
			k, e := Now(c.l, slices.Repeat([]bool{all}, c.agents))
			if e != c.want || e != api.OK && k != 0 {
				t.Errorf("%s: Now(%v, %d times %v) = %d, %v, want %v", c.what, c.l, c.agents, all, k, e, c.want)
			}
		}
	}
	if k, e := Now(alone(1), nil); k != 0 || e != api.ErrRange {
		t.Errorf("Now of nobody at all: %d, %v", k, e)
	}
	if k, e := Now(alone(1000), make([]bool, 1000)); k != 0 || e != api.ErrRange {
		t.Errorf("Now of too many: %d, %v", k, e)
	}
}

// wantedCheck says what P4.1 says, by its words: all that is wrong, in the order in which it is told, and the first of it.
func wantedCheck(l [][]int, agents int) api.Errno {
	var wrong []api.Errno
	if agents < 1 || agents > api.MaxAgents {
		wrong = append(wrong, api.ErrRange)
	}
	var ahead []int
	for _, members := range l {
		if len(members) == 0 {
			wrong = append(wrong, api.ErrForm)
		}
		for _, agent := range members {
			if agent < 0 || agent >= agents {
				wrong = append(wrong, api.ErrWho)
			}
			if slices.Contains(ahead, agent) {
				wrong = append(wrong, api.ErrTwice)
			}
			ahead = append(ahead, agent)
		}
	}
	for agent := range max(0, agents) {
		if !slices.Contains(ahead, agent) {
			wrong = append(wrong, api.ErrForm)
		}
	}
	return append(wrong, api.OK)[0]
}

// wantedNow goes from the last wave to the first one, so that the first one in which somebody waits is left.
func wantedNow(l [][]int, through []bool) int {
	k := len(l)
	for i := range l {
		wave := len(l) - 1 - i
		for _, agent := range l[wave] {
			if !through[agent] {
				k = wave
			}
		}
	}
	return k
}

// checkAll holds all calls of these waves against the words of the chapter, for everybody who can be through.
func checkAll(t *testing.T, l [][]int, agents int) {
	t.Helper()
	want := wantedCheck(l, agents)
	if e := Check(l, agents); e != want {
		t.Fatalf("Check(%v, %d) = %v, want %v", l, agents, e, want)
	}
	for mask := range 1 << max(0, agents) {
		through := make([]bool, agents)
		for agent := range through {
			through[agent] = mask>>agent&1 == 1
		}
		number := 0
		if want == api.OK {
			number = wantedNow(l, through)
		}
		if k, e := Now(l, through); k != number || e != want {
			t.Fatalf("Now(%v, %v) = %d, %v, want %d, %v", l, through, k, e, number, want)
		}
	}
}

// P4.1 and P4.2, of all lists of few waves and members, wrong ones among them, for each small number of agents.
func TestEveryShortList(t *testing.T) {
	var ask func(l [][]int, left int)
	ask = func(l [][]int, left int) {
		for agents := range 4 {
			checkAll(t, l, agents)
		}
		if left == 0 {
			return
		}
		ask(append(copied(l), nil), left-1)
		for agent := -1; agent <= 3 && len(l) > 0; agent++ {
			more := copied(l)
			more[len(l)-1] = append(more[len(l)-1], agent)
			ask(more, left-1)
		}
	}
	ask(nil, 6)
}

// P4.1 and P4.2, of all ways to lay as many agents as may be in waves (within a wave by rising numbers; TestEveryShortList has other orders).
func TestEveryWayToLay(t *testing.T) {
	var lay func(l [][]int, agent int)
	lay = func(l [][]int, agent int) {
		if agent == api.MaxAgents {
			checkAll(t, l, api.MaxAgents)
			for wave, members := range l {
				for _, a := range members {
					if k := Of(l, a); k != wave {
						t.Fatalf("Of(%v, %d) = %d, want %d", l, a, k, wave)
					}
				}
			}
			return
		}
		for wave := range l {
			more := copied(l)
			more[wave] = append(more[wave], agent)
			lay(more, agent+1)
		}
		for place := range len(l) + 1 {
			lay(slices.Insert(copied(l), place, []int{agent}), agent+1)
		}
	}
	lay(nil, 0)
}

// P1 of 'What holds everywhere': every call ends soon, of lists far beyond all limits, too.
func TestLong(t *testing.T) {
	const many = 100000
	for _, l := range [][][]int{alone(many), together(many), make([][]int, many), {make([]int, many)}, slices.Repeat([][]int{{0}}, many)} {
		if e, want := Check(l, api.MaxAgents), wantedCheck(shortened(l), api.MaxAgents); e != want {
			t.Errorf("Check of %d waves = %v, want %v", len(l), e, want)
		}
		if k := Of(l, many); k != -1 {
			t.Errorf("Of %d waves = %d", len(l), k)
		}
	}
}

// shortened leaves enough of l that the first wrong is among it.
func shortened(l [][]int) [][]int {
	var all [][]int
	for _, members := range l[:min(len(l), 20)] {
		all = append(all, members[:min(len(members), 20)])
	}
	return all
}

// P2 of 'What holds everywhere': what is handed in stays as it is, with the room behind it.
func TestMemory(t *testing.T) {
	for _, c := range allCases() {
		room := copied(c.l)
		for k := range room {
			room[k] = append(room[k], 77, 78)
		}
		room = append(room, []int{79}, nil)
		before := copied(room)
		given := slices.Clone(room)
		for k := range c.l {
			given[k] = room[k][:len(c.l[k])]
		}
		givenBefore := copied(given)
		throughRoom := slices.Repeat([]bool{true, false}, api.MaxAgents)
		throughBefore := slices.Clone(throughRoom)
		Check(given[:len(c.l)], c.agents)
		Of(given[:len(c.l)], 0)
		for n := range throughRoom {
			Now(given[:len(c.l)], throughRoom[:n])
		}
		if !sameWaves(room, before) || !sameWaves(given, givenBefore) || !slices.Equal(throughRoom, throughBefore) {
			t.Errorf("%s: %v became %v", c.what, before, room)
		}
	}
}

// What a call answers hangs on its arguments alone: asked again, behind calls of others, it is the same.
func TestAgain(t *testing.T) {
	for _, c := range allCases() {
		for _, other := range allCases() {
			Check(other.l, other.agents)
			if e := Check(c.l, c.agents); e != c.want {
				t.Fatalf("%s, behind %s: %v, want %v", c.what, other.what, e, c.want)
			}
		}
	}
}
