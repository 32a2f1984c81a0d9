package disk

import (
	"bytes"
	"math"
	"slices"
	"strings"
	"testing"

	"vanguard/api"
	"vanguard/note"
)

// Lines of records, as they are written.
const (
	begin = "1 0 7 0 0 2 =3@4,5@6\n"
	done  = "3 0 7 0 1 0 =\n"
	got   = "7 5 200 0 1 0 =\n"
	back  = "8 0 0 0 0 0 =\n"
	end   = "9 0 0 0 0 0 =\n"
)

// backs are so many lines of a record.
func backs(n int) string { return strings.Repeat(back, n) }

func diskOf(safe, wait string) api.Disk { return api.Disk{Safe: []byte(safe), Wait: []byte(wait)} }

// isDisk holds byte against byte, an empty list like none.
func isDisk(d api.Disk, safe, wait string) bool {
	return string(d.Safe) == safe && string(d.Wait) == wait
}

func isZero(d api.Disk) bool { return d.Safe == nil && d.Wait == nil }

// short is a disk for a message: long texts are cut.
func short(d api.Disk) string {
	cut := func(b []byte) string { return string(b[:min(len(b), 60)]) }
	return cut(d.Safe) + " | " + cut(d.Wait)
}

// recOf is the record that a line of this file is.
func recOf(t *testing.T, line string) api.Rec {
	t.Helper()
	r, e := note.Parse(strings.TrimSuffix(line, "\n"))
	if e != api.OK {
		t.Fatalf("%q is no line of a record: %v", line, e)
	}
	return r
}

// areLines tells whether l are the records of these lines, one after the other.
func areLines(t *testing.T, l []api.Rec, lines string) bool {
	t.Helper()
	var want []api.Rec
	for _, line := range strings.SplitAfter(lines, "\n") {
		if line != "" { // there is an empty one behind the last line feed
			want = append(want, recOf(t, line))
		}
	}
	return slices.EqualFunc(l, want, note.Same)
}

type diskCase struct {
	what       string
	safe, wait string
	want       api.Errno
}

func goodDisks() []diskCase {
	return []diskCase{
		{"nothing", "", "", api.OK},
		{"one line", back, "", api.OK},
		{"one line waits", "", back, api.OK},
		{"lines of each log", begin + done + got + back + end, begin + end, api.OK},
		{"as many lines as may be", backs(api.MaxLog), "", api.OK},
		{"as many lines as may be, more wait", backs(api.MaxLog), backs(3), api.OK},
		{"one less, more wait", backs(api.MaxLog - 1), end + back, api.OK},
		{"too many wait", "", backs(api.MaxLog + 1), api.OK},
		{"torn in what waits", back, end[:4], api.OK},
		{"torn at the end of what waits", back, end + done + got[:len(got)-1], api.OK},
		{"no record waits", back, "x\n" + back, api.OK},
		{"no record waits behind one", back, end + "x\n" + end, api.OK},
		{"an empty line waits", back, "\n" + back, api.OK},
		{"an empty line waits behind one", back, end + "\n", api.OK},
		{"a record that may not be waits", back, end + "2 0 0 0 0 0 =\n" + end, api.OK},
		{"any bytes wait", end, "\x00\xff\r\né", api.OK},
		{"a line ends in a carriage return in what waits", end, back + "8 0 0 0 0 0 =\r\n" + back, api.OK},
		{"as many bytes as may be wait", "", strings.Repeat("x", api.MaxText), api.OK},
		{"as many bytes as may be in all", back + end, strings.Repeat("\n", api.MaxText-len(back+end)), api.OK},
	}
}

func wrongDisks() []diskCase {
	pins := strings.Join(slices.Repeat([]string{"1@1"}, api.MaxPins+1), ",")
	full := backs(api.MaxLog)
	return []diskCase{
		{"one byte too many waits", "", strings.Repeat("x", api.MaxText+1), api.ErrMany},
		{"one byte too many is safe", strings.Repeat("\n", api.MaxText+1), "", api.ErrMany},
		{"one byte too many in all", back, strings.Repeat("x", api.MaxText-len(back)+1), api.ErrMany},
		{"one byte too many behind what is safe", strings.Repeat("x", api.MaxText), "x", api.ErrMany},
		{"very many", strings.Repeat("x", 1<<20), strings.Repeat("\n", 1<<20), api.ErrMany},
		{"torn at once", back[:1], "", api.ErrTorn},
		{"torn, all but the line feed", back[:len(back)-1], "", api.ErrTorn},
		{"torn in the second", back + end[:5], "", api.ErrTorn},
		{"torn, but what waits makes it whole", back[:5], back[5:], api.ErrTorn},
		{"torn, but the line feed waits", back[:len(back)-1], "\n", api.ErrTorn},
		{"an empty line", "\n", "", api.ErrText},
		{"an empty line behind one", back + "\n", "", api.ErrText},
		{"no record", "x\n", "", api.ErrText},
		{"no record behind one", back + "x\n" + back, "", api.ErrText},
		{"a carriage return", "8 0 0 0 0 0 =\r\n", "", api.ErrText},
		{"a blank ahead", " " + back, "", api.ErrText},
		{"two records in a line", back[:len(back)-1] + end, "", api.ErrText},
		{"no kind", "0 0 0 0 0 0 =\n", "", api.ErrForm},
		{"something without a use", back + "8 1 0 0 0 0 =\n", "", api.ErrForm},
		{"no try", "2 0 0 0 0 0 =\n", "", api.ErrRange},
		{"twice in the lock", "4 0 0 0 0 1 =3@1,3@1\n", "", api.ErrTwice},
		{"too many pins", "4 0 0 0 0 1 =" + pins + "\n", "", api.ErrMany},
		{"one line too many", full + end, "", api.ErrMany},
		{"many lines too many", backs(3 * api.MaxLog), "", api.ErrMany},
		{"a line as long as may be", strings.Repeat("x", api.MaxText-1) + "\n", "", api.ErrText},
		// which error comes first
		{"bytes ahead of torn", strings.Repeat("x", api.MaxText+1), "", api.ErrMany},
		{"bytes ahead of no record", "x\n", strings.Repeat("x", api.MaxText), api.ErrMany},
		{"torn ahead of no record", "x", "", api.ErrTorn},
		{"torn as long as may be", strings.Repeat("x", api.MaxText), "", api.ErrTorn},
		{"torn ahead of a record that may not be", "2 0 0 0 0 0 =", "", api.ErrTorn},
		{"no record ahead of torn behind it", "x\n" + back[:5], "", api.ErrText},
		{"range ahead of torn behind it", "2 0 0 0 0 0 =\n8", "", api.ErrRange},
		{"the first of two wrong lines", back + "2 0 0 0 0 0 =\nx\n", "", api.ErrRange},
		{"the first of two wrong lines, the other way round", back + "x\n2 0 0 0 0 0 =\n", "", api.ErrText},
		{"torn ahead of a line too many", full + back[:5], "", api.ErrTorn},
		{"no record ahead of a line too many", full + "x\n", "", api.ErrText},
		{"range ahead of a line too many", full + "2 0 0 0 0 0 =\n", "", api.ErrRange},
		{"a line too many ahead of torn behind it", full + back + back[:5], "", api.ErrMany},
		{"a line too many ahead of no record behind it", full + back + "x\n", "", api.ErrMany},
		{"no record ahead of a line too many behind it", "x\n" + full, "", api.ErrText},
	}
}

func allDisks() []diskCase { return append(goodDisks(), wrongDisks()...) }

// P6.1
func TestCheck(t *testing.T) {
	for _, c := range allDisks() {
		if e := Check(diskOf(c.safe, c.wait)); e != c.want {
			t.Errorf("%s: Check = %v, want %v", c.what, e, c.want)
		}
	}
	if e := Check(api.Disk{}); e != api.OK {
		t.Errorf("Check of nothing = %v", e)
	}
}

// P6.1: the others say Check's error first, whatever else is wrong.
func TestCheckFirst(t *testing.T) {
	for _, c := range wrongDisks() {
		d := diskOf(c.safe, c.wait)
		for _, r := range []api.Rec{{Kind: api.LBack}, {}, {Kind: api.AStep}, {Kind: api.LPublish, R: api.Release{ID: 1, Lock: make([]api.Pin, 40)}}} {
			if x, e := Put(d, r); e != c.want || !isZero(x) {
				t.Errorf("%s: Put(%v) = %q, %v, want %v", c.what, r, short(x), e, c.want)
			}
		}
		for _, n := range [...]int{math.MinInt, -1, 0, len(c.wait), len(c.wait) + 1, math.MaxInt} {
			if x, e := Crash(d, n); e != c.want || !isZero(x) {
				t.Errorf("%s: Crash(%d) = %q, %v, want %v", c.what, n, short(x), e, c.want)
			}
		}
		if x, e := Sync(d); e != c.want || !isZero(x) {
			t.Errorf("%s: Sync = %q, %v, want %v", c.what, short(x), e, c.want)
		}
		if x, l, e := Recover(d); e != c.want || !isZero(x) || l != nil {
			t.Errorf("%s: Recover = %q, %v, %v, want %v", c.what, short(x), l, e, c.want)
		}
	}
}

// P6.1: whatever the bytes are, one that differs is seen.
func TestSame(t *testing.T) {
	cases := allDisks()
	for i, a := range cases {
		for k, b := range cases {
			want := a.safe == b.safe && a.wait == b.wait
			if Same(diskOf(a.safe, a.wait), diskOf(b.safe, b.wait)) != want {
				t.Errorf("Same of disks %d and %d (%s, %s) isn't %v", i, k, a.what, b.what, want)
			}
		}
	}
	none, empty := api.Disk{}, api.Disk{Safe: []byte{}, Wait: []byte{}}
	for _, c := range []struct {
		a, b api.Disk
		want bool
	}{
		{none, empty, true},
		{none, api.Disk{Wait: []byte{}}, true},
		{diskOf("x", ""), api.Disk{Safe: []byte("x")}, true},
		{diskOf("x", ""), diskOf("", "x"), false},
		{diskOf("xy", "z"), diskOf("x", "yz"), false},
		{diskOf("x", "y"), diskOf("y", "x"), false},
		{diskOf("x", "x"), diskOf("x", "x\n"), false},
		{diskOf("x", "x"), diskOf("X", "x"), false},
		{diskOf("x", "x"), diskOf("x", "X"), false},
		{diskOf(back, ""), none, false},
		{diskOf("\x00", ""), none, false},
		{diskOf("", "\x00"), none, false},
	} {
		if Same(c.a, c.b) != c.want || Same(c.b, c.a) != c.want {
			t.Errorf("Same(%q, %q) = %v", short(c.a), short(c.b), !c.want)
		}
	}
}

// P6.2: a record goes behind what waits, whatever that is; what is safe stays.
func TestPut(t *testing.T) {
	for _, c := range goodDisks() {
		for _, line := range [...]string{begin, done, got, back, end} {
			want, wait := api.OK, c.wait+line
			if len(c.safe)+len(wait) > api.MaxText {
				want = api.ErrMany
			}
			d, e := Put(diskOf(c.safe, c.wait), recOf(t, line))
			if e != want || e == api.OK && !isDisk(d, c.safe, wait) || e != api.OK && !isZero(d) {
				t.Errorf("%s: Put of %q = %q, %v, want %v", c.what, line, short(d), e, want)
			}
		}
	}
}

// P6.2: how many bytes there may be, with the line feed, in Safe and Wait together.
func TestPutAtTheLimit(t *testing.T) {
	for _, safe := range [...]string{"", back, backs(api.MaxLog)} {
		for _, line := range [...]string{begin, back} {
			room := api.MaxText - len(safe) - len(line)
			wait := strings.Repeat("x", room)
			if d, e := Put(diskOf(safe, wait), recOf(t, line)); e != api.OK || !isDisk(d, safe, wait+line) {
				t.Errorf("Put of %q with room for it: %v", line, e)
			}
			for _, more := range [...]int{1, len(line) - 1, len(line)} {
				if d, e := Put(diskOf(safe, wait+strings.Repeat("x", more)), recOf(t, line)); e != api.ErrMany || !isZero(d) {
					t.Errorf("Put of %q, %d bytes too many: %v, want ErrMany", line, more, e)
				}
			}
		}
	}
}

// P6.2: of what is no record chapter 5's error is told, ahead of how many bytes there are.
func TestPutNoRecord(t *testing.T) {
	twice := []api.Pin{{Name: 3, Version: 1}, {Name: 3, Version: 1}}
	for _, c := range []struct {
		r    api.Rec
		want api.Errno
	}{
		{api.Rec{}, api.ErrForm},
		{api.Rec{Kind: api.LEnd + 1}, api.ErrForm},
		{api.Rec{Kind: api.LBack, Good: true}, api.ErrForm},
		{api.Rec{Kind: api.AStep}, api.ErrRange},
		{api.Rec{Kind: api.LSend, Agent: api.MaxAgents, Try: 1}, api.ErrRange},
		{api.Rec{Kind: api.LPublish, R: api.Release{ID: 1, Lock: twice}}, api.ErrTwice},
		{api.Rec{Kind: api.LPublish, R: api.Release{ID: 1, Lock: make([]api.Pin, api.MaxPins+1)}}, api.ErrMany},
	} {
		for _, wait := range [...]string{"", end, strings.Repeat("x", api.MaxText-len(back))} {
			if d, e := Put(diskOf(back, wait), c.r); e != c.want || !isZero(d) {
				t.Errorf("Put(%v) = %q, %v, want %v", c.r, short(d), e, c.want)
			}
		}
	}
}

// P6.2
func TestSync(t *testing.T) {
	full := backs(api.MaxLog)
	for _, c := range []diskCase{
		{"nothing", "", "", api.OK},
		{"nothing waits", back, "", api.OK},
		{"one waits", "", back, api.OK},
		{"one behind another one", back, end, api.OK},
		{"some behind some", begin + done, got + back + end, api.OK},
		{"up to as many as may be", backs(api.MaxLog - 2), end + back, api.OK},
		{"all at once", "", full, api.OK},
		{"nothing behind as many as may be", full, "", api.OK},
		{"one too many", full, end, api.ErrMany},
		{"one too many, all at once", "", full + end, api.ErrMany},
		{"torn", back, end[:5], api.ErrTorn},
		{"torn behind one", back, end + end[:len(end)-1], api.ErrTorn},
		{"no record", back, "x\n", api.ErrText},
		{"no record behind one", back, end + "x\n" + end, api.ErrText},
		{"an empty line", back, "\n", api.ErrText},
		{"no kind", back, "0 0 0 0 0 0 =\n", api.ErrForm},
		{"no try", back, "2 0 0 0 0 0 =\n", api.ErrRange},
		{"twice in the lock", back, "4 0 0 0 0 1 =3@1,3@1\n", api.ErrTwice},
		{"torn ahead of no record", back, "x", api.ErrTorn},
		{"torn ahead of one too many", full, "x", api.ErrTorn},
		{"no record ahead of one too many", full, "x\n", api.ErrText},
		{"one too many ahead of torn behind it", full, end + "x", api.ErrMany},
		{"as many bytes as may be", back, strings.Repeat("x", api.MaxText-len(back)), api.ErrTorn},
		// what waits has no say in what is safe
		{"torn, but what waits makes it whole", back[:5], back[5:], api.ErrTorn},
		{"torn, but what waits is no record", back[:5], "x\n", api.ErrTorn},
	} {
		d, e := Sync(diskOf(c.safe, c.wait))
		if e != c.want || e == api.OK && !isDisk(d, c.safe+c.wait, "") || e != api.OK && !isZero(d) {
			t.Errorf("%s: Sync = %q, %v, want %v", c.what, short(d), e, c.want)
		}
	}
}

// P6.2: each beginning of what waits may be left.
func TestCrash(t *testing.T) {
	for _, c := range goodDisks() {
		counts := []int{0, len(c.wait) / 2, len(c.wait)}
		if len(c.wait) < 100 {
			for n := range len(c.wait) {
				counts = append(counts, n)
			}
		}
		for _, n := range counts {
			if d, e := Crash(diskOf(c.safe, c.wait), n); e != api.OK || !isDisk(d, c.safe, c.wait[:n]) {
				t.Errorf("%s: Crash(%d) = %q, %v", c.what, n, short(d), e)
			}
		}
		for _, n := range [...]int{math.MinInt, -1, len(c.wait) + 1, math.MaxInt} {
			if d, e := Crash(diskOf(c.safe, c.wait), n); e != api.ErrRange || !isZero(d) {
				t.Errorf("%s: Crash(%d) = %q, %v, want ErrRange", c.what, n, short(d), e)
			}
		}
	}
	room := append(make([]byte, 0, 90), back...)
	if _, e := Crash(api.Disk{Wait: room}, len(back)+1); e != api.ErrRange {
		t.Errorf("the spare room was taken for what waits: %v", e)
	}
}

// P6.2
func TestRecover(t *testing.T) {
	full := backs(api.MaxLog)
	for _, c := range []struct{ what, safe, wait, left string }{ // left: what of Wait is safe then
		{"nothing", "", "", ""},
		{"nothing waits", begin + done, "", ""},
		{"one whole line", back, end, end},
		{"whole lines behind nothing", "", begin + done + got, begin + done + got},
		{"a torn line", back, end[:4], ""},
		{"all but the line feed", back, end[:len(end)-1], ""},
		{"a torn line behind a whole one", back, end + begin[:9], end},
		{"a line feed alone", back, "\n", ""},
		{"an empty line between", back, end + "\n" + end, end},
		{"no record", back, "x\n", ""},
		{"no record ahead of one", back, "x\n" + end, ""},
		{"no record between", back, end + "x\n" + begin, end},
		{"a record that may not be between", "", end + "2 0 0 0 0 0 =\n" + begin, end},
		{"no kind between", "", end + "0 0 0 0 0 0 =\n" + begin, end},
		{"twice in a lock", begin, done + "4 0 0 0 0 1 =3@1,3@1\n" + end, done},
		{"a carriage return", back, "8 0 0 0 0 0 =\r\n" + end, ""},
		{"any bytes", back, end + "\x00\xff\n", end},
		{"as many as may be", backs(api.MaxLog - 2), end + done, end + done},
		{"one too many", backs(api.MaxLog - 2), end + done + got, end + done},
		{"one too many, and no record behind it", backs(api.MaxLog - 1), end + done + "x", end},
		{"none may be more", full, end, ""},
		{"none may be more, and none is", full, "", ""},
		{"all of them wait", "", full, full},
		{"too many of them wait", "", full + end, full},
		{"as many bytes as may be", back, strings.Repeat("x", api.MaxText-len(back)), ""},
	} {
		d, l, e := Recover(diskOf(c.safe, c.wait))
		if e != api.OK || !isDisk(d, c.safe+c.left, "") || !areLines(t, l, c.safe+c.left) {
			t.Errorf("%s: Recover = %q, %d records, %v", c.what, short(d), len(l), e)
		}
		if e := Check(d); e != api.OK {
			t.Errorf("%s: Check of what Recover made: %v", c.what, e)
		}
		if again, m, e := Recover(d); e != api.OK || !Same(again, d) || !slices.EqualFunc(l, m, note.Same) {
			t.Errorf("%s: Recover of what Recover made is another disk: %q, %v", c.what, short(again), e)
		}
	}
}

// P6.3: whatever is kept of what waits, all that was synced is there, and a beginning of the rest: as many records as are whole.
func TestCrashAndRecover(t *testing.T) {
	const synced, waits = begin + done, got + back + begin + end
	for n := range len(waits) + 1 {
		d, e := Crash(diskOf(synced, waits), n)
		if e != api.OK {
			t.Fatalf("Crash(%d): %v", n, e)
		}
		whole := waits[:strings.LastIndex(waits[:n], "\n")+1]
		d, l, e := Recover(d)
		if e != api.OK || !isDisk(d, synced+whole, "") || !areLines(t, l, synced+whole) {
			t.Errorf("%d bytes kept: Recover = %q, %d records, %v", n, short(d), len(l), e)
		}
	}
}

// history goes on with each thing that may happen, so many times, and holds the disk against what was synced, and what was put since.
func history(t *testing.T, d api.Disk, synced, waits string, more int) {
	t.Helper()
	if !isDisk(d, synced, waits) || Check(d) != api.OK {
		t.Fatalf("%q, want %q and %q", short(d), synced, waits)
	}
	if more == 0 {
		return
	}
	lines := [...]string{begin, done, back}
	line := lines[more%len(lines)]
	put, e := Put(d, recOf(t, line))
	if e != api.OK {
		t.Fatalf("Put: %v", e)
	}
	history(t, put, synced, waits+line, more-1)
	safe, e := Sync(d)
	if e != api.OK {
		t.Fatalf("Sync: %v", e)
	}
	history(t, safe, synced+waits, "", more-1)
	for _, n := range [...]int{0, len(waits) / 3, len(waits) * 2 / 3, max(len(waits)-1, 0), len(waits)} {
		crashed, e := Crash(d, n)
		if e != api.OK {
			t.Fatalf("Crash(%d): %v", n, e)
		}
		up, l, e := Recover(crashed)
		whole := waits[:strings.LastIndex(waits[:n], "\n")+1]
		if e != api.OK || !areLines(t, l, synced+whole) {
			t.Fatalf("Recover: %d records, %v", len(l), e)
		}
		history(t, up, synced+whole, "", more-1)
	}
}

// P6.3, from an empty disk on, whatever happens.
func TestHistories(t *testing.T) { history(t, api.Disk{}, "", "", 6) }

// roomy is b with some bytes in the spare room behind it, and all of that memory.
func roomy(b string) (list, all []byte) {
	all = []byte(b + "spare room")
	return all[:len(b)], all
}

// fill writes over a list, and the spare room behind it.
func fill(b []byte) {
	b = b[:cap(b)]
	for k := range b {
		b[k] = '#'
	}
}

// answers are all disks that the calls make of d.
func answers(d api.Disk) []api.Disk {
	put, _ := Put(d, api.Rec{Kind: api.ABegin, Try: 7, R: api.Release{ID: 2, Lock: []api.Pin{{Name: 3, Version: 4}}}})
	synced, _ := Sync(d)
	none, _ := Crash(d, 0)
	all, _ := Crash(d, len(d.Wait))
	up, _, _ := Recover(d)
	return []api.Disk{put, synced, none, all, up}
}

// P2 of 'What holds everywhere': nothing that is handed in is changed, nor the room behind it, and no answer shares memory with it, or with itself.
func TestMemory(t *testing.T) {
	for _, c := range allDisks() {
		safe, allSafe := roomy(c.safe)
		wait, allWait := roomy(c.wait)
		d := api.Disk{Safe: safe, Wait: wait}
		Check(d)
		Same(d, d)
		first, second := answers(d), answers(d)
		for k, x := range first {
			before := string(x.Wait)
			fill(x.Safe)
			if string(x.Wait) != before {
				t.Errorf("%s: lists of answer %d share memory", c.what, k)
			}
			fill(x.Wait)
		}
		if string(allSafe) != c.safe+"spare room" || string(allWait) != c.wait+"spare room" {
			t.Errorf("%s: what was handed in was changed", c.what)
		}
		for k, x := range answers(d) {
			if !Same(x, second[k]) {
				t.Errorf("%s: answer %d is another one now", c.what, k)
			}
		}
		fill(allSafe)
		fill(allWait)
		for k, x := range second {
			if bytes.ContainsRune(x.Safe, '#') || bytes.ContainsRune(x.Wait, '#') {
				t.Errorf("%s: answer %d has memory of what was handed in", c.what, k)
			}
		}
	}
}

// P2: what waits may lie right in the spare room behind what is safe.
func TestMemoryShared(t *testing.T) {
	for _, split := range [...]int{0, len(back), len(back + end)} {
		all := []byte(back + end + got)
		d := api.Disk{Safe: all[:split], Wait: all[split:len(back+end):len(back+end+got)]}
		for k, x := range answers(d) {
			fill(x.Safe)
			fill(x.Wait)
			if string(all) != back+end+got {
				t.Fatalf("split at %d: answer %d changed what was handed in: %q", split, k, all)
			}
		}
	}
}

// P2: the records that are answered are their own, and so are their locks.
func TestMemoryOfRecords(t *testing.T) {
	d := diskOf(begin+begin, begin)
	_, first, _ := Recover(d)
	_, second, _ := Recover(d)
	first[0].R.Lock[0] = api.Pin{Name: 77, Version: 78}
	_ = append(first[0].R.Lock, api.Pin{Name: 79, Version: 80})
	first[1].Kind = 0
	if !areLines(t, second, begin+begin+begin) || !note.Same(first[2], second[2]) || !slices.Equal(first[1].R.Lock, second[1].R.Lock) {
		t.Errorf("records share memory: %v, %v", first, second)
	}
	r := recOf(t, begin)
	room := append(slices.Clone(r.R.Lock), api.Pin{Name: 77, Version: 78})
	r.R.Lock = room[:2]
	x, _ := Put(api.Disk{}, r)
	room[0].Version = 9
	if !isDisk(x, "", begin) || room[2] != (api.Pin{Name: 77, Version: 78}) {
		t.Errorf("Put kept, or changed, what it was given: %q, %v", short(x), room)
	}
}
