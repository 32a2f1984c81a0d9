package lock

import (
	"math"
	"slices"
	"strconv"
	"strings"
	"testing"

	"vanguard/api"
)

// pins makes a list of names and versions, in turn.
func pins(numbers ...int) []api.Pin {
	var l []api.Pin
	for k := 0; k+1 < len(numbers); k += 2 {
		l = append(l, api.Pin{Name: numbers[k], Version: numbers[k+1]})
	}
	return l
}

// rising makes a lock of n pins, named 1 to n.
func rising(n int) []api.Pin {
	var l []api.Pin
	for k := range n {
		l = append(l, api.Pin{Name: k + 1, Version: 1})
	}
	return l
}

// written is how a list of pins is written, whether it is a lock or not.
func written(l []api.Pin) string {
	s := ""
	for i, p := range l {
		if i > 0 {
			s += ","
		}
		s += strconv.Itoa(p.Name) + "@" + strconv.Itoa(p.Version)
	}
	return s
}

type checkCase struct {
	what string
	l    []api.Pin
	want api.Errno
}

func checkCases() []checkCase {
	many := rising(api.MaxPins + 1)
	many[0] = api.Pin{Name: -1, Version: -1}
	return []checkCase{
		{"nil", nil, api.OK},
		{"empty", []api.Pin{}, api.OK},
		{"one", pins(1, 1), api.OK},
		{"with gaps", pins(1, 2, 7, 1, 9, 50), api.OK},
		{"greatest name and version", pins(api.MaxName, api.MaxVersion), api.OK},
		{"as many as may be", rising(api.MaxPins), api.OK},
		{"one too many", rising(api.MaxPins + 1), api.ErrMany},
		{"too many, ahead of a bad range", many, api.ErrMany},
		{"too many, ahead of twice", make([]api.Pin, api.MaxPins+1), api.ErrMany},
		{"zero pin", pins(0, 0), api.ErrRange},
		{"name 0", pins(0, 1), api.ErrRange},
		{"name below 0", pins(-1, 1), api.ErrRange},
		{"name too great", pins(api.MaxName+1, 1), api.ErrRange},
		{"least int as name", pins(math.MinInt, 1), api.ErrRange},
		{"greatest int as name", pins(math.MaxInt, 1), api.ErrRange},
		{"version 0", pins(1, 0), api.ErrRange},
		{"version below 0", pins(1, -1), api.ErrRange},
		{"version too great", pins(1, api.MaxVersion+1), api.ErrRange},
		{"least int as version", pins(1, math.MinInt), api.ErrRange},
		{"greatest int as version", pins(1, math.MaxInt), api.ErrRange},
		{"the same name", pins(1, 1, 1, 2), api.ErrTwice},
		{"the same pin", pins(1, 1, 1, 1), api.ErrTwice},
		{"falling", pins(2, 1, 1, 1), api.ErrTwice},
		{"above the first, below the one ahead", pins(1, 1, 5, 1, 3, 1), api.ErrTwice},
		{"range ahead of twice in one pin", pins(3, 1, 3, 0), api.ErrRange},
		{"a name below 1 is out of range, not only below the one ahead", pins(3, 1, 0, 1), api.ErrRange},
		{"twice in the first, range in the next", pins(2, 1, 2, 1, 0, 0), api.ErrTwice},
		{"range in the first, twice in the next", pins(2, 100, 2, 1), api.ErrRange},
		{"a wrong pin at the end", append(rising(api.MaxPins-1), api.Pin{Name: api.MaxName, Version: 0}), api.ErrRange},
	}
}

// P1.1
func TestCheck(t *testing.T) {
	for _, c := range checkCases() {
		if e := Check(c.l); e != c.want {
			t.Errorf("%s: Check(%v) = %v, want %v", c.what, c.l, e, c.want)
		}
	}
}

// P1.1
func TestFind(t *testing.T) {
	l := pins(2, 5, 9, 1, 20, 99)
	odd := pins(3, 7, 1, 4, 3, 8, 0, 6, -2, -3, 400, 500)
	for _, c := range []struct {
		l          []api.Pin
		name, want int
	}{
		{nil, 1, 0}, {[]api.Pin{}, 1, 0}, {nil, 0, 0},
		{l, 2, 5}, {l, 9, 1}, {l, 20, 99},
		{l, 1, 0}, {l, 3, 0}, {l, 21, 0}, {l, 0, 0}, {l, -1, 0}, {l, math.MinInt, 0}, {l, math.MaxInt, 0},
		{odd, 3, 7}, {odd, 1, 4}, {odd, 0, 6}, {odd, -2, -3}, {odd, 400, 500}, {odd, 2, 0},
		{rising(400), 400, 1},
	} {
		if v := Find(c.l, c.name); v != c.want {
			t.Errorf("Find(%v, %d) = %d, want %d", c.l, c.name, v, c.want)
		}
	}
}

// P1.2
func TestPrint(t *testing.T) {
	for _, c := range []struct {
		l    []api.Pin
		want string
	}{
		{nil, ""},
		{[]api.Pin{}, ""},
		{pins(1, 2), "1@2"},
		{pins(1, 2, 7, 1), "1@2,7@1"},
		{pins(10, 10, 20, 99), "10@10,20@99"},
		{rising(api.MaxPins), "1@1,2@1,3@1,4@1,5@1,6@1,7@1,8@1,9@1,10@1,11@1,12@1"},
	} {
		if s, e := Print(c.l); s != c.want || e != api.OK {
			t.Errorf("Print(%v) = %q, %v, want %q", c.l, s, e, c.want)
		}
	}
	for _, c := range checkCases() {
		s, e := Print(c.l)
		if e != c.want || e != api.OK && s != "" {
			t.Errorf("%s: Print(%v) = %q, %v, want error %v", c.what, c.l, s, e, c.want)
		}
	}
}

// P1.2: Parse answers Check's error of whatever numbers are written.
func TestParseChecks(t *testing.T) {
	for _, c := range checkCases() {
		l, e := Parse(written(c.l))
		if e != c.want || e != api.OK && l != nil || e == api.OK && !slices.Equal(l, c.l) {
			t.Errorf("%s: Parse(%q) = %v, %v, want error %v", c.what, written(c.l), l, e, c.want)
		}
	}
}

// P1.2
func TestParseText(t *testing.T) {
	beyond := strconv.FormatUint(math.MaxUint64, 10) + "0"
	for _, s := range []string{
		"1", "@", "1@", "@1", ",", "1@1,", ",1@1", "1@1,,2@1", "1@1@1", "1@@1", "1,1", "1@1;2@1", "1@1.2@1",
		"01@1", "1@01", "00@1", "1@00", "+1@1", "1@+1", "-0@1", "1@-0", "-01@1", "--1@1", "-@1", "1@-",
		" 1@1", "1@1 ", "1 @1", "1@ 1", "1@1, 2@1", "1@1\n", "1@1\x00", "1@1\r", "\t1@1",
		"a@1", "1@a", "0x1@1", "1e1@1", "1_0@1", "1.0@1", "1@1,x", "é@1", "１@1", "1@\xff",
		beyond + "@1", "1@" + beyond, "-" + beyond + "@1",
		"9223372036854775808@1", "-9223372036854775809@1",
		"0@0,x", "2@1,1@1,x", "1@0,01@1", // the text is told ahead of what the numbers are
		written(rising(api.MaxPins+1)) + ",", // and ahead of how many there are
	} {
		if l, e := Parse(s); l != nil || e != api.ErrText {
			t.Errorf("Parse(%q) = %v, %v, want ErrText", s, l, e)
		}
	}
}

// P1.2: only the length of the text is told ahead of its form.
func TestParseLong(t *testing.T) {
	fill := func(n int) string { return strings.Repeat("1@1,", n/4+1)[:n] }
	whole := fill(api.MaxText - 1) // it ends in 1@1, as MaxText is a multiple of 4
	for _, c := range []struct {
		what, s string
		want    api.Errno
	}{
		{"pins below the limit", whole, api.ErrMany},
		{"pins at the limit", whole + "0", api.ErrMany},
		{"pins at the limit, one comma too many", fill(api.MaxText), api.ErrText},
		{"a byte too many", fill(api.MaxText + 1), api.ErrMany},
		{"no pins at the limit", strings.Repeat("x", api.MaxText), api.ErrText},
		{"no pins, a byte too many", strings.Repeat("x", api.MaxText+1), api.ErrMany},
		{"bytes are counted, not runes", strings.Repeat("é", api.MaxText/2+1), api.ErrMany},
		{"commas at the limit", strings.Repeat(",", api.MaxText), api.ErrText},
	} {
		if l, e := Parse(c.s); l != nil || e != c.want {
			t.Errorf("%s (%d bytes): %d pins, %v, want %v", c.what, len(c.s), len(l), e, c.want)
		}
	}
}

// P1.3, of locks with each name and version, and of each number of pins.
func TestRoundTrip(t *testing.T) {
	ask := func(l []api.Pin) {
		t.Helper()
		s, e := Print(l)
		if e != api.OK {
			t.Fatalf("Print(%v): %v", l, e)
		}
		if got, e := Parse(s); e != api.OK || !slices.Equal(got, l) {
			t.Fatalf("Parse(%q) = %v, %v, want %v", s, got, e, l)
		}
	}
	for name := 1; name <= api.MaxName; name++ {
		for version := 1; version <= api.MaxVersion; version++ {
			ask(pins(name, version))
			if name > 1 {
				ask(pins(name-1, api.MaxVersion, name, version))
			}
		}
	}
	for n := range api.MaxPins + 1 {
		l := rising(n)
		ask(l)
		for k := range l {
			l[k] = api.Pin{Name: api.MaxName - n + 1 + k, Version: api.MaxVersion - k}
		}
		ask(l)
	}
}

// P1.3 the other way round, of all short texts: what is parsed is printed as it was.
func TestEveryShortText(t *testing.T) {
	const letters = "0129-+@, "
	var ask func(s string)
	ask = func(s string) {
		l, e := Parse(s)
		if back, _ := Print(l); e == api.OK && back != s {
			t.Errorf("Parse(%q) = %v, which is printed %q", s, l, back)
		}
		if e != api.OK && l != nil {
			t.Errorf("Parse(%q) = %v beside %v", s, l, e)
		}
		for k := range letters {
			if len(s) < 5 {
				ask(s + letters[k:k+1])
			}
		}
	}
	ask("")
}

// P2 of 'What holds everywhere': nothing that is handed in is changed, nor the room behind it, and no answer shares memory with another one.
func TestMemory(t *testing.T) {
	for _, c := range checkCases() {
		room := append(slices.Clone(c.l), api.Pin{Name: 77, Version: 78}, api.Pin{Name: 79, Version: 80})
		before := slices.Clone(room)
		l := room[:len(c.l)]
		Check(l)
		Find(l, 1)
		Print(l)
		if !slices.Equal(room, before) {
			t.Errorf("%s: %v became %v", c.what, before, room)
		}
	}
	first, _ := Parse("1@2,7@1")
	second, _ := Parse("1@2,7@1")
	first[0] = api.Pin{Name: 5, Version: 5}
	_ = append(first, api.Pin{Name: 6, Version: 6})
	if third, _ := Parse("1@2,7@1"); !slices.Equal(second, third) || second[0] != (api.Pin{Name: 1, Version: 2}) {
		t.Errorf("answers share memory: %v, %v", second, third)
	}
}
