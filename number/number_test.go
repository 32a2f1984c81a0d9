package number

import (
	"math"
	"strconv"
	"testing"
)

func TestRead(t *testing.T) {
	for _, n := range [...]int{0, 1, 9, 10, 99, 200, -1, -10, math.MaxInt, math.MinInt} {
		if got, ok := Read(strconv.Itoa(n)); got != n || !ok {
			t.Errorf("Read(%d) = %d, %v", n, got, ok)
		}
	}
}

func TestReadNone(t *testing.T) {
	for _, s := range [...]string{
		"", "-", "+", "+1", "-0", "+0", "00", "01", "-01", "--1", "1-", " 1", "1 ", "1\n", "\t1", "1\x00",
		"a", "1a", "0x1", "1e1", "1_0", "1.0", "1,0", "é", "１", "\xff",
		strconv.FormatUint(math.MaxUint64, 10) + "0", "9223372036854775808", "-9223372036854775809",
	} {
		if n, ok := Read(s); n != 0 || ok {
			t.Errorf("Read(%q) = %d, %v", s, n, ok)
		}
	}
}
