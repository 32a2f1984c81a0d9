package limit

import (
	"math"
	"testing"
)

func TestWithin(t *testing.T) {
	for _, c := range []struct {
		n, least, most int
		want           bool
	}{
		{1, 1, 20, true}, {20, 1, 20, true}, {7, 1, 20, true}, {5, 5, 5, true},
		{0, 1, 20, false}, {21, 1, 20, false}, {-1, 0, 3, false}, {0, 0, 3, true},
		{math.MinInt, 1, 20, false}, {math.MaxInt, 1, 20, false},
		{math.MinInt, math.MinInt, math.MaxInt, true}, {math.MaxInt, math.MinInt, math.MaxInt, true},
		{2, 3, 1, false},
	} {
		if got := Within(c.n, c.least, c.most); got != c.want {
			t.Errorf("Within(%d, %d, %d) = %v", c.n, c.least, c.most, got)
		}
	}
}
