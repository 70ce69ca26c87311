package claims

import (
	"math"

	"signet/api"
)

func allowed(leeway int64) bool { return 0 <= leeway && leeway <= api.MaxLeeway }

// firstAt: the least clock that is not less than the time less the leeway. Where the difference lies ahead of all clocks, that is the least of them.
func firstAt(t api.Time, leeway int64) int64 {
	if !t.Has || t.At < math.MinInt64+leeway {
		return math.MinInt64
	}
	return t.At - leeway
}

// lastAhead: the greatest clock that is less than the time and the leeway together; false, if there is none. Where the sum lies behind all clocks, that is the greatest of them.
func lastAhead(t api.Time, leeway int64) (last int64, some bool) {
	if !t.Has || t.At > math.MaxInt64-leeway {
		return math.MaxInt64, true
	}
	end := t.At + leeway
	if end == math.MinInt64 {
		return 0, false
	}
	return end - 1, true
}
