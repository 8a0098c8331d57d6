package tests

import (
	"math"
	"slices"
	"sync"
	"testing"

	"loop.example/g00946/impl"
)

// P10: What is Fresh is not so for ever.

// rightTrusts are of each limit, one inside each, and some between.
func rightTrusts() []impl.Trust {
	var l []impl.Trust
	for _, period := range []int{1, 2, 3, 50, 999, 1000, 1001, 65536, 99999, 100000} {
		for _, slack := range []int{0, 1, 2, 3, 50, 256, 999, 1000} {
			l = append(l, impl.Trust{Period: period, Slack: slack})
		}
	}
	return l
}

// wrongTrusts are trusts that are not right, by what is wrong with them.
func wrongTrusts() map[string]impl.Trust {
	return map[string]impl.Trust{
		"the zero one":                      {},
		"all but a Period":                  {Slack: 5},
		"the Period of 0":                   {Period: 0, Slack: 1000},
		"the Period below 0":                {Period: -1, Slack: 3},
		"the Period below 0, no Slack":      {Period: -1},
		"the Period far below 0":            {Period: -100000, Slack: 3},
		"the least Period":                  {Period: math.MinInt, Slack: 3},
		"the Period one too great":          {Period: 100001, Slack: 3},
		"the Period one too great, alone":   {Period: 100001},
		"the Period of as many as Times":    {Period: 1000000, Slack: 3},
		"the Period beyond 32 bits":         {Period: 1<<32 + 50, Slack: 3},
		"the greatest Period":               {Period: math.MaxInt, Slack: 3},
		"the Slack below 0":                 {Period: 50, Slack: -1},
		"the Slack far below 0":             {Period: 50, Slack: -1000},
		"the least Slack":                   {Period: 50, Slack: math.MinInt},
		"the Slack one too great":           {Period: 50, Slack: 1001},
		"the Slack of as much as a Period":  {Period: 50, Slack: 100000},
		"the Slack beyond 32 bits":          {Period: 50, Slack: 1<<32 + 3},
		"the greatest Slack":                {Period: 50, Slack: math.MaxInt},
		"the shortest, with too much Slack": {Period: 1, Slack: 1001},
		"the longest, with Slack below 0":   {Period: 100000, Slack: -1},
		"Period and Slack below 0":          {Period: -1, Slack: -1},
		"Period and Slack one too great":    {Period: 100001, Slack: 1001},
		"the two the other way round":       {Period: 1000, Slack: 100000},
		"the least of both":                 {Period: math.MinInt, Slack: math.MinInt},
		"the greatest of both":              {Period: math.MaxInt, Slack: math.MaxInt},
	}
}

// rightTimes are of each limit, one inside each, and some between.
func rightTimes() []int {
	return []int{0, 1, 2, 10, 49, 50, 51, 999, 1000, 1001, 65536, 99999, 100000, 100001, 500000, 899999, 900000, 900001, 998999, 999000, 999999, 1000000}
}

// wrongTimes are past each limit by one and by more, as far as numbers go.
func wrongTimes() []int {
	return []int{math.MinInt, math.MinInt + 1, math.MinInt + 999, math.MinInt + 1000, math.MinInt + 100000, math.MinInt + 1000000,
		-1 << 62, -1<<32 + 10, -1 << 32, -1000001, -1000000, -100001, -100000, -1001, -1000, -50, -10, -3, -2, -1,
		1000001, 1000002, 1000050, 1001000, 1001001, 1100000, 1100001, 2000000, 1 << 32, 1<<32 + 10, 1 << 62,
		math.MaxInt - 1000000, math.MaxInt - 100001, math.MaxInt - 100000, math.MaxInt - 1001, math.MaxInt - 1000, math.MaxInt - 999, math.MaxInt - 1, math.MaxInt}
}

func anyTimes() []int {
	return append(rightTimes(), wrongTimes()...)
}

func wantTime(time int) bool {
	return time > -1 && time < 1000001
}

func wantTrustOk(x impl.Trust) bool {
	return x.Period > 0 && x.Period < 100001 && x.Slack > -1 && x.Slack < 1001
}

func wantExpires(x impl.Trust, time int) int {
	if wantTrustOk(x) && wantTime(time) {
		return x.Period + time
	}
	return -1
}

// wantFresh asks whether now stands between the first and the last tick at which it is so.
func wantFresh(x impl.Trust, time int, now int) bool {
	if !wantTrustOk(x) || !wantTime(time) {
		return false
	}
	first, last := max(0, time-x.Slack), min(1000000, time+x.Period)
	return now >= first && now <= last
}

func wantLeft(x impl.Trust, time int, now int) int {
	if !wantTrustOk(x) || !wantTime(time) || !wantTime(now) || time+x.Period <= now {
		return 0
	}
	return time - now + x.Period
}

func checkTrust(t *testing.T, x impl.Trust, time int, now int) {
	t.Helper()
	if got, want := impl.Expires(x, time), wantExpires(x, time); got != want {
		t.Errorf("Expires(%+v, %d) is %d, not %d", x, time, got, want)
	}
	if got, want := impl.Fresh(x, time, now), wantFresh(x, time, now); got != want {
		t.Errorf("Fresh(%+v, %d, %d) is %v", x, time, now, got)
	}
	if got, want := impl.TimeLeft(x, time, now), wantLeft(x, time, now); got != want {
		t.Errorf("TimeLeft(%+v, %d, %d) is %d, not %d", x, time, now, got, want)
	}
}

func TestTrustOkAtItsLimits(t *testing.T) {
	right := []impl.Trust{{Period: 1, Slack: 0}, {Period: 1, Slack: 1000}, {Period: 100000, Slack: 0}, {Period: 100000, Slack: 1000}}
	for _, period := range []int{math.MinInt, -100000, -1, 0, 1, 100000, 100001, 1<<32 + 1, math.MaxInt} {
		for _, slack := range []int{math.MinInt, -1000, -1, 0, 1000, 1001, 1 << 32, math.MaxInt} {
			x := impl.Trust{Period: period, Slack: slack}
			if got := impl.TrustOk(x); got != slices.Contains(right, x) {
				t.Errorf("TrustOk(%+v) is %v", x, got)
			}
		}
	}
	if impl.TrustOk(impl.Trust{}) {
		t.Error("the zero Trust is right")
	}
}

func TestTrustOkOfEachNumber(t *testing.T) {
	for _, other := range []int{-1, 0, 1, 500, 1000, 1001} {
		for n := -1100; n <= 101100; n++ {
			for _, x := range []impl.Trust{{Period: n, Slack: other}, {Period: other, Slack: n}, {Period: 100 * other, Slack: n}} {
				if got := impl.TrustOk(x); got != wantTrustOk(x) {
					t.Fatalf("TrustOk(%+v) is %v", x, got)
				}
			}
		}
	}
	for _, x := range rightTrusts() {
		if !impl.TrustOk(x) {
			t.Errorf("TrustOk(%+v) is false", x)
		}
	}
	for name, x := range wrongTrusts() {
		if impl.TrustOk(x) {
			t.Errorf("%s: TrustOk(%+v) is true", name, x)
		}
	}
}

func TestExpiresByHand(t *testing.T) {
	for _, c := range []struct {
		period, slack, time, want int
	}{
		{50, 3, 10, 60},
		{50, 0, 10, 60},
		{50, 1000, 10, 60},
		{1, 0, 0, 1},
		{1, 1000, 0, 1},
		{1, 0, 1, 2},
		{100000, 0, 0, 100000},
		{100000, 1000, 5, 100005},
		{100000, 0, 900000, 1000000},
		{100000, 0, 900001, 1000001},
		{1, 0, 999999, 1000000},
		{1, 0, 1000000, 1000001},
		{100000, 1000, 1000000, 1100000},
		{50, 3, -1, -1},
		{50, 3, -50, -1},
		{50, 3, 1000001, -1},
		{50, 3, math.MinInt, -1},
		{50, 3, math.MaxInt, -1},
		{100000, 3, math.MaxInt, -1},
		{0, 3, 10, -1},
		{-1, 3, 10, -1},
		{100001, 3, 10, -1},
		{math.MaxInt, 3, 10, -1},
		{math.MinInt, 3, 10, -1},
		{50, -1, 10, -1},
		{50, 1001, 10, -1},
		{50, math.MaxInt, 10, -1},
		{50, math.MinInt, 10, -1},
		{0, 0, 0, -1},
	} {
		if got := impl.Expires(impl.Trust{Period: c.period, Slack: c.slack}, c.time); got != c.want {
			t.Errorf("%+v: it is %d", c, got)
		}
	}
}

func TestFreshByHand(t *testing.T) {
	for _, c := range []struct {
		about                    string
		period, slack, time, now int
		want                     bool
	}{
		{"at time", 50, 3, 10, 10, true},
		{"one past time", 50, 3, 10, 11, true},
		{"one ahead of Expires", 50, 3, 10, 59, true},
		{"at Expires", 50, 3, 10, 60, true},
		{"one past Expires", 50, 3, 10, 61, false},
		{"past Expires by the Slack", 50, 3, 10, 63, false},
		{"far past Expires", 50, 3, 10, 1000000, false},
		{"one ahead of time", 50, 3, 10, 9, true},
		{"ahead of time by the Slack", 50, 3, 10, 7, true},
		{"ahead of time by one more", 50, 3, 10, 6, false},
		{"far ahead of time", 50, 3, 10, 0, false},
		{"at time, no Slack", 50, 0, 10, 10, true},
		{"one ahead of time, no Slack", 50, 0, 10, 9, false},
		{"at Expires, no Slack", 50, 0, 10, 60, true},
		{"one past Expires, no Slack", 50, 0, 10, 61, false},
		{"ahead of time, a Slack of 1", 50, 1, 10, 9, true},
		{"ahead by two, a Slack of 1", 50, 1, 10, 8, false},
		{"the shortest, at time", 1, 0, 10, 10, true},
		{"the shortest, at Expires", 1, 0, 10, 11, true},
		{"the shortest, past it", 1, 0, 10, 12, false},
		{"the shortest, ahead of time", 1, 0, 10, 9, false},
		{"the most Slack", 1, 1000, 1500, 500, true},
		{"the most Slack, and one more", 1, 1000, 1500, 499, false},
		{"the most Slack, past Expires", 1, 1000, 1500, 1502, false},
		{"Slack as far as 0", 50, 1000, 1000, 0, true},
		{"Slack one short of 0", 50, 1000, 1001, 0, false},
		{"Slack past 0", 50, 1000, 5, 0, true},
		{"Slack past 0, and now too", 50, 1000, 5, -1, false},
		{"the longest, at Expires", 100000, 0, 0, 100000, true},
		{"the longest, past it", 100000, 0, 0, 100001, false},
		{"Expires at MaxTime", 100000, 0, 900000, 1000000, true},
		{"past both", 100000, 0, 900000, 1000001, false},
		{"Expires one ahead of MaxTime", 100000, 0, 899999, 999999, true},
		{"and past that", 100000, 0, 899999, 1000000, false},
		{"Expires past MaxTime", 50, 3, 999999, 1000000, true},
		{"now past MaxTime, and not past Expires", 50, 3, 999999, 1000001, false},
		{"time at MaxTime", 100000, 1000, 1000000, 1000000, true},
		{"time at MaxTime, now past it", 100000, 1000, 1000000, 1000001, false},
		{"time at MaxTime, now at Expires", 100000, 1000, 1000000, 1100000, false},
		{"time at MaxTime, now ahead of it", 100000, 1000, 1000000, 999000, true},
		{"time at MaxTime, now more ahead of it", 100000, 1000, 1000000, 998999, false},
		{"time at 0", 50, 0, 0, 0, true},
		{"time past MaxTime", 50, 3, 1000001, 1000000, false},
		{"time below 0", 50, 3, -1, 0, false},
		{"now below 0", 50, 3, 0, -1, false},
		{"the least now", 50, 3, 10, math.MinInt, false},
		{"the greatest now", 50, 3, 10, math.MaxInt, false},
		{"the least time", 50, 3, math.MinInt, 10, false},
		{"the greatest time", 50, 3, math.MaxInt, 10, false},
		{"both the least", 50, 3, math.MinInt, math.MinInt, false},
		{"both the greatest", 50, 3, math.MaxInt, math.MaxInt, false},
		{"no Period", 0, 3, 10, 10, false},
		{"a Period below 0", -1, 3, 10, 9, false},
		{"too great a Period", 100001, 3, 10, 10, false},
		{"a Slack below 0", 50, -1, 10, 20, false},
		{"too great a Slack", 50, 1001, 10, 10, false},
		{"nothing", 0, 0, 0, 0, false},
	} {
		if got := impl.Fresh(impl.Trust{Period: c.period, Slack: c.slack}, c.time, c.now); got != c.want {
			t.Errorf("%+v: it is %v", c, got)
		}
	}
}

func TestTimeLeftByHand(t *testing.T) {
	for _, c := range []struct {
		about                    string
		period, slack, time, now int
		want                     int
	}{
		{"at time", 50, 3, 10, 10, 50},
		{"between", 50, 3, 10, 20, 40},
		{"two ahead of Expires", 50, 3, 10, 58, 2},
		{"one ahead of Expires", 50, 3, 10, 59, 1},
		{"at Expires", 50, 3, 10, 60, 0},
		{"one past Expires", 50, 3, 10, 61, 0},
		{"far past Expires", 50, 3, 10, 99, 0},
		{"farthest past Expires", 50, 3, 10, 1000000, 0},
		{"ahead of time by less than the Slack", 50, 3, 10, 9, 51},
		{"ahead of time by the Slack", 50, 3, 10, 7, 53},
		{"ahead of time by more than the Slack", 50, 3, 10, 6, 54},
		{"farthest ahead of time", 50, 3, 10, 0, 60},
		{"ahead of time, no Slack", 50, 0, 10, 9, 51},
		{"ahead of time, far less than the most Slack", 50, 1000, 10, 9, 51},
		{"the most of all", 100000, 0, 1000000, 0, 1100000},
		{"one less than that", 100000, 1000, 1000000, 1, 1099999},
		{"the shortest, at time", 1, 0, 10, 10, 1},
		{"the shortest, at Expires", 1, 0, 10, 11, 0},
		{"the shortest, ahead of time", 1, 0, 10, 9, 2},
		{"time at MaxTime", 100000, 1000, 1000000, 1000000, 100000},
		{"time at MaxTime, now past it", 100000, 1000, 1000000, 1000001, 0},
		{"time at MaxTime, now one ahead of Expires", 100000, 1000, 1000000, 1099999, 0},
		{"Expires one past MaxTime, now there", 1, 0, 1000000, 1000000, 1},
		{"Expires at MaxTime, now there", 1, 0, 999999, 1000000, 0},
		{"time at 0", 1, 0, 0, 0, 1},
		{"time past MaxTime", 50, 3, 1000001, 1000000, 0},
		{"time below 0", 50, 3, -1, 0, 0},
		{"now below 0", 50, 3, 10, -1, 0},
		{"the least now", 50, 3, 10, math.MinInt, 0},
		{"nearly the least now", 50, 3, 10, math.MinInt + 61, 0},
		{"the greatest now", 50, 3, 10, math.MaxInt, 0},
		{"the least time", 50, 3, math.MinInt, 10, 0},
		{"the greatest time", 50, 3, math.MaxInt, 10, 0},
		{"the greatest time that would have an Expires", 50, 3, math.MaxInt - 50, 10, 0},
		{"both the least", 50, 3, math.MinInt, math.MinInt, 0},
		{"both the greatest", 50, 3, math.MaxInt, math.MaxInt, 0},
		{"no Period", 0, 3, 10, 9, 0},
		{"a Period below 0", -1, 3, 10, 5, 0},
		{"too great a Period", 100001, 3, 10, 10, 0},
		{"the greatest Period", math.MaxInt, 3, 10, 10, 0},
		{"a Slack below 0", 50, -1, 10, 20, 0},
		{"too great a Slack", 50, 1001, 10, 20, 0},
		{"nothing", 0, 0, 0, 0, 0},
	} {
		if got := impl.TimeLeft(impl.Trust{Period: c.period, Slack: c.slack}, c.time, c.now); got != c.want {
			t.Errorf("%+v: it is %d", c, got)
		}
	}
}

// whatIsFresh is at how many of all nows, right ones and some beside them, it is so, and at which first and last.
func whatIsFresh(x impl.Trust, time int) (count int, first int, last int) {
	for now := -1001; now <= 1101001; now++ {
		if impl.Fresh(x, time, now) {
			if count == 0 {
				first = now
			}
			count, last = count+1, now
		}
	}
	return count, first, last
}

func TestFreshIsNotForEver(t *testing.T) {
	for _, c := range []struct {
		period, slack, time int
		first, last         int
	}{
		{50, 3, 10, 7, 60},
		{1, 0, 0, 0, 1},
		{1, 0, 10, 10, 11},
		{1, 1000, 1000, 0, 1001},
		{100000, 1000, 0, 0, 100000},
		{100000, 0, 0, 0, 100000},
		{100000, 1000, 1500, 500, 101500},
		{100000, 1000, 900000, 899000, 1000000},
		{100000, 0, 900001, 900001, 1000000},
		{100000, 1000, 1000000, 999000, 1000000},
		{1, 0, 1000000, 1000000, 1000000},
		{1, 0, 999999, 999999, 1000000},
		{777, 77, 7777, 7700, 8554},
	} {
		count, first, last := whatIsFresh(impl.Trust{Period: c.period, Slack: c.slack}, c.time)
		if first != c.first || last != c.last || count != last-first+1 {
			t.Errorf("%+v: it is Fresh from %d to %d, at %d in all", c, first, last, count)
		}
	}
}

// Once Fresh, it is so up to the last tick, and from there on never again.
func TestFreshUpToTheLastTick(t *testing.T) {
	for _, x := range rightTrusts() {
		for _, time := range rightTimes() {
			expires := impl.Expires(x, time)
			begun := false
			for now := max(0, time-2*x.Slack-3); now <= min(1000000, time+2000); now++ {
				fresh := impl.Fresh(x, time, now)
				begun = begun || fresh
				if fresh != (begun && now <= expires) {
					t.Fatalf("Fresh(%+v, %d, %d) is %v, and it expires at %d", x, time, now, fresh, expires)
				}
			}
			if !begun {
				t.Errorf("%+v: what is of %d was Fresh at no now", x, time)
			}
			for now := expires - 3; now <= expires+1003; now++ {
				if got := impl.Fresh(x, time, now); got != (now <= expires && now <= 1000000 && now >= time-x.Slack && now >= 0) {
					t.Fatalf("Fresh(%+v, %d, %d) is %v, and it expires at %d", x, time, now, got, expires)
				}
			}
		}
	}
}

// From the first tick of all on, each takes one away, until nothing is left.
func TestTimeLeftGoesDown(t *testing.T) {
	for _, x := range []impl.Trust{{Period: 1}, {Period: 50, Slack: 3}, {Period: 777, Slack: 1000}, {Period: 100000}, {Period: 100000, Slack: 1000}} {
		for _, time := range []int{0, 1, 500, 250000, 900000, 900001, 999999, 1000000} {
			left := time + x.Period
			for now := 0; now <= 1000000; now++ {
				if got := impl.TimeLeft(x, time, now); got != left {
					t.Fatalf("TimeLeft(%+v, %d, %d) is %d, not %d", x, time, now, got, left)
				}
				left = max(0, left-1)
			}
		}
	}
}

// While it is Fresh, what is left is so much that by then it is at the last tick.
func TestTimeLeftLeadsToTheLastTick(t *testing.T) {
	for _, x := range rightTrusts() {
		for _, time := range rightTimes() {
			for _, now := range rightTimes() {
				left := impl.TimeLeft(x, time, now)
				if left > 0 && now+left != impl.Expires(x, time) {
					t.Errorf("TimeLeft(%+v, %d, %d) is %d", x, time, now, left)
				}
				if past := now >= impl.Expires(x, time); past != (left == 0) {
					t.Errorf("TimeLeft(%+v, %d, %d) is %d", x, time, now, left)
				}
				if impl.Fresh(x, time, now) && impl.Fresh(x, time, now+left+1) {
					t.Errorf("%+v: what is of %d is Fresh past what was left at %d", x, time, now)
				}
			}
		}
	}
}

func TestTimeLeftAsksNothingOfSlack(t *testing.T) {
	for _, period := range []int{1, 50, 100000} {
		for _, time := range rightTimes() {
			for _, now := range rightTimes() {
				want := impl.TimeLeft(impl.Trust{Period: period}, time, now)
				for slack := range 1001 {
					if got := impl.TimeLeft(impl.Trust{Period: period, Slack: slack}, time, now); got != want {
						t.Fatalf("TimeLeft with Slack %d of Period %d, time %d and now %d is %d, not %d", slack, period, time, now, got, want)
					}
				}
				for _, slack := range []int{math.MinInt, -1, 1001, math.MaxInt} {
					if got := impl.TimeLeft(impl.Trust{Period: period, Slack: slack}, time, now); got != 0 {
						t.Errorf("TimeLeft with Slack %d is %d", slack, got)
					}
				}
			}
		}
	}
}

func TestExpiresAsksNothingOfSlack(t *testing.T) {
	for slack := range 1001 {
		if got := impl.Expires(impl.Trust{Period: 50, Slack: slack}, 10); got != 60 {
			t.Errorf("Expires with Slack %d is %d", slack, got)
		}
	}
}

func TestFreshWithEachSlack(t *testing.T) {
	for slack := range 1001 {
		x := impl.Trust{Period: 50, Slack: slack}
		for _, time := range []int{1001, 5000, 1000000} {
			if !impl.Fresh(x, time, time-slack) || impl.Fresh(x, time, time-slack-1) {
				t.Errorf("%+v: what is of %d is not Fresh just from %d on", x, time, time-slack)
			}
		}
	}
}

func TestTrustWithEachPeriod(t *testing.T) {
	for period := 1; period <= 100000; period++ {
		x := impl.Trust{Period: period, Slack: period % 1001}
		for _, time := range []int{0, 10, 900000} {
			last := time + period
			if impl.Expires(x, time) != last || !impl.Fresh(x, time, last) || impl.Fresh(x, time, last+1) {
				t.Fatalf("%+v: %d is not the last tick of what is of %d", x, last, time)
			}
			if impl.TimeLeft(x, time, time) != period || impl.TimeLeft(x, time, last-1) != 1 || impl.TimeLeft(x, time, last) != 0 || impl.TimeLeft(x, time, last+1) != 0 {
				t.Fatalf("%+v: what is left of what is of %d does not go down to %d", x, time, last)
			}
		}
	}
}

func TestTrustOfEachTime(t *testing.T) {
	x := impl.Trust{Period: 50, Slack: 3}
	for time := -100; time <= 1000100; time++ {
		for _, now := range []int{time - 4, time - 3, time, time + 50, time + 51} {
			checkTrust(t, x, time, now)
		}
		if t.Failed() {
			return
		}
	}
}

func TestTrustThatIsNotRight(t *testing.T) {
	for name, x := range wrongTrusts() {
		for _, time := range anyTimes() {
			if got := impl.Expires(x, time); got != -1 {
				t.Errorf("%s: Expires(%+v, %d) is %d", name, x, time, got)
			}
			for _, now := range append(anyTimes(), time, time+x.Period, time-x.Slack) {
				if impl.Fresh(x, time, now) {
					t.Errorf("%s: Fresh(%+v, %d, %d) is true", name, x, time, now)
				}
				if got := impl.TimeLeft(x, time, now); got != 0 {
					t.Errorf("%s: TimeLeft(%+v, %d, %d) is %d", name, x, time, now, got)
				}
			}
		}
	}
}

func TestTimesThatAreNone(t *testing.T) {
	for _, x := range rightTrusts() {
		for _, none := range wrongTimes() {
			if got := impl.Expires(x, none); got != -1 {
				t.Errorf("Expires(%+v, %d) is %d", x, none, got)
			}
			for _, other := range append(anyTimes(), none, none+x.Period, none-x.Slack, none-x.Period, none+x.Slack) {
				if impl.Fresh(x, none, other) || impl.Fresh(x, other, none) {
					t.Errorf("%+v: Fresh is true of %d and %d, or the other way round", x, none, other)
				}
				if a, b := impl.TimeLeft(x, none, other), impl.TimeLeft(x, other, none); a != 0 || b != 0 {
					t.Errorf("%+v: TimeLeft is %d of %d and %d, and %d the other way round", x, a, none, other, b)
				}
			}
		}
	}
}

func TestTrustAtEachLimit(t *testing.T) {
	edges := append(anyTimes(), edgeNumbers()...)
	for _, x := range append(rightTrusts(), impl.Trust{Period: 7, Slack: 7}) {
		for _, time := range edges {
			for _, now := range append(edges, time-x.Slack-1, time-x.Slack, time-1, time, time+1, time+x.Period-1, time+x.Period, time+x.Period+1) {
				checkTrust(t, x, time, now)
			}
		}
	}
}

func TestTrustOfMixedNumbers(t *testing.T) {
	for period := -3; period <= 12; period++ {
		for slack := -3; slack <= 8; slack++ {
			for time := -3; time <= 15; time++ {
				for now := -3; now <= 30; now++ {
					x := impl.Trust{Period: period, Slack: slack}
					checkTrust(t, x, time, now)
					checkTrust(t, x, 1000000-time, 1000000+10-now)
				}
			}
		}
	}
}

func TestTrustFromManyAtOnce(t *testing.T) {
	var wait sync.WaitGroup
	for i := range 8 {
		wait.Go(func() {
			x := impl.Trust{Period: 50 + i, Slack: i}
			for time := range 2000 {
				checkTrust(t, x, time, time-i-1)
				checkTrust(t, x, time, time-i)
				checkTrust(t, x, time, time+50+i)
				checkTrust(t, x, time, time+51+i)
				checkTrust(t, impl.Trust{}, time, time)
			}
		})
	}
	wait.Wait()
}
