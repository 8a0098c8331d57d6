package tests

import (
	"crypto/sha256"
	"math"
	"math/big"
	"slices"
	"strconv"
	"strings"
	"sync"
	"testing"

	"loop.example/g00946/impl"
)

// P6: two sets that are Enough have more than a third of the Power in common.

// valsOf are validators with these Powers, whose Ids rise with gaps of several sizes.
func valsOf(powers ...int) []impl.Val {
	ids := []int{1, 2, 9, 40, 41, 98, 99}
	var l []impl.Val
	for i, power := range powers {
		l = append(l, impl.Val{Id: ids[i], Power: power})
	}
	return l
}

// pairsOf are validators, or changes, of an Id and a Power each.
func pairsOf(numbers ...int) []impl.Val {
	var l []impl.Val
	for pair := range slices.Chunk(numbers, 2) {
		l = append(l, impl.Val{Id: pair[0], Power: pair[1]})
	}
	return l
}

func idsOf(l []impl.Val) []int {
	var ids []int
	for _, v := range l {
		ids = append(ids, v.Id)
	}
	return ids
}

// idsIn are the Ids of the validators at the places whose bits are set.
func idsIn(l []impl.Val, set int) []int {
	var ids []int
	for i, v := range l {
		if set>>i&1 == 1 {
			ids = append(ids, v.Id)
		}
	}
	return ids
}

// powerIn is the Power of the validators at the places whose bits are set.
func powerIn(l []impl.Val, set int) int {
	power := 0
	for i, v := range l {
		if set>>i&1 == 1 {
			power += v.Power
		}
	}
	return power
}

func rightVals() [][]impl.Val {
	return [][]impl.Val{
		valsOf(5), valsOf(1), valsOf(1000), pairsOf(99, 1000), pairsOf(1, 1), pairsOf(50, 127), pairsOf(50, 128),
		valsOf(1, 1), valsOf(2, 1), pairsOf(98, 1, 99, 1), pairsOf(1, 127, 2, 128),
		valsOf(1, 1, 1), valsOf(3, 2, 1), pairsOf(1, 3, 4, 2, 7, 1),
		valsOf(1, 1, 1, 1), valsOf(4, 3, 2, 1), valsOf(1000, 1, 1000, 1),
		valsOf(1, 2, 3, 4, 5), valsOf(6, 5, 4, 3, 2, 1),
		valsOf(1, 1, 1, 1, 1, 1, 1), valsOf(1000, 1000, 1000, 1000, 1000, 1000, 1000), valsOf(127, 128, 129, 255, 256, 257, 999),
		pairsOf(1, 7, 2, 6, 3, 5, 4, 4, 5, 3, 6, 2, 7, 1), pairsOf(93, 1, 94, 2, 95, 3, 96, 4, 97, 5, 98, 6, 99, 7),
	}
}

// wrongVals are lists that are not right, by what is wrong with them.
func wrongVals() map[string][]impl.Val {
	wrong := map[string][]impl.Val{
		"none":                      nil,
		"none, with room":           make([]impl.Val, 0, 4),
		"8":                         pairsOf(1, 1, 2, 1, 3, 1, 4, 1, 5, 1, 6, 1, 7, 1, 8, 1),
		"the zero one":              {{}},
		"7 zero ones":               make([]impl.Val, 7),
		"8 zero ones":               make([]impl.Val, 8),
		"two alike":                 pairsOf(4, 2, 4, 2),
		"Ids alike, Powers unlike":  pairsOf(4, 2, 4, 3),
		"Ids fall":                  pairsOf(4, 2, 3, 2),
		"Ids alike at the end":      pairsOf(1, 1, 2, 1, 3, 1, 4, 1, 5, 1, 6, 1, 6, 1),
		"Ids fall at the end":       pairsOf(1, 1, 2, 1, 3, 1, 4, 1, 5, 1, 99, 1, 98, 1),
		"Ids fall at the beginning": pairsOf(2, 1, 1, 1, 3, 1, 4, 1, 5, 1, 6, 1, 7, 1),
		"Ids fall to the first one": pairsOf(5, 1, 6, 1, 5, 1),
		"Ids alike in the midst":    pairsOf(1, 1, 50, 1, 50, 1, 99, 1),
		"Powers of which 0 comes":   pairsOf(1, 5, 2, -5),
		"Id and Power turned about": pairsOf(100, 1, 1000, 2),
		"all right but one Power 0": pairsOf(1, 3, 4, 0, 7, 1),
		"Ids rise, all below 0":     pairsOf(-3, 1, -2, 1, -1, 1),
	}
	for count := 9; count <= 200; count += 41 {
		var l []impl.Val
		for i := range count {
			l = append(l, impl.Val{Id: i + 1, Power: 1})
		}
		wrong[strconv.Itoa(count)] = l
	}
	for _, id := range []int{math.MinInt, -100, -1, 0, 100, 101, 1 << 32, 1<<32 + 5, math.MaxInt} {
		wrong["alone, Id "+strconv.Itoa(id)] = pairsOf(id, 1)
		wrong["first, Id "+strconv.Itoa(id)] = pairsOf(id, 1, 50, 1, 60, 1)
		wrong["last, Id "+strconv.Itoa(id)] = pairsOf(50, 1, 60, 1, id, 1)
	}
	for _, power := range []int{math.MinInt, -1000, -1, 0, 1001, 1002, 1 << 32, 1<<32 + 5, math.MaxInt} {
		for place, name := range []string{"first", "second", "last"} {
			l := pairsOf(1, 1, 50, 1000, 99, 1)
			l[place].Power = power
			wrong[name+", Power "+strconv.Itoa(power)] = l
		}
		wrong["alone, Power "+strconv.Itoa(power)] = pairsOf(1, power)
	}
	return wrong
}

func TestValsNumbers(t *testing.T) {
	if impl.MaxVals != 7 || impl.MaxPower != 1000 {
		t.Errorf("MaxVals is %d, MaxPower is %d", impl.MaxVals, impl.MaxPower)
	}
}

func TestValsOkOfRightOnes(t *testing.T) {
	for _, l := range rightVals() {
		if !impl.ValsOk(l) {
			t.Errorf("ValsOk(%v) is false", l)
		}
	}
	for id := -300; id <= 300; id++ {
		if got, want := impl.ValsOk(pairsOf(id, 1)), 1 <= id && id <= 99; got != want {
			t.Errorf("ValsOk of Id %d is %v", id, got)
		}
	}
	for power := -3000; power <= 3000; power++ {
		if got, want := impl.ValsOk(pairsOf(1, power)), 1 <= power && power <= 1000; got != want {
			t.Errorf("ValsOk of Power %d is %v", power, got)
		}
	}
	for a := range 102 {
		for b := range 102 {
			if got, want := impl.ValsOk(pairsOf(a, 1, b, 1)), 1 <= a && a < b && b <= 99; got != want {
				t.Errorf("ValsOk of Ids %d and %d is %v", a, b, got)
			}
		}
	}
}

// Of what is not right each function gives its one answer.
func TestValsThatAreNotRight(t *testing.T) {
	for name, l := range wrongVals() {
		if impl.ValsOk(l) {
			t.Errorf("%s: ValsOk is true", name)
		}
		if got := impl.PowerOf(l); got != 0 {
			t.Errorf("%s: PowerOf is %d", name, got)
		}
		if impl.Enough(l, idsOf(l)) || impl.Enough(l, nil) {
			t.Errorf("%s: Enough is true", name)
		}
		for _, height := range []int{-1, 0, 1, 2, math.MaxInt} {
			if got := impl.Proposer(l, height, 0) + impl.Proposer(l, 0, height); got != 0 {
				t.Errorf("%s: Proposer is %d", name, got)
			}
		}
		if got := impl.ShowVals(l); got != "" {
			t.Errorf("%s: ShowVals is %q", name, got)
		}
		if got := impl.ValsHash(l); got != "" {
			t.Errorf("%s: ValsHash is %q", name, got)
		}
	}
}

// Changes that would mend a list change nothing of it.
func TestChangeValsOfWrongOnes(t *testing.T) {
	for name, l := range wrongVals() {
		var away []impl.Val
		for _, v := range l {
			away = append(away, impl.Val{Id: v.Id})
		}
		mended := append(slices.Clone(away), impl.Val{Id: 1, Power: 1})
		for _, changes := range [][]impl.Val{nil, pairsOf(1, 1), pairsOf(8, 0), pairsOf(77, 0), away, mended} {
			want := slices.Clone(l)
			if got, ok := impl.ChangeVals(l, changes); ok || !slices.Equal(got, want) {
				t.Errorf("%s: ChangeVals(%v, %v) is %v, %v", name, l, changes, got, ok)
			}
		}
	}
}

func TestPowerOfByHand(t *testing.T) {
	cases := []struct {
		l    []impl.Val
		want int
	}{
		{valsOf(1), 1}, {valsOf(1000), 1000}, {valsOf(2, 1), 3}, {valsOf(3, 2, 1), 6}, {valsOf(4, 3, 2, 1), 10}, {valsOf(1, 2, 3, 4, 5, 6, 7), 28},
		{valsOf(1000, 1000, 1000, 1000, 1000, 1000, 1000), 7000}, {valsOf(1000, 1, 1, 1, 1, 1, 1), 1006}, {pairsOf(98, 5, 99, 5), 10},
	}
	for _, c := range cases {
		if got := impl.PowerOf(c.l); got != c.want {
			t.Errorf("PowerOf(%v) is %d, want %d", c.l, got, c.want)
		}
	}
}

// anyOf are all choices of so many of the places, each behind the places that are in every one.
func anyOf(many int, places string, with string) []string {
	if many == 0 {
		return []string{with}
	}
	var all []string
	for i := range places {
		all = append(all, anyOf(many-1, places[i+1:], with+places[i:i+1])...)
	}
	return all
}

type enoughByHand struct {
	powers []int
	least  []string // the sets, by their places, of which nobody may be lacking
}

func enoughCases() []enoughByHand {
	return []enoughByHand{
		{[]int{5}, []string{"0"}},
		{[]int{1}, []string{"0"}},
		{[]int{1000}, []string{"0"}},
		{[]int{1, 1}, []string{"01"}},
		{[]int{2, 1}, []string{"01"}},
		{[]int{1, 2}, []string{"01"}},
		{[]int{3, 1}, []string{"0"}},
		{[]int{1, 3}, []string{"1"}},
		{[]int{1000, 499}, []string{"0"}},
		{[]int{1000, 500}, []string{"01"}},
		{[]int{1, 1, 1}, []string{"012"}},
		{[]int{1000, 1000, 1000}, []string{"012"}},
		{[]int{1000, 1000, 999}, []string{"01"}},
		{[]int{3, 2, 1}, []string{"01"}},
		{[]int{4, 1, 1}, []string{"01", "02"}},
		{[]int{5, 1, 1}, []string{"0"}},
		{[]int{1, 1, 1, 1}, anyOf(3, "0123", "")},
		{[]int{4, 3, 2, 1}, []string{"01", "023"}},
		{[]int{1000, 1000, 1000, 1}, anyOf(3, "0123", "")},
		{[]int{6, 1, 1, 1}, []string{"01", "02", "03"}},
		{[]int{1, 1, 1, 1, 1, 1, 1}, anyOf(5, "0123456", "")},
		{[]int{1000, 1000, 1000, 1000, 1000, 1000, 1000}, anyOf(5, "0123456", "")},
		{[]int{1000, 1, 1, 1, 1, 1, 1}, []string{"0"}},
		{[]int{4, 1, 1, 1, 1, 1, 1}, anyOf(3, "123456", "0")},
		{[]int{2, 2, 2, 2, 2, 1, 1}, append(append(anyOf(4, "01234", "5"), anyOf(4, "01234", "6")...), "01234")},
		{[]int{10, 10, 10, 1, 1, 1, 1}, slices.Concat([]string{"012"}, anyOf(3, "3456", "01"), anyOf(3, "3456", "02"), anyOf(3, "3456", "12"))},
	}
}

// has tells whether all of least's places are among the set.
func has(set int, least string) bool {
	for _, place := range least {
		if set>>(place-'0')&1 == 0 {
			return false
		}
	}
	return true
}

func TestEnoughByHand(t *testing.T) {
	for _, c := range enoughCases() {
		l := valsOf(c.powers...)
		for set := range 1 << len(l) {
			want := slices.ContainsFunc(c.least, func(least string) bool { return has(set, least) })
			if got := impl.Enough(l, idsIn(l, set)); got != want {
				t.Errorf("Enough(%v, %v) is %v, want %v", l, idsIn(l, set), got, want)
			}
		}
	}
}

// checkMeet holds every set of Ids against two thirds of the Power, and any two that are Enough against a third of it.
func checkMeet(t *testing.T, l []impl.Val) {
	t.Helper()
	all := powerIn(l, 1<<len(l)-1)
	var enough []int
	for set := range 1 << len(l) {
		got := impl.Enough(l, idsIn(l, set))
		if want := big.NewRat(int64(powerIn(l, set)), int64(all)).Cmp(big.NewRat(2, 3)) > 0; got != want {
			t.Errorf("Enough(%v, %v) is %v, want %v", l, idsIn(l, set), got, want)
		}
		if got {
			enough = append(enough, set)
		}
	}
	if len(enough) == 0 {
		t.Errorf("of %v no set is Enough", l)
	}
	for _, a := range enough {
		for _, b := range enough {
			if 3*powerIn(l, a&b) <= all {
				t.Errorf("of %v, %v and %v are Enough, and %v is no more than a third", l, idsIn(l, a), idsIn(l, b), idsIn(l, a&b))
			}
		}
	}
}

func TestTwoThatAreEnoughMeet(t *testing.T) {
	for _, l := range rightVals() {
		checkMeet(t, l)
	}
	for _, c := range enoughCases() {
		checkMeet(t, valsOf(c.powers...))
	}
	for _, count := range []int{1, 2, 3, 4} {
		for number := range int(math.Pow(5, float64(count))) {
			var powers []int
			for range count {
				powers = append(powers, 1+number%5)
				number /= 5
			}
			checkMeet(t, valsOf(powers...))
		}
	}
	for start := range 40 {
		mixed := mixedBytes(uint32(600+start), 14)
		for _, most := range []int{2, 3, 10, 1000} {
			var powers []int
			for i := range 7 {
				powers = append(powers, 1+(int(mixed[2*i])*256+int(mixed[2*i+1]))%most)
			}
			checkMeet(t, valsOf(powers...))
		}
	}
}

// Of each Power of all that two may have: what is just two thirds or less is not Enough, and one more is.
func TestEnoughAroundTwoThirds(t *testing.T) {
	for third := 1; third <= 499; third++ {
		cases := []struct {
			one, other int
			want       bool
		}{
			{2*third - 1, third + 1, false}, {2 * third, third, false}, {2*third + 1, third - 1, true},
			{2 * third, third + 1, false}, {2*third + 1, third, true},
			{2*third + 1, third + 1, false}, {2*third + 2, third, true},
		}
		for _, c := range cases {
			if c.other == 0 {
				continue
			}
			if got := impl.Enough(valsOf(c.one, c.other), []int{1}); got != c.want {
				t.Errorf("Enough of %d with %d left is %v", c.one, c.other, got)
			}
			if got := impl.Enough(valsOf(c.other, c.one), []int{2}); got != c.want {
				t.Errorf("Enough of %d behind %d is %v", c.one, c.other, got)
			}
		}
	}
	seven := []struct {
		powers []int
		want   bool // of the first five
	}{
		{[]int{200, 200, 200, 200, 199, 250, 250}, false}, {[]int{200, 200, 200, 200, 200, 250, 250}, false}, {[]int{200, 200, 200, 200, 201, 250, 250}, true},
		{[]int{800, 800, 800, 800, 799, 1000, 1000}, false}, {[]int{800, 800, 800, 800, 800, 1000, 1000}, false}, {[]int{800, 800, 800, 800, 801, 1000, 1000}, true},
		{[]int{1, 1, 1, 1, 3, 2, 2}, false}, {[]int{1, 1, 1, 1, 4, 2, 2}, false}, {[]int{1, 1, 1, 1, 5, 2, 2}, true},
	}
	for _, c := range seven {
		if got := impl.Enough(valsOf(c.powers...), []int{1, 2, 9, 40, 41}); got != c.want {
			t.Errorf("Enough of the first five of %v is %v", c.powers, got)
		}
	}
}

func TestEnoughOfOddIds(t *testing.T) {
	nobody := []int{math.MinInt, -99, -9, -1, 0, 3, 8, 10, 39, 42, 97, 100, 101, 265, 1<<32 + 1, math.MaxInt}
	for _, c := range enoughCases() {
		l := valsOf(c.powers...)
		if impl.Enough(l, nil) || impl.Enough(l, []int{}) || impl.Enough(l, nobody) {
			t.Errorf("of %v nobody is Enough", l)
		}
		for set := range 1 << len(l) {
			ids := idsIn(l, set)
			want := impl.Enough(l, ids)
			turned := slices.Clone(ids)
			slices.Reverse(turned)
			forms := map[string][]int{
				"twice":          slices.Concat(ids, ids),
				"each twice":     slices.Concat(ids, turned),
				"many times":     slices.Repeat(ids, 1000),
				"turned":         turned,
				"with nobodies":  slices.Concat(nobody, ids, nobody),
				"among nobodies": slices.Concat(ids, nobody, turned, nobody, ids),
			}
			for name, form := range forms {
				if got := impl.Enough(l, form); got != want {
					t.Errorf("Enough(%v, %v %s) is %v, want %v", l, ids, name, got, want)
				}
			}
		}
	}
}

// Places and Powers are no Ids.
func TestEnoughGoesById(t *testing.T) {
	l := pairsOf(10, 2, 20, 30, 30, 5)
	for _, c := range []struct {
		ids  []int
		want bool
	}{{[]int{0}, false}, {[]int{1}, false}, {[]int{2}, false}, {[]int{0, 1, 2}, false}, {[]int{5}, false}, {[]int{30}, false}, {[]int{20}, true}, {[]int{10, 30}, false}, {[]int{2, 30, 5}, false}} {
		if got := impl.Enough(l, c.ids); got != c.want {
			t.Errorf("Enough(%v, %v) is %v", l, c.ids, got)
		}
	}
}

// wantProposer adds the numbers without a greatest one.
func wantProposer(l []impl.Val, height int, round int) int {
	if height < 0 || round < 0 {
		return 0
	}
	sum := new(big.Int).Add(big.NewInt(int64(height)), big.NewInt(int64(round)))
	return l[sum.Mod(sum, big.NewInt(int64(len(l)))).Int64()].Id
}

func TestProposerAtEveryNumber(t *testing.T) {
	numbers := []int{math.MinInt, math.MinInt + 1, -8, -7, -2, -1, 0, 1, 2, 3, 4, 5, 6, 7, 8, 13, 14, 15, 1000, 1000000, 1 << 31, 1 << 32, 1<<62 - 1, 1 << 62, 1<<62 + 1}
	for less := range 15 {
		numbers = append(numbers, math.MaxInt-less)
	}
	for _, l := range rightVals() {
		for _, height := range numbers {
			for _, round := range numbers {
				if got, want := impl.Proposer(l, height, round), wantProposer(l, height, round); got != want {
					t.Errorf("Proposer(%v, %d, %d) is %d, want %d", l, height, round, got, want)
				}
			}
		}
	}
}

func TestProposerByHand(t *testing.T) {
	l := pairsOf(10, 1, 20, 1000, 30, 1)
	// The greatest int is a multiple of 7 and leaves 1 of 3; twice it leaves 2 of 3.
	cases := []struct{ height, round, want int }{
		{0, 0, 10}, {1, 0, 20}, {0, 1, 20}, {1, 1, 30}, {2, 1, 10}, {1, 2, 10}, {2, 2, 20}, {3, 0, 10}, {100, 0, 20}, {0, 100, 20},
		{math.MaxInt, 0, 20}, {0, math.MaxInt, 20}, {math.MaxInt, 1, 30}, {math.MaxInt, math.MaxInt, 30},
		{-1, 0, 0}, {0, -1, 0}, {-1, -1, 0}, {-1, 1, 0}, {2, -1, 0}, {-1, math.MaxInt, 0}, {math.MaxInt, -1, 0}, {math.MinInt, math.MinInt, 0},
	}
	for _, c := range cases {
		if got := impl.Proposer(l, c.height, c.round); got != c.want {
			t.Errorf("Proposer(%v, %d, %d) is %d, want %d", l, c.height, c.round, got, c.want)
		}
	}
	seven := valsOf(1, 1, 1, 1, 1, 1, 1)
	if got := impl.Proposer(seven, math.MaxInt, math.MaxInt); got != 1 {
		t.Errorf("Proposer of seven at twice the greatest int is %d", got)
	}
}

func TestProposerEachInTurn(t *testing.T) {
	for _, l := range rightVals() {
		ids := idsOf(l)
		for from := range 10 {
			var byHeight, byRound, back []int
			for i := range ids {
				byHeight = append(byHeight, impl.Proposer(l, from*len(l)+i, 0))
				byRound = append(byRound, impl.Proposer(l, 0, from*len(l)+i))
				back = append(back, impl.Proposer(l, len(l)-1-i, i))
			}
			if !slices.Equal(byHeight, ids) || !slices.Equal(byRound, ids) || !slices.Equal(back, slices.Repeat(ids[len(ids)-1:], len(ids))) {
				t.Errorf("the turns of %v are %v by height, %v by round, and %v", l, byHeight, byRound, back)
			}
		}
	}
}

type changeByHand struct {
	name    string
	l       []impl.Val
	changes []impl.Val
	want    []impl.Val // nothing: they stay as they are, and it says false
}

func changesOfThree() []changeByHand {
	l := pairsOf(10, 3, 40, 2, 70, 1)
	return []changeByHand{
		{"no change", l, nil, l},
		{"the first away", l, pairsOf(10, 0), pairsOf(40, 2, 70, 1)},
		{"the second away", l, pairsOf(40, 0), pairsOf(10, 3, 70, 1)},
		{"the last away", l, pairsOf(70, 0), pairsOf(10, 3, 40, 2)},
		{"two away", l, pairsOf(70, 0, 10, 0), pairsOf(40, 2)},
		{"all away", l, pairsOf(10, 0, 40, 0, 70, 0), nil},
		{"all away, and one comes", l, pairsOf(10, 0, 40, 0, 70, 0, 55, 9), pairsOf(55, 9)},
		{"one comes, and all others away", l, pairsOf(55, 9, 70, 0, 40, 0, 10, 0), pairsOf(55, 9)},
		{"who is not there away", l, pairsOf(9, 0), nil},
		{"who is no Id away", l, pairsOf(0, 0), nil},
		{"Id 100 away", l, pairsOf(100, 0), nil},
		{"Id -10 away", l, pairsOf(-10, 0), nil},
		{"the same away twice", l, pairsOf(40, 0, 40, 0), nil},
		{"away, another comes, and away", l, pairsOf(40, 0, 41, 1, 40, 0), nil},
		{"away who comes only then", l, pairsOf(50, 0, 50, 1), nil},
		{"comes and goes", l, pairsOf(50, 1, 50, 0), l},
		{"comes and goes twice", l, pairsOf(50, 1, 50, 0, 50, 0), nil},
		{"goes and comes", l, pairsOf(40, 0, 40, 5), pairsOf(10, 3, 40, 5, 70, 1)},
		{"goes and comes as it was", l, pairsOf(40, 0, 40, 2), l},
		{"the last word counts", l, pairsOf(40, 5, 40, 6, 40, 7), pairsOf(10, 3, 40, 7, 70, 1)},
		{"the last word counts, of one who comes", l, pairsOf(50, 9, 50, 8, 50, 7), pairsOf(10, 3, 40, 2, 50, 7, 70, 1)},
		{"goes and comes, several times", l, pairsOf(40, 5, 40, 0, 40, 9, 40, 0, 40, 8), pairsOf(10, 3, 40, 8, 70, 1)},
		{"several of one Id, others between", l, pairsOf(40, 5, 10, 1, 40, 6, 70, 9, 40, 7, 10, 2), pairsOf(10, 2, 40, 7, 70, 9)},
		{"ahead of all", l, pairsOf(9, 4), pairsOf(9, 4, 10, 3, 40, 2, 70, 1)},
		{"Id 1", l, pairsOf(1, 4), pairsOf(1, 4, 10, 3, 40, 2, 70, 1)},
		{"between two", l, pairsOf(11, 4), pairsOf(10, 3, 11, 4, 40, 2, 70, 1)},
		{"between two others", l, pairsOf(69, 4), pairsOf(10, 3, 40, 2, 69, 4, 70, 1)},
		{"behind all", l, pairsOf(71, 4), pairsOf(10, 3, 40, 2, 70, 1, 71, 4)},
		{"Id 99", l, pairsOf(99, 4), pairsOf(10, 3, 40, 2, 70, 1, 99, 4)},
		{"several come, out of order", l, pairsOf(99, 4, 1, 5, 50, 6, 30, 7), pairsOf(1, 5, 10, 3, 30, 7, 40, 2, 50, 6, 70, 1, 99, 4)},
		{"another Power", l, pairsOf(40, 9), pairsOf(10, 3, 40, 9, 70, 1)},
		{"the same Power", l, pairsOf(40, 2), l},
		{"another Power of all", l, pairsOf(70, 7, 40, 4, 10, 1), pairsOf(10, 1, 40, 4, 70, 7)},
		{"Power 1", l, pairsOf(10, 1), pairsOf(10, 1, 40, 2, 70, 1)},
		{"Power 1000", l, pairsOf(70, 1000), pairsOf(10, 3, 40, 2, 70, 1000)},
		{"Power 1001", l, pairsOf(70, 1001), nil},
		{"Power -1", l, pairsOf(40, -1), nil},
		{"one comes with Power -1", l, pairsOf(50, -1), nil},
		{"one comes with Power 1001", l, pairsOf(50, 1001), nil},
		{"the greatest Power", l, pairsOf(50, math.MaxInt), nil},
		{"the least Power", l, pairsOf(50, math.MinInt), nil},
		{"Id 0 comes", l, pairsOf(0, 1), nil},
		{"Id 100 comes", l, pairsOf(100, 1), nil},
		{"the least and the greatest Id come", l, pairsOf(math.MaxInt, 1, math.MinInt, 1), nil},
		{"one is good, the next not", l, pairsOf(40, 9, 70, 0, 5, 5, 88, 0), nil},
		{"one is not good, the next is", l, pairsOf(88, 0, 40, 9), nil},
		// By the chapter's words it is what comes of all changes that has to be right.
		{"wrong Power, mended", l, pairsOf(40, -1, 40, 9), pairsOf(10, 3, 40, 9, 70, 1)},
		{"wrong Power, away", l, pairsOf(50, 1001, 50, 0), l},
		{"wrong Ids, away", l, pairsOf(100, 1, 0, 1, math.MinInt, 1, math.MaxInt, 1, 0, 0, math.MaxInt, 0, math.MinInt, 0, 100, 0), l},
	}
}

func changesOfOneAndSeven() []changeByHand {
	one := pairsOf(50, 5)
	seven := pairsOf(10, 1, 20, 2, 30, 3, 40, 4, 50, 5, 60, 6, 70, 7)
	return []changeByHand{
		{"of one, no change", one, nil, one},
		{"of one, it goes", one, pairsOf(50, 0), nil},
		{"of one, it goes and comes", one, pairsOf(50, 0, 50, 6), pairsOf(50, 6)},
		{"of one, another for it", one, pairsOf(50, 0, 49, 6), pairsOf(49, 6)},
		{"of one, six come", one, pairsOf(1, 1, 2, 2, 3, 3, 97, 4, 98, 5, 99, 6), pairsOf(1, 1, 2, 2, 3, 3, 50, 5, 97, 4, 98, 5, 99, 6)},
		{"of one, seven come", one, pairsOf(1, 1, 2, 2, 3, 3, 96, 7, 97, 4, 98, 5, 99, 6), nil},
		{"of seven, no change", seven, nil, seven},
		{"of seven, an eighth ahead", seven, pairsOf(1, 1), nil},
		{"of seven, an eighth between", seven, pairsOf(45, 1), nil},
		{"of seven, an eighth behind", seven, pairsOf(99, 1), nil},
		{"of seven, one goes and one comes", seven, pairsOf(40, 0, 45, 1), pairsOf(10, 1, 20, 2, 30, 3, 45, 1, 50, 5, 60, 6, 70, 7)},
		{"of seven, one comes and one goes", seven, pairsOf(45, 1, 40, 0), pairsOf(10, 1, 20, 2, 30, 3, 45, 1, 50, 5, 60, 6, 70, 7)},
		{"of seven, two come and one goes", seven, pairsOf(45, 1, 40, 0, 46, 1), nil},
		{"of seven, an eighth comes and goes", seven, pairsOf(45, 1, 45, 0), seven},
		{"of seven, other Powers", seven, pairsOf(70, 1, 10, 7), pairsOf(10, 7, 20, 2, 30, 3, 40, 4, 50, 5, 60, 6, 70, 1)},
		{"of seven, six go", seven, pairsOf(70, 0, 10, 0, 60, 0, 20, 0, 50, 0, 30, 0), pairsOf(40, 4)},
		{"of seven, all go", seven, pairsOf(70, 0, 10, 0, 60, 0, 20, 0, 50, 0, 30, 0, 40, 0), nil},
	}
}

func TestChangeValsByHand(t *testing.T) {
	for _, c := range slices.Concat(changesOfThree(), changesOfOneAndSeven()) {
		want := c.want
		if want == nil {
			want = c.l
		}
		if got, ok := impl.ChangeVals(c.l, c.changes); ok != (c.want != nil) || !slices.Equal(got, want) {
			t.Errorf("%s: ChangeVals(%v, %v) is %v, %v", c.name, c.l, c.changes, got, ok)
		}
	}
}

// wantChanged does one change after the other in a map.
func wantChanged(l []impl.Val, changes []impl.Val) ([]impl.Val, bool) {
	powers := map[int]int{}
	for _, v := range l {
		powers[v.Id] = v.Power
	}
	for _, c := range changes {
		if _, there := powers[c.Id]; c.Power == 0 && !there {
			return l, false
		}
		powers[c.Id] = c.Power
		if c.Power == 0 {
			delete(powers, c.Id)
		}
	}
	var changed []impl.Val
	for id := 1; id <= 99; id++ {
		if power := powers[id]; 1 <= power && power <= 1000 {
			changed = append(changed, impl.Val{Id: id, Power: power})
			delete(powers, id)
		}
	}
	if len(powers) > 0 || len(changed) < 1 || len(changed) > 7 {
		return l, false
	}
	return changed, true
}

func TestChangeValsOneByOne(t *testing.T) {
	done := map[bool]int{}
	for start := range 20000 {
		mixed := mixedBytes(uint32(start), 24)
		l := rightVals()[start%len(rightVals())]
		known := idsOf(l)
		var changes []impl.Val
		for i := range start % 12 {
			id := known[int(mixed[2*i])%len(known)]
			if mixed[2*i]%2 == 0 {
				id = int(mixed[2*i]/2)%14 - 1
			}
			changes = append(changes, impl.Val{Id: id, Power: max(-1, int(mixed[2*i+1])%12-3)})
		}
		want, wantOk := wantChanged(l, changes)
		if got, ok := impl.ChangeVals(l, changes); ok != wantOk || !slices.Equal(got, want) {
			t.Fatalf("ChangeVals(%v, %v) is %v, %v, want %v, %v", l, changes, got, ok, want, wantOk)
		}
		done[wantOk]++
	}
	if done[true] < 1000 || done[false] < 1000 {
		t.Errorf("of the changes %d were done and %d not: too few to tell", done[true], done[false])
	}
}

func TestChangeValsOfManyChanges(t *testing.T) {
	l := pairsOf(1, 3, 4, 2, 7, 1)
	const many = 300000
	var come, leave []impl.Val
	for id := many; id > 100; id-- {
		come = append(come, impl.Val{Id: id, Power: 1})
		leave = append(leave, impl.Val{Id: id})
	}
	if got, ok := impl.ChangeVals(l, come); ok || !slices.Equal(got, l) {
		t.Errorf("with so many who come it is %v, %v", got, ok)
	}
	if got, ok := impl.ChangeVals(l, slices.Concat(come, pairsOf(4, 9), leave)); !ok || !slices.Equal(got, pairsOf(1, 3, 4, 9, 7, 1)) {
		t.Errorf("with so many who come and go it is %v, %v", got, ok)
	}
	if got, ok := impl.ChangeVals(l, slices.Concat(come, pairsOf(4, 9), leave, leave[:1])); ok || !slices.Equal(got, l) {
		t.Errorf("with one who goes twice it is %v, %v", got, ok)
	}
}

// shownByHand are validators and their texts, byte by byte.
func shownByHand() map[string][]impl.Val {
	return map[string][]impl.Val{
		"\x01\x01\x01":                         pairsOf(1, 1),
		"\x01\x63\xe8\x07":                     pairsOf(99, 1000),
		"\x01\x63\x7f":                         pairsOf(99, 127),
		"\x01\x63\x80\x01":                     pairsOf(99, 128),
		"\x02\x01\xac\x02\x02\xff\x01":         pairsOf(1, 300, 2, 255),
		"\x03\x01\x03\x04\x02\x07\x01":         pairsOf(1, 3, 4, 2, 7, 1),
		"\x04\x01\x01\x02\x01\x03\x01\x04\x01": pairsOf(1, 1, 2, 1, 3, 1, 4, 1),
		"\x07\x01\xe8\x07\x02\xe8\x07\x09\xe8\x07\x28\xe8\x07\x29\xe8\x07\x62\xe8\x07\x63\xe8\x07": valsOf(1000, 1000, 1000, 1000, 1000, 1000, 1000),
		"\x07\x5d\x01\x5e\x02\x5f\x03\x60\x04\x61\x05\x62\x06\x63\x07":                             pairsOf(93, 1, 94, 2, 95, 3, 96, 4, 97, 5, 98, 6, 99, 7),
	}
}

func TestShowValsByHand(t *testing.T) {
	for want, l := range shownByHand() {
		if got := impl.ShowVals(l); got != want {
			t.Errorf("ShowVals(%v) is %x, want %x", l, got, want)
		}
		if got, ok := impl.ReadVals(want); !ok || !slices.Equal(got, l) {
			t.Errorf("ReadVals(%x) is %v, %v, want %v", want, got, ok, l)
		}
	}
}

// wantShown writes each number by its one or two bytes.
func wantShown(l []impl.Val) string {
	s := []byte{byte(len(l))}
	for _, v := range l {
		s = append(s, byte(v.Id))
		if v.Power < 128 {
			s = append(s, byte(v.Power))
		} else {
			s = append(s, byte(v.Power&127|128), byte(v.Power>>7))
		}
	}
	return string(s)
}

func TestShowValsAndReadValsBothWays(t *testing.T) {
	lists := rightVals()
	for id := 1; id <= 99; id++ {
		for power := 1; power <= 1000; power++ {
			lists = append(lists, pairsOf(id, power))
		}
	}
	for _, l := range lists {
		s := impl.ShowVals(l)
		if want := wantShown(l); s != want {
			t.Fatalf("ShowVals(%v) is %x, want %x", l, s, want)
		}
		if got, ok := impl.ReadVals(s); !ok || !slices.Equal(got, l) {
			t.Fatalf("ReadVals(%x) is %v, %v, want %v", s, got, ok, l)
		}
	}
}

// checkRead holds what ReadVals tells of any text against what ShowVals makes of that, and tells whether it was read.
func checkRead(t *testing.T, s string) bool {
	t.Helper()
	got, ok := impl.ReadVals(s)
	if !ok && len(got) > 0 {
		t.Errorf("ReadVals(%x) is %v and false", s, got)
	}
	if ok && (!impl.ValsOk(got) || impl.ShowVals(got) != s || wantShown(got) != s) {
		t.Errorf("ReadVals(%x) is %v, of which ShowVals makes %x", s, got, impl.ShowVals(got))
	}
	return ok
}

func TestReadValsWrong(t *testing.T) {
	wrong := map[string]string{
		"empty":                         "",
		"a count of 0":                  "\x00",
		"a count of 0, and one":         "\x00\x01\x01",
		"a count of 1, and none":        "\x01",
		"a count of 1, and an Id":       "\x01\x01",
		"a count of 2, and one":         "\x02\x01\x01",
		"a count of 1, and two":         "\x01\x01\x01\x02\x01",
		"a count of 8, and eight":       "\x08\x01\x01\x02\x01\x03\x01\x04\x01\x05\x01\x06\x01\x07\x01\x08\x01",
		"a count of 8, and seven":       "\x08\x01\x01\x02\x01\x03\x01\x04\x01\x05\x01\x06\x01\x07\x01",
		"a count of 7, and eight":       "\x07\x01\x01\x02\x01\x03\x01\x04\x01\x05\x01\x06\x01\x07\x01\x08\x01",
		"a count of 8, alone":           "\x08",
		"the greatest count":            "\xff\xff\xff\xff\xff\xff\x7f\x01\x01",
		"a count that is no Var":        "\xff\xff\xff\xff\xff\xff\xff\x7f\x01\x01",
		"a byte too many in the count":  "\x81\x00\x01\x01",
		"a byte too many in the Id":     "\x01\x81\x00\x01",
		"a byte too many in the Power":  "\x01\x01\x81\x00",
		"a byte too many in 1000":       "\x01\x01\xe8\x87\x00",
		"two bytes too many":            "\x01\x01\x81\x80\x00",
		"a byte too many in the second": "\x02\x01\x01\x82\x00\x01",
		"an Id that does not end":       "\x01\x81",
		"a Power that does not end":     "\x01\x01\x81",
		"Id 0":                          "\x01\x00\x01",
		"Id 100":                        "\x01\x64\x01",
		"Id 128":                        "\x01\x80\x01\x01",
		"Id 257":                        "\x01\x81\x02\x01",
		"Power 0":                       "\x01\x01\x00",
		"Power 1001":                    "\x01\x01\xe9\x07",
		"Power 16385":                   "\x01\x01\x81\x80\x01",
		"Power MaxVar":                  "\x01\x01\xff\xff\xff\xff\xff\xff\x7f",
		"Ids alike":                     "\x02\x04\x01\x04\x01",
		"Ids alike, Powers unlike":      "\x02\x04\x01\x04\x02",
		"Ids fall":                      "\x02\x04\x01\x01\x01",
		"Ids fall at the end":           "\x03\x04\x01\x05\x01\x04\x01",
		"a byte 0 more":                 "\x01\x01\x01\x00",
		"a byte more":                   "\x01\x01\x01x",
		"a byte ahead":                  "\x00\x01\x01\x01",
		"twice":                         "\x01\x01\x01\x01\x01\x01",
		"digits":                        "1 1 1",
		"long":                          "\x01\x01\x01" + strings.Repeat("\x01", 100000),
		"long and no Var":               strings.Repeat("\xff", 100000),
		"noughts":                       strings.Repeat("\x00", 100),
		"sevens":                        strings.Repeat("\x07", 15),
	}
	for name, s := range wrong {
		if got, ok := impl.ReadVals(s); ok || len(got) > 0 {
			t.Errorf("%s: ReadVals(%.40x) is %v, %v", name, s, got, ok)
		}
	}
}

func TestReadValsOfBentTexts(t *testing.T) {
	for _, l := range rightVals() {
		s := impl.ShowVals(l)
		for end := range len(s) {
			if checkRead(t, s[:end]) {
				t.Errorf("%x, the first %d bytes of %x, is read", s[:end], end, s)
			}
		}
		for more := range 256 {
			if checkRead(t, s+string([]byte{byte(more)})) {
				t.Errorf("%x and a byte %d is read", s, more)
			}
		}
		for at := range len(s) {
			for other := range 256 {
				bent := []byte(s)
				bent[at] = byte(other)
				checkRead(t, string(bent))
				checkRead(t, string(slices.Insert([]byte(s), at, byte(other))))
			}
			checkRead(t, s[:at]+s[at+1:])
		}
	}
}

// Of all texts of three bytes, and of those of four with a Power of two bytes, as many are read as there are such validators.
func TestReadValsOfShortTexts(t *testing.T) {
	shortTexts(func(s string) {
		if checkRead(t, s) {
			t.Errorf("%x is read", s)
		}
	})
	three := map[int]int{}
	for _, count := range []int{0, 1, 2, 3, 8, 128, 129, 255} {
		shortTexts(func(s string) {
			if len(s) == 2 && checkRead(t, string([]byte{byte(count)})+s) {
				three[count]++
			}
		})
	}
	if want := 99 * 127; three[1] != want || len(three) != 1 {
		t.Errorf("of three bytes are read, by the first one, %v; want %d", three, want)
	}
	four := map[int]int{}
	for _, id := range []int{0, 1, 50, 99, 100, 128, 129} {
		shortTexts(func(s string) {
			if len(s) == 2 && checkRead(t, string([]byte{1, byte(id)})+s) {
				four[id]++
			}
		})
	}
	if want := 1000 - 127; four[1] != want || four[50] != want || four[99] != want || len(four) != 3 {
		t.Errorf("of four bytes are read, by the Id, %v; want %d", four, want)
	}
}

func TestValsHashIsShortOfTheText(t *testing.T) {
	shown := map[string]string{}
	for _, l := range rightVals() {
		sum := sha256.Sum256([]byte(wantShown(l)))
		got := impl.ValsHash(l)
		if got != string(sum[:8]) || got != impl.Short(impl.ShowVals(l)) {
			t.Errorf("ValsHash(%v) is %x, want %x", l, got, sum[:8])
		}
		if s, ok := shown[got]; ok && s != wantShown(l) {
			t.Errorf("%v has the hash of others", l)
		}
		shown[got] = wantShown(l)
	}
}

// What is wanted here was worked out outside Go, with no part of the program.
func TestValsHashKnown(t *testing.T) {
	known := map[string][]impl.Val{
		"75c8fd04ad916aec": pairsOf(1, 1),
		"26ef56f40b706389": pairsOf(1, 3, 4, 2, 7, 1),
		"1d495733603bd61f": pairsOf(99, 1000),
	}
	for want, l := range known {
		if got := impl.Hex(impl.ValsHash(l)); got != want {
			t.Errorf("ValsHash(%v) is %s, want %s", l, got, want)
		}
	}
}

// roomyVals is a copy of a list with spare room behind it, and all of that room.
func roomyVals(l []impl.Val) ([]impl.Val, []impl.Val) {
	all := append(slices.Clone(l), pairsOf(501, 1, 502, 2, 503, 3, 504, 4, 505, 5, 506, 6, 507, 7, 508, 8)...)
	return all[:len(l)], all
}

func TestValsWriteIntoNoArgument(t *testing.T) {
	lists := rightVals()
	for _, l := range wrongVals() {
		lists = append(lists, l)
	}
	for _, given := range lists {
		l, all := roomyVals(given)
		want := slices.Clone(all)
		allIds := append(idsOf(l), 77, 1, 9, 1, 501, 502, 503)
		ids, wantIds := allIds[:len(l)], slices.Clone(allIds)
		impl.ValsOk(l)
		impl.PowerOf(l)
		impl.Enough(l, ids)
		impl.Proposer(l, 3, 4)
		impl.ShowVals(l)
		impl.ValsHash(l)
		for _, c := range slices.Concat(changesOfThree(), changesOfOneAndSeven()) {
			changes, allChanges := roomyVals(c.changes)
			wantChanges := slices.Clone(allChanges)
			impl.ChangeVals(l, changes)
			impl.ChangeVals(changes, l)
			if !slices.Equal(allChanges, wantChanges) {
				t.Errorf("%s: the changes were written into", c.name)
			}
		}
		if !slices.Equal(all, want) || !slices.Equal(allIds, wantIds) {
			t.Errorf("an argument was written into: %v is now %v, or %v is now %v", want, all, wantIds, allIds)
		}
	}
}

// writeOver writes over a list, up to the end of its room.
func writeOver(l []impl.Val) {
	l = l[:cap(l)]
	for i := range l {
		l[i] = impl.Val{Id: -7, Power: -7}
	}
}

// What ChangeVals answered is written over, and so is what it was given: neither changes with the other, nor with another answer.
func TestChangeValsOwnsItsMemory(t *testing.T) {
	cases := slices.Concat(changesOfThree(), changesOfOneAndSeven())
	for name, l := range wrongVals() {
		cases = append(cases, changeByHand{name: name, l: l, changes: pairsOf(1, 1)})
	}
	for _, c := range cases {
		want := c.want
		if want == nil {
			want = slices.Clone(c.l)
		}
		l, all := roomyVals(c.l)
		changes, allChanges := roomyVals(c.changes)
		wantAll, wantChanges := slices.Clone(all), slices.Clone(allChanges)
		kept, _ := impl.ChangeVals(l, changes)
		over, _ := impl.ChangeVals(l, changes)
		writeOver(over)
		if !slices.Equal(all, wantAll) || !slices.Equal(allChanges, wantChanges) {
			t.Errorf("%s: an argument changed with the answer", c.name)
		}
		again, _ := impl.ChangeVals(l, changes)
		writeOver(all)
		writeOver(allChanges)
		if !slices.Equal(kept, want) || !slices.Equal(again, want) {
			t.Errorf("%s: an answer changed, to %v and %v, want %v", c.name, kept, again, want)
		}
	}
}

func TestReadValsOwnsItsMemory(t *testing.T) {
	for _, l := range rightVals() {
		s := impl.ShowVals(l)
		kept, _ := impl.ReadVals(s)
		over, _ := impl.ReadVals(s)
		writeOver(over)
		if again, ok := impl.ReadVals(s); !ok || !slices.Equal(again, l) || !slices.Equal(kept, l) {
			t.Errorf("ReadVals(%x) changed with another answer, to %v and %v", s, kept, again)
		}
	}
}

func TestValsFromManyAtOnce(t *testing.T) {
	lists := rightVals()
	cases := slices.Concat(changesOfThree(), changesOfOneAndSeven())
	var wait sync.WaitGroup
	for range 8 {
		wait.Go(func() {
			for _, l := range lists {
				if got, ok := impl.ReadVals(impl.ShowVals(l)); !ok || !slices.Equal(got, l) || !impl.Enough(l, idsOf(l)) {
					t.Errorf("%v was answered otherwise", l)
				}
			}
			for _, c := range cases {
				if got, ok := impl.ChangeVals(c.l, c.changes); ok != (c.want != nil) || ok && !slices.Equal(got, c.want) {
					t.Errorf("%s was answered otherwise", c.name)
				}
			}
		})
	}
	wait.Wait()
}
