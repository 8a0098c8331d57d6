package tests

import (
	"crypto/sha256"
	"encoding/binary"
	"maps"
	"math"
	"math/bits"
	"slices"
	"strconv"
	"strings"
	"sync"
	"testing"

	"loop.example/g00946/impl"
)

// P9: in a commit each counts once; without Enough of them it is none. (And P1 for what ShowCommit and ReadCommit write and read.)

// committed is the vote that a signature of that validator stands for in a commit.
func committed(c impl.Commit, val int) impl.Vote {
	return impl.Vote{Height: c.Height, Round: c.Round, Step: 2, Id: c.Id, Val: val}
}

// signedFor is what that validator signs for a commit.
func signedFor(c impl.Commit, val int) impl.CSig {
	return impl.CSig{Val: val, Sig: impl.SignAs(val, impl.Digest(committed(c, val)))}
}

// withSigs is a commit with these signatures in place of its own.
func withSigs(c impl.Commit, sigs ...impl.CSig) impl.Commit {
	c.Sigs = sigs
	return c
}

// signedBy is a commit with good signatures of these validators, in this order.
func signedBy(c impl.Commit, vals ...int) impl.Commit {
	c.Sigs = nil
	for _, val := range vals {
		c.Sigs = append(c.Sigs, signedFor(c, val))
	}
	return c
}

// blockCommit is for the block of blockVote; it has no signature yet.
func blockCommit() impl.Commit {
	return impl.Commit{Height: 5, Round: 2, Id: "abcdefgh"}
}

// openCommits are of heights, rounds and blocks of many kinds, all such as a vote may have; they have no signature yet.
func openCommits() []impl.Commit {
	var l []impl.Commit
	for _, height := range []int{1, 2, 127, 128, 16384, 999999, 1000000} {
		for _, round := range []int{0, 1, 128, 999, 1000} {
			for _, id := range voteIds() {
				l = append(l, impl.Commit{Height: height, Round: round, Id: id})
			}
		}
	}
	return l
}

// noCommits are of a Height, a Round or an Id that no vote may have, by what is wrong with them; they have no signature yet.
func noCommits() map[string]impl.Commit {
	wrong := map[string]impl.Commit{"the zero one": {}}
	for _, n := range append(edgeNumbers(), 999, 1000, 1001, 1002) {
		name := strconv.Itoa(n)
		for _, id := range []string{"", "abcdefgh"} {
			if n < 1 || n > 1000000 {
				wrong["Height "+name+" for "+id] = impl.Commit{Height: n, Round: 2, Id: id}
			}
			if n < 0 || n > 1000 {
				wrong["Round "+name+" for "+id] = impl.Commit{Height: 5, Round: n, Id: id}
			}
		}
	}
	for i, id := range noVoteIds() {
		wrong["Id "+strconv.Itoa(i)+", of "+strconv.Itoa(len(id))] = impl.Commit{Height: 5, Round: 2, Id: id}
	}
	return wrong
}

// wantCommitVals asks of each validator that there may be whether one of the signatures is its own.
func wantCommitVals(c impl.Commit) []int {
	var vals []int
	for val := 1; val <= 99 && len(c.Sigs) <= 12; val++ {
		its := func(s impl.CSig) bool { return s.Val == val && wantSigned(committed(c, val), s.Sig) }
		if slices.ContainsFunc(c.Sigs, its) {
			vals = append(vals, val)
		}
	}
	return vals
}

func checkCommitVals(t *testing.T, name string, c impl.Commit, want ...int) {
	t.Helper()
	if got := impl.CommitVals(c); !slices.Equal(got, want) {
		t.Errorf("%s: CommitVals(%#v) is %v, want %v", name, c, got, want)
	}
}

// ordersOf are all orders of a list.
func ordersOf[E any](l []E) [][]E {
	if len(l) == 0 {
		return [][]E{nil}
	}
	var all [][]E
	for _, order := range ordersOf(l[1:]) {
		for at := range len(l) {
			all = append(all, slices.Insert(slices.Clone(order), at, l[0]))
		}
	}
	return all
}

func TestCommitNumbers(t *testing.T) {
	if impl.MaxSigs != 12 {
		t.Errorf("MaxSigs is %d", impl.MaxSigs)
	}
}

// What is wanted here was worked out outside Go, with no part of the program.
func TestCommitsKnown(t *testing.T) {
	known := []struct {
		text string
		c    impl.Commit
		vals []int
	}{
		{"0100086162636465666768010108022277e3e69f6c54", impl.Commit{Height: 1, Id: "abcdefgh"}, []int{1}},
		{"ac0280010002020854f8a040165a01346308ed1f5461c5eb86c9", impl.Commit{Height: 300, Round: 128}, []int{2, 99}},
		{"c0843de80708ffffffffffffffff033208231425738058b5b90708846d2cc32db1315b0108d3503799a07f7020", impl.Commit{Height: 1000000, Round: 1000, Id: strings.Repeat("\xff", 8)}, []int{50, 7, 1}},
		{"020508fbf2e794faa4bacd020408450bc0e934f7fe6501083886f9b3059b3adb", impl.Commit{Height: 2, Round: 5, Id: "\xfb\xf2\xe7\x94\xfa\xa4\xba\xcd"}, []int{4, 1}},
	}
	for _, k := range known {
		c := signedBy(k.c, k.vals...)
		if got := impl.Hex(impl.ShowCommit(c)); got != k.text {
			t.Errorf("ShowCommit(%#v) is %s, want %s", c, got, k.text)
		}
		text, _ := impl.Unhex(k.text)
		read, ok := impl.ReadCommit(text)
		if !ok || !sameCommit(read, c) {
			t.Errorf("ReadCommit of %s is %#v, %v, want %#v", k.text, read, ok, c)
		}
		checkCommitVals(t, k.text, read, slices.Sorted(slices.Values(k.vals))...)
	}
	l := pairsOf(1, 3, 4, 2, 7, 1)
	h := impl.Header{Height: 2, Time: 300, Last: "01234567", Vals: "\x26\xef\x56\xf4\x0b\x70\x63\x89", Next: "ABCDEFGH", Data: "hi"}
	text, _ := impl.Unhex(known[3].text)
	c, _ := impl.ReadCommit(text)
	if !impl.CommitOk(l, h, c) {
		t.Errorf("CommitOk(%v, %#v, %#v) is false", l, h, c)
	}
	c.Sigs = c.Sigs[:1]
	if impl.CommitOk(l, h, c) {
		t.Errorf("CommitOk(%v, %#v, %#v) is true", l, h, c)
	}
}

func TestCommitValsOfManyCommits(t *testing.T) {
	for i, c := range openCommits() {
		for _, vals := range [][]int{{1}, {99}, {50, 2}, {7, 1, 99}, {1, 2, 3, 4, 5, 6, 7}, {98, 97, 1, 2, 96, 3}, {1 + i%99, 1 + (i+40)%99, 1 + (i+80)%99}} {
			checkCommitVals(t, "signed by some", signedBy(c, vals...), slices.Sorted(slices.Values(vals))...)
		}
		checkCommitVals(t, "signed by none", c)
	}
	for val := 1; val <= 99; val++ {
		checkCommitVals(t, "one alone", signedBy(blockCommit(), val), val)
	}
}

// Whatever order the signatures stand in, what is told rises.
func TestCommitValsInEveryOrder(t *testing.T) {
	for _, vals := range [][]int{{1, 2, 3, 4, 5}, {1, 9, 50, 98, 99}, {10, 9, 2, 90, 11}, {64, 65, 63, 66, 1}} {
		want := slices.Sorted(slices.Values(vals))
		for _, order := range ordersOf(vals) {
			checkCommitVals(t, "in some order", signedBy(blockCommit(), order...), want...)
		}
	}
	twelve := []int{99, 1, 98, 2, 97, 3, 96, 4, 95, 5, 94, 6}
	for range 200 {
		twelve = append(twelve[1:], twelve[0])
		checkCommitVals(t, "twelve", signedBy(blockCommit(), twelve...), 1, 2, 3, 4, 5, 6, 94, 95, 96, 97, 98, 99)
	}
}

// One whose signature stands twice or more is told once.
func TestCommitValsThatStandTwice(t *testing.T) {
	for _, c := range []impl.Commit{blockCommit(), {Height: 1}, {Height: 1000000, Round: 1000, Id: strings.Repeat("\xff", 8)}} {
		for count := range 13 {
			checkCommitVals(t, strconv.Itoa(count)+" times", signedBy(c, slices.Repeat([]int{7}, count)...), slices.Repeat([]int{7}, min(count, 1))...)
		}
		for _, order := range ordersOf([]int{3, 1, 3, 1, 2}) {
			checkCommitVals(t, "two of them twice", signedBy(c, order...), 1, 2, 3)
		}
		checkCommitVals(t, "each twice", signedBy(c, 6, 5, 4, 3, 2, 1, 1, 2, 3, 4, 5, 6), 1, 2, 3, 4, 5, 6)
		checkCommitVals(t, "the last and the first", signedBy(c, 99, 1, 99, 1, 99), 1, 99)
	}
}

// badSigs are texts that that validator's signature for a commit is not, by what they are.
func badSigs(c impl.Commit, val int) map[string]string {
	v := committed(c, val)
	good := signedFor(c, val).Sig
	bad := bentSigs(v, good)
	for _, near := range nearVotes(v) {
		bad["of Height "+strconv.Itoa(near.Height)+", Round "+strconv.Itoa(near.Round)+", Step "+strconv.Itoa(near.Step)+", Val "+strconv.Itoa(near.Val)+", Id "+near.Id] = signedNear(near)
	}
	for at := range len(good) {
		for _, turn := range []byte{1, 2, 128, 255} {
			bad["bent at "+strconv.Itoa(at)+" by "+strconv.Itoa(int(turn))] = good[:at] + string([]byte{good[at] ^ turn}) + good[at+1:]
		}
	}
	for _, b := range []string{"\x00", "\x01", "x", "\xff", good[:1], good[7:]} {
		bad["with "+impl.Hex(b)+" behind"] = good + b
		bad["with "+impl.Hex(b)+" ahead"] = b + good
	}
	return bad
}

func signedNear(v impl.Vote) string {
	return impl.SignAs(v.Val, impl.Digest(v))
}

// A bad signature counts for nobody, and takes nothing from a good one, ahead of it or behind it.
func TestCommitValsOfBadSignatures(t *testing.T) {
	for _, c := range []impl.Commit{blockCommit(), {Height: 1}, {Height: 300, Round: 128}, {Height: 1000000, Round: 1000, Id: strings.Repeat("\x00", 8)}} {
		for _, val := range []int{1, 4, 50, 99} {
			good := signedFor(c, val)
			for name, text := range badSigs(c, val) {
				bad := impl.CSig{Val: val, Sig: text}
				checkCommitVals(t, name+", alone", withSigs(c, bad))
				checkCommitVals(t, name+", twice", withSigs(c, bad, bad))
				checkCommitVals(t, name+", ahead of the good one", withSigs(c, bad, good), val)
				checkCommitVals(t, name+", behind the good one", withSigs(c, good, bad), val)
				checkCommitVals(t, name+", around the good one", withSigs(c, bad, good, bad), val)
				checkCommitVals(t, name+", among others", withSigs(c, signedFor(c, 70), bad, signedFor(c, 30)), 30, 70)
			}
		}
	}
}

// What one signed is nobody else's, for none of all that there may be.
func TestCommitValsOfOthersSignatures(t *testing.T) {
	c := blockCommit()
	for _, signer := range []int{1, 2, 3, 98, 99} {
		sig := signedFor(c, signer).Sig
		for val := -2; val <= 102; val++ {
			other := impl.CSig{Val: val, Sig: sig}
			if val == signer {
				checkCommitVals(t, "its own", withSigs(c, other), val)
				continue
			}
			checkCommitVals(t, "another one's", withSigs(c, other))
			checkCommitVals(t, "another one's behind it", withSigs(c, signedFor(c, signer), other), signer)
		}
	}
}

// The signatures of a commit are for none of another Height, Round or Id, and not for a prevote.
func TestCommitValsOfOtherCommits(t *testing.T) {
	l := openCommits()
	for i, c := range l {
		signed := signedBy(c, 3, 1, 2)
		for _, j := range []int{i + 1, i + 2, i + 8, i + 16, i + 40, i + 80, i + 133} {
			other := withSigs(l[j%len(l)], signed.Sigs...)
			checkCommitVals(t, "of another commit", other)
		}
		var sigs []impl.CSig
		for val := 1; val <= 3; val++ {
			v := committed(c, val)
			v.Step = 1
			sigs = append(sigs, impl.CSig{Val: val, Sig: signedNear(v)})
		}
		checkCommitVals(t, "of prevotes", withSigs(c, sigs...))
		checkCommitVals(t, "of two prevotes and a precommit", withSigs(c, sigs[0], signed.Sigs[0], sigs[1], sigs[2]), 3)
	}
}

// sigsOfAny are texts that somebody might take for the signature of one that is not there, or for what may not be.
func sigsOfAny(c impl.Commit, val int) []string {
	v := committed(c, val)
	return append(sigsToTry(v), impl.SignAs(1, ""), signedNear(committed(blockCommit(), 1)), wantSign(((val%99)+99)%99+1, wantDigest(v)))
}

func TestCommitValsOfNobody(t *testing.T) {
	nobody := []int{-99, -50, 100, 101, 257, 355, 65537, 1<<32 + 1, 1 << 62}
	for _, n := range edgeNumbers() {
		if n < 1 || n > 99 {
			nobody = append(nobody, n)
		}
	}
	for _, c := range []impl.Commit{blockCommit(), {Height: 1}} {
		for _, val := range nobody {
			for _, sig := range sigsOfAny(c, val) {
				none := impl.CSig{Val: val, Sig: sig}
				checkCommitVals(t, "of nobody", withSigs(c, none))
				checkCommitVals(t, "of nobody and two", withSigs(c, signedFor(c, 99), none, signedFor(c, 1)), 1, 99)
			}
		}
	}
}

// As many as MaxSigs are gone through; of one more nothing is told, whatever they are.
func TestCommitValsOfTooMany(t *testing.T) {
	c := blockCommit()
	for count := range 40 {
		rising, alike, zeros := withSigs(c), withSigs(c), withSigs(c)
		var want []int
		for i := range count {
			rising.Sigs = append(rising.Sigs, signedFor(c, i+1))
			alike.Sigs = append(alike.Sigs, signedFor(c, 5))
			zeros.Sigs = append(zeros.Sigs, impl.CSig{})
			want = append(want, i+1)
		}
		if count > 12 {
			want = nil
		}
		checkCommitVals(t, strconv.Itoa(count), rising, want...)
		checkCommitVals(t, strconv.Itoa(count)+" zero ones", zeros)
		if count > 0 {
			zeros.Sigs[count-1] = signedFor(c, 5)
		}
		five := slices.Repeat([]int{5}, min(len(want), 1))
		checkCommitVals(t, strconv.Itoa(count)+" alike", alike, five...)
		checkCommitVals(t, strconv.Itoa(count)+", one of them good", zeros, five...)
	}
	checkCommitVals(t, "very many", withSigs(c, slices.Repeat(signedBy(c, 1, 2, 3).Sigs, 50000)...))
}

// For what no vote may be nobody has signed, not even as one would.
func TestCommitValsOfNoVote(t *testing.T) {
	for name, c := range noCommits() {
		for _, val := range []int{1, 4, 99} {
			for _, sig := range sigsOfAny(c, val) {
				checkCommitVals(t, name, withSigs(c, impl.CSig{Val: val, Sig: sig}))
			}
		}
	}
}

// mixedCommit is a commit of signatures of every kind, the same one for the same start, and not always for what may be.
func mixedCommit(start int, c impl.Commit) impl.Commit {
	mixed := mixedBytes(uint32(start), 60)
	c.Sigs = nil
	for i := range int(mixed[0]) % 15 {
		at := 1 + 4*i
		v := committed(c, int(mixed[at])%9-1)
		switch mixed[at+1] % 8 {
		case 0:
			v.Step = 1
		case 1:
			v.Round++
		case 2:
			v.Id = "ABCDEFGH"
		}
		sig := wantSign(v.Val, wantDigest(v))
		if mixed[at+2]%8 == 0 {
			sig = sig[:int(mixed[at+3])%9]
		}
		c.Sigs = append(c.Sigs, impl.CSig{Val: v.Val, Sig: sig})
	}
	return c
}

func TestCommitValsOfMixedCommits(t *testing.T) {
	found := map[int]int{}
	for start := range 20000 {
		mixed := mixedBytes(uint32(start+77), 3)
		c := blockCommit()
		c.Height, c.Round, c.Id = int(mixed[0])%8, int(mixed[1])%8-1, []string{"", "abcdefgh", "abcdefgh", "abcdefg"}[mixed[2]%4]
		c = mixedCommit(start, c)
		want := wantCommitVals(c)
		checkCommitVals(t, "mixed", c, want...)
		found[len(want)]++
	}
	for count := range 6 {
		if found[count] < 100 {
			t.Errorf("of %d there were %d: too few to tell", count, found[count])
		}
	}
}

// headFor is a right header of that height whose Vals are these validators.
func headFor(l []impl.Val, height int) impl.Header {
	h := headerAt(height)
	h.Vals = impl.ValsHash(l)
	return h
}

// commitFor is a commit for a header, signed by these.
func commitFor(h impl.Header, round int, vals ...int) impl.Commit {
	return signedBy(impl.Commit{Height: h.Height, Round: round, Id: impl.HeadId(h)}, vals...)
}

// wantValsOk goes by the words of the document.
func wantValsOk(l []impl.Val) bool {
	if len(l) < 1 || len(l) > 7 {
		return false
	}
	last := 0
	for _, v := range l {
		if v.Id <= last || v.Id > 99 || v.Power < 1 || v.Power > 1000 {
			return false
		}
		last = v.Id
	}
	return true
}

// wantCommitOk goes by the words of the document, one at a time.
func wantCommitOk(l []impl.Val, h impl.Header, c impl.Commit) bool {
	if !wantValsOk(l) || !wantHeaderOk(h) || h.Height != c.Height {
		return false
	}
	id, hash := sha256.Sum256([]byte(wantHeaderText(h))), sha256.Sum256([]byte(wantShown(l)))
	if c.Id != string(id[:8]) || h.Vals != string(hash[:8]) {
		return false
	}
	signed, all := 0, 0
	for _, v := range l {
		all += v.Power
		if slices.Contains(wantCommitVals(c), v.Id) {
			signed += v.Power
		}
	}
	return 3*signed > 2*all
}

func checkCommitOk(t *testing.T, name string, l []impl.Val, h impl.Header, c impl.Commit, want bool) {
	t.Helper()
	if got := impl.CommitOk(l, h, c); got != want {
		t.Errorf("%s: CommitOk(%v, %#v, %#v) is %v", name, l, h, c, got)
	}
}

// Every set of the validators, by the sets of which nobody may be lacking, worked out by hand.
func TestCommitOkByHand(t *testing.T) {
	for i, c := range enoughCases() {
		l := valsOf(c.powers...)
		h := headFor(l, 1+i*39999)
		for set := range 1 << len(l) {
			want := slices.ContainsFunc(c.least, func(least string) bool { return has(set, least) })
			ids := idsIn(l, set)
			checkCommitOk(t, "in order", l, h, commitFor(h, i*40, ids...), want)
			slices.Reverse(ids)
			checkCommitOk(t, "turned", l, h, commitFor(h, i*40, ids...), want)
		}
	}
}

// Of validators of the same Power just so many are Enough, and one less is not.
func TestCommitOkByCount(t *testing.T) {
	least := []int{0, 1, 2, 3, 3, 4, 5, 5}
	for count := 1; count <= 7; count++ {
		for _, power := range []int{1, 1000} {
			l := valsOf(slices.Repeat([]int{power}, count)...)
			h := headFor(l, 2)
			for set := range 1 << count {
				checkCommitOk(t, "of "+strconv.Itoa(count), l, h, commitFor(h, 3, idsIn(l, set)...), bits.OnesCount(uint(set)) >= least[count])
			}
		}
	}
}

// Just two thirds of the Power is not Enough, and one more is.
func TestCommitOkAroundTwoThirds(t *testing.T) {
	for third := 2; third <= 499; third++ {
		cases := []struct {
			one, other int
			want       bool
		}{{2*third - 1, third + 1, false}, {2 * third, third, false}, {2*third + 1, third - 1, true}, {2 * third, third + 1, false}, {2*third + 1, third, true}}
		for _, c := range cases {
			l, turned := valsOf(c.one, c.other), valsOf(c.other, c.one)
			h, headTurned := headFor(l, third), headFor(turned, third)
			checkCommitOk(t, "the first one", l, h, commitFor(h, third, 1), c.want)
			checkCommitOk(t, "the second one", turned, headTurned, commitFor(headTurned, third, 2), c.want)
		}
	}
	for last, want := range map[int]bool{799: false, 800: false, 801: true} {
		l := valsOf(800, 800, 800, 800, last, 1000, 1000)
		h := headFor(l, 9)
		checkCommitOk(t, "the first five", l, h, commitFor(h, 0, 41, 1, 40, 2, 9), want)
	}
}

// Who is none of the validators adds nothing, however many they are, and takes nothing.
func TestCommitOkOfStrangers(t *testing.T) {
	for _, c := range enoughCases() {
		l := valsOf(c.powers...)
		h := headFor(l, 7)
		for set := range 1 << len(l) {
			want := slices.ContainsFunc(c.least, func(least string) bool { return has(set, least) })
			signed := append(idsIn(l, set), 3, 8, 10, 39, 97)
			checkCommitOk(t, "with strangers", l, h, commitFor(h, 1, signed...), want)
			slices.Reverse(signed)
			checkCommitOk(t, "behind strangers", l, h, commitFor(h, 1, signed...), want)
		}
		checkCommitOk(t, "strangers alone", l, h, commitFor(h, 1, 3, 4, 5, 6, 7, 8, 10, 11, 12, 13, 14, 15), false)
	}
}

// Who signs again and again counts once: what would be Enough by that is not.
func TestCommitOkOfOneManyTimes(t *testing.T) {
	l := valsOf(1, 1, 1, 1)
	h := headFor(l, 7)
	cases := []struct {
		name   string
		signed []int
		want   bool
	}{
		{"one 3 times", []int{1, 1, 1}, false},
		{"one 12 times", slices.Repeat([]int{1}, 12), false},
		{"two 6 times", slices.Repeat([]int{1, 40}, 6), false},
		{"two, one of them twice", []int{1, 2, 1}, false},
		{"two, 11 times and once", append(slices.Repeat([]int{9}, 11), 2), false},
		{"three", []int{9, 1, 2}, true},
		{"three, one of them twice", []int{9, 1, 2, 1}, true},
		{"three 4 times", slices.Repeat([]int{40, 2, 9}, 4), true},
		{"four 3 times", slices.Repeat([]int{40, 1, 2, 9}, 3), true},
		{"three, in 13", append(slices.Repeat([]int{40, 2, 9}, 4), 9), false},
		{"four, in 13", append(slices.Repeat([]int{40, 1, 2, 9}, 3), 9), false},
	}
	for _, c := range cases {
		checkCommitOk(t, c.name, l, h, commitFor(h, 2, c.signed...), c.want)
	}
	heavy := valsOf(4, 3, 2, 1)
	h = headFor(heavy, 7)
	for count := 1; count <= 12; count++ {
		checkCommitOk(t, "the heaviest "+strconv.Itoa(count)+" times", heavy, h, commitFor(h, 2, slices.Repeat([]int{1}, count)...), false)
	}
}

// A bad signature adds nothing to what is lacking, and spoils nothing of what is Enough.
func TestCommitOkWithBadSignatures(t *testing.T) {
	l := valsOf(1, 1, 1, 1)
	h := headFor(l, 7)
	two, three := commitFor(h, 2, 9, 1), commitFor(h, 2, 9, 1, 40)
	for name, text := range badSigs(two, 2) {
		bad := impl.CSig{Val: 2, Sig: text}
		checkCommitOk(t, name+", as the third", l, h, withSigs(two, append(two.Sigs[:2:2], bad)...), false)
		checkCommitOk(t, name+", ahead of two", l, h, withSigs(two, append([]impl.CSig{bad}, two.Sigs...)...), false)
		checkCommitOk(t, name+", behind three", l, h, withSigs(three, append(three.Sigs[:3:3], bad)...), true)
		checkCommitOk(t, name+", ahead of three", l, h, withSigs(three, append([]impl.CSig{bad}, three.Sigs...)...), true)
	}
	for i, s := range three.Sigs {
		bent := slices.Clone(three.Sigs)
		bent[i].Sig = s.Sig[:7]
		checkCommitOk(t, "one of three cut", l, h, withSigs(three, bent...), false)
		checkCommitOk(t, "one of three cut, and good behind it", l, h, withSigs(three, append(bent, s)...), true)
		bent[i] = impl.CSig{Val: 2, Sig: s.Sig}
		checkCommitOk(t, "one of three in another's name", l, h, withSigs(three, bent...), false)
	}
}

// A round is any that a vote may have; what is signed for one is not for another.
func TestCommitOkOfEachRound(t *testing.T) {
	l := valsOf(3, 2, 1)
	for _, height := range []int{1, 2, 1000000} {
		h := headFor(l, height)
		for round := -3; round <= 1003; round++ {
			c := commitFor(h, round, 1, 2, 9)
			want := 0 <= round && round <= 1000
			checkCommitOk(t, "its round", l, h, c, want)
			c.Round++
			checkCommitOk(t, "the next round", l, h, c, false)
		}
	}
}

// All that is signed for another height or another block is none for this header, though Enough have signed it.
func TestCommitOkOfAnotherHeader(t *testing.T) {
	l := valsOf(4, 3, 2, 1)
	for _, height := range []int{1, 2, 300, 999999} {
		h := headFor(l, height)
		checkCommitOk(t, "its own", l, h, commitFor(h, 4, 1, 2), true)
		id := impl.HeadId(h)
		for _, other := range []int{height - 1, height + 1, height + 128, 1000000, 1000001, 0, -height, math.MaxInt} {
			c := signedBy(impl.Commit{Height: other, Round: 4, Id: id}, 1, 2, 9, 40)
			checkCommitOk(t, "another Height", l, h, c, false)
			c.Sigs = commitFor(h, 4, 1, 2, 9, 40).Sigs
			checkCommitOk(t, "another Height with its signatures", l, h, c, false)
		}
		for _, other := range append(append(voteIds(), noVoteIds()...), id[:7], id+"\x00", id[1:]+id[:1], impl.Hex(id), impl.Sha(impl.ShowHeader(h)), h.Vals, h.Last) {
			c := signedBy(impl.Commit{Height: height, Round: 4, Id: other}, 1, 2, 9, 40)
			checkCommitOk(t, "another Id", l, h, c, false)
			c.Sigs = commitFor(h, 4, 1, 2, 9, 40).Sigs
			checkCommitOk(t, "another Id with its signatures", l, h, c, false)
		}
		for name, bend := range map[string]func(h *impl.Header){
			"Time": func(h *impl.Header) { h.Time++ },
			"Data": func(h *impl.Header) { h.Data += "!" },
			"Next": func(h *impl.Header) { h.Next = "ABCDEFGh" },
			"Vals": func(h *impl.Header) { h.Vals = impl.ValsHash(valsOf(4, 3, 2)) },
		} {
			other := h
			bend(&other)
			checkCommitOk(t, "another header's, by "+name, l, h, commitFor(other, 4, 1, 2, 9, 40), false)
			checkCommitOk(t, "for another header, by "+name, l, other, commitFor(h, 4, 1, 2, 9, 40), false)
		}
	}
}

// Only those whom the header's Vals names are asked, though others or fewer of them have signed.
func TestCommitOkOfOtherValidators(t *testing.T) {
	rows := rightVals()
	for i, l := range rows {
		h := headFor(l, 3)
		c := commitFor(h, 1, idsOf(l)...)
		for j, other := range rows {
			checkCommitOk(t, "other validators", other, h, signedBy(c, append(idsOf(l), idsOf(other)...)[:min(12, len(l)+len(other))]...), impl.ShowVals(l) == impl.ShowVals(other))
			if i != j && impl.ShowVals(l) != impl.ShowVals(other) {
				crossed := h
				crossed.Vals, crossed.Next = impl.ValsHash(other), h.Vals
				checkCommitOk(t, "those who come next", l, crossed, commitFor(crossed, 1, idsOf(l)...), false)
			}
		}
		if len(l) > 1 {
			checkCommitOk(t, "all but the last", l[:len(l)-1], h, c, false)
			checkCommitOk(t, "all but the first", l[1:], h, c, false)
		}
		checkCommitOk(t, "nobody", nil, h, c, false)
	}
}

// wouldShow writes the text that validators would have if they were right (with numbers below 0 as no bytes).
func wouldShow(l []impl.Val) string {
	s := binary.AppendUvarint(nil, uint64(len(l)))
	for _, v := range l {
		for _, n := range []int{v.Id, v.Power} {
			if n >= 0 {
				s = binary.AppendUvarint(s, uint64(n))
			}
		}
	}
	return string(s)
}

// Where the validators are not right there is no commit, though the header names them as it would and all have signed.
func TestCommitOkOfWrongValidators(t *testing.T) {
	for name, l := range wrongVals() {
		for _, height := range []int{1, 2} {
			h := headerAt(height)
			for _, vals := range []string{impl.Short(wouldShow(l)), impl.Short(""), "", impl.ValsHash(valsOf(1))} {
				h.Vals = vals
				signers := idsOf(l)
				checkCommitOk(t, name, l, h, commitFor(h, 0, signers[:min(len(signers), 12)]...), false)
				checkCommitOk(t, name, l, h, commitFor(h, 0), false)
			}
		}
	}
}

// Where the header is not right there is no commit, not even one for no block, as its HeadId is empty.
func TestCommitOkOfWrongHeaders(t *testing.T) {
	l := valsOf(4, 3, 2, 1)
	tried := 0
	for name, h := range wrongHeaders() {
		named := h
		named.Vals = impl.ValsHash(l)
		for _, h := range []impl.Header{h, named} {
			if wantHeaderOk(h) {
				continue
			}
			for _, id := range []string{"", impl.HeadId(h), impl.Short(wantHeaderText(h)), impl.Short("")} {
				c := signedBy(impl.Commit{Height: h.Height, Round: 1, Id: id}, 1, 2, 9, 40)
				checkCommitOk(t, name, l, h, c, false)
				tried++
			}
		}
	}
	if tried < 400 {
		t.Errorf("%d were tried: too few to tell", tried)
	}
	h := headFor(l, 2)
	h.Time = 1000001
	checkCommitOk(t, "for nothing, and Time too great", l, h, signedBy(impl.Commit{Height: 2}, 1, 2, 9, 40), false)
	checkCommitOk(t, "all zero", nil, impl.Header{}, impl.Commit{}, false)
}

// Commits, headers and validators of any kind are answered as the document's words say.
func TestCommitOkOfMixed(t *testing.T) {
	found := map[bool]int{}
	rows := [][]impl.Val{pairsOf(1, 1, 2, 1, 3, 1), pairsOf(1, 5, 2, 1, 4, 1), pairsOf(2, 1, 3, 9), pairsOf(5, 3), pairsOf(1, 1, 2, 1, 3, 1, 4, 1, 5, 1, 6, 1, 7, 1), nil, pairsOf(2, 1, 1, 1)}
	for start := range 20000 {
		mixed := mixedBytes(uint32(start+123), 8)
		l := rows[int(mixed[0])%len(rows)]
		named := l
		if mixed[1]%8 == 0 {
			named = rows[int(mixed[2])%len(rows)]
		}
		h := headFor(named, 1+int(mixed[3])%3)
		if mixed[4]%8 == 0 {
			h.Data = strings.Repeat("x", int(mixed[4]))
		}
		c := impl.Commit{Height: h.Height, Round: 1, Id: impl.HeadId(h)}
		if mixed[5]%8 == 0 {
			c.Height++
		}
		if mixed[6]%8 == 0 {
			c.Id = ""
		}
		c = mixedCommit(start, c)
		want := wantCommitOk(l, h, c)
		checkCommitOk(t, "mixed", l, h, c, want)
		found[want]++
	}
	if found[true] < 1000 || found[false] < 1000 {
		t.Errorf("%d were right and %d not: too few to tell", found[true], found[false])
	}
}

func sameCommit(a impl.Commit, b impl.Commit) bool {
	return a.Height == b.Height && a.Round == b.Round && a.Id == b.Id && slices.Equal(a.Sigs, b.Sigs)
}

// wantCommitText is the text of a commit, whether it has one or not (with numbers below 0 as no bytes).
func wantCommitText(c impl.Commit) string {
	return strings.Join(commitParts(c), "")
}

// commitParts are the parts of that text: those at the places of numbersOf are Vars.
func commitParts(c impl.Commit) []string {
	number := func(n int) string {
		if n < 0 {
			return ""
		}
		return string(binary.AppendUvarint(nil, uint64(n)))
	}
	parts := []string{number(c.Height), number(c.Round), number(len(c.Id)), c.Id, number(len(c.Sigs))}
	for _, s := range c.Sigs {
		parts = append(parts, number(s.Val), number(len(s.Sig)), s.Sig)
	}
	return parts
}

func numbersOf(c impl.Commit) []int {
	places := []int{0, 1, 2, 4}
	for i := range c.Sigs {
		places = append(places, 5+3*i, 6+3*i)
	}
	return places
}

// wantCommitShown goes by the words of the document, one at a time.
func wantCommitShown(c impl.Commit) bool {
	if !wantVoteOk(committed(c, 1)) || len(c.Sigs) > 12 {
		return false
	}
	for _, s := range c.Sigs {
		if s.Val < 1 || s.Val > 99 || len(s.Sig) > 8 {
			return false
		}
	}
	return true
}

// wantCommitRead reads field by field and refuses at the first fault; it makes no text to hold against the one it was given.
func wantCommitRead(s string) (impl.Commit, bool) {
	ok := true
	number := func() int {
		n, left, good := cutNumber(s)
		ok, s = ok && good, left
		return n
	}
	sized := func() string {
		size := number()
		if ok = ok && size <= len(s); !ok {
			return ""
		}
		field := s[:size]
		s = s[size:]
		return field
	}
	c := impl.Commit{Height: number(), Round: number(), Id: sized()}
	for left := number(); ok && left > 0; left-- {
		c.Sigs = append(c.Sigs, impl.CSig{Val: number(), Sig: sized()})
	}
	if !ok || s != "" || !wantCommitShown(c) {
		return impl.Commit{}, false
	}
	return c, true
}

// checkCommitRead holds what ReadCommit tells of any text against the reader above and against ShowCommit, and tells whether it was read.
func checkCommitRead(t *testing.T, s string) bool {
	t.Helper()
	got, ok := impl.ReadCommit(s)
	if want, wantOk := wantCommitRead(s); !sameCommit(got, want) || ok != wantOk {
		t.Errorf("ReadCommit(%.80x) is %#v, %v, want %#v, %v", s, got, ok, want, wantOk)
	}
	if !ok && !sameCommit(got, impl.Commit{}) {
		t.Errorf("ReadCommit(%.80x) is %#v and false", s, got)
	}
	if ok && impl.ShowCommit(got) != s {
		t.Errorf("ReadCommit(%.80x) is %#v, of which ShowCommit makes %x", s, got, impl.ShowCommit(got))
	}
	return ok
}

// commitsByHand are commits and their texts, byte by byte.
func commitsByHand() map[string]impl.Commit {
	ones := slices.Repeat([]impl.CSig{{Val: 1}}, 12)
	return map[string]impl.Commit{
		"\x01\x00\x00\x00":                                                     {Height: 1},
		"\x01\x00\x00\x01\x02\x02ab":                                           {Height: 1, Sigs: []impl.CSig{{Val: 2, Sig: "ab"}}},
		"\x01\x00\x00\x01\x02\x00":                                             {Height: 1, Sigs: []impl.CSig{{Val: 2}}},
		"\x01\x02\x08abcdefgh\x00":                                             {Height: 1, Round: 2, Id: "abcdefgh"},
		"\x02\x05\x08abcdefgh\x01\x03\x0812345678":                             {Height: 2, Round: 5, Id: "abcdefgh", Sigs: []impl.CSig{{Val: 3, Sig: "12345678"}}},
		"\x03\x01\x00\x03\x09\x01a\x02\x01b\x09\x01a":                          {Height: 3, Round: 1, Sigs: []impl.CSig{{Val: 9, Sig: "a"}, {Val: 2, Sig: "b"}, {Val: 9, Sig: "a"}}},
		"\x05\x02\x08abcdefgh\x02\x04\x07\x00\x01\x02\x03\x04\x05\x06\x04\x00": {Height: 5, Round: 2, Id: "abcdefgh", Sigs: []impl.CSig{{Val: 4, Sig: bytesFrom(0, 7)}, {Val: 4}}},
		"\x7f\x7f\x00\x01\x63\x08\x00\x00\x00\x00\x00\x00\x00\x00":             {Height: 127, Round: 127, Sigs: []impl.CSig{{Val: 99, Sig: strings.Repeat("\x00", 8)}}},
		"\x80\x01\x80\x01\x00\x02\x01\x00\x63\x01x":                            {Height: 128, Round: 128, Sigs: []impl.CSig{{Val: 1}, {Val: 99, Sig: "x"}}},
		"\xff\x7f\xe7\x07\x08\x08\x08\x08\x08\x08\x08\x08\x08\x01\x08\x08\x08\x08\x08\x08\x08\x08\x08\x08":                 {Height: 16383, Round: 999, Id: strings.Repeat("\x08", 8), Sigs: []impl.CSig{{Val: 8, Sig: strings.Repeat("\x08", 8)}}},
		"\x80\x80\x01\x00\x08\x00\xff\x00\xff\x00\xff\x00\xff\x01\x32\x03\xff\x00\xff":                                     {Height: 16384, Id: "\x00\xff\x00\xff\x00\xff\x00\xff", Sigs: []impl.CSig{{Val: 50, Sig: "\xff\x00\xff"}}},
		"\xc0\x84\x3d\xe8\x07\x08\xff\xff\xff\xff\xff\xff\xff\xff\x01\x63\x08\xff\xff\xff\xff\xff\xff\xff\xff":             {Height: 1000000, Round: 1000, Id: strings.Repeat("\xff", 8), Sigs: []impl.CSig{{Val: 99, Sig: strings.Repeat("\xff", 8)}}},
		"\x01\x00\x00\x0c\x01\x00\x01\x00\x01\x00\x01\x00\x01\x00\x01\x00\x01\x00\x01\x00\x01\x00\x01\x00\x01\x00\x01\x00": {Height: 1, Sigs: ones},
	}
}

func TestCommitsByHand(t *testing.T) {
	for want, c := range commitsByHand() {
		if got := impl.ShowCommit(c); got != want {
			t.Errorf("ShowCommit(%#v) is %x, want %x", c, got, want)
		}
		if got, ok := impl.ReadCommit(want); !ok || !sameCommit(got, c) {
			t.Errorf("ReadCommit(%x) is %#v, %v, want %#v", want, got, ok, c)
		}
	}
}

// shownCommits are commits that have a text: of all Heights, Rounds and Ids, and with signatures good and bad, of every size.
func shownCommits() []impl.Commit {
	l := slices.Collect(maps.Values(commitsByHand()))
	for i, c := range openCommits() {
		l = append(l, c, signedBy(c, 3, 1, 3), withSigs(c, impl.CSig{Val: 1 + i%99, Sig: bytesFrom(byte(i), i%9)}))
	}
	for count := range 13 {
		rising := make([]int, count)
		for i := range count {
			rising[i] = 99 - 8*i
		}
		c := signedBy(blockCommit(), rising...)
		l = append(l, c, withSigs(c, slices.Repeat([]impl.CSig{{Val: 7, Sig: bytesFrom(0, count%9)}}, count)...))
	}
	for val := 1; val <= 99; val++ {
		l = append(l, withSigs(blockCommit(), impl.CSig{Val: val, Sig: bytesFrom(byte(val), 8)}))
	}
	return l
}

func TestCommitsBothWays(t *testing.T) {
	for _, c := range shownCommits() {
		s := impl.ShowCommit(c)
		if want := wantCommitText(c); s != want {
			t.Errorf("ShowCommit(%#v) is %x, want %x", c, s, want)
		}
		if got, ok := impl.ReadCommit(s); !ok || !sameCommit(got, c) {
			t.Errorf("ReadCommit(%x) is %#v, %v, want %#v", s, got, ok, c)
		}
	}
}

// checkShown holds ShowCommit of a commit against the words above, and what its text would be against ReadCommit; it tells whether it is shown.
func checkShown(t *testing.T, name string, c impl.Commit) bool {
	t.Helper()
	want, text := wantCommitShown(c), ""
	if want {
		text = wantCommitText(c)
	}
	if got := impl.ShowCommit(c); got != text {
		t.Errorf("%s: ShowCommit(%#v) is %.80x, want %.80x", name, c, got, text)
	}
	// A number below 0 has no bytes, so what would be the text is that of something else.
	if got := checkCommitRead(t, wantCommitText(c)); got != want && noneBelowNought(c) {
		t.Errorf("%s: the text of %#v is read: %v", name, c, got)
	}
	return impl.ShowCommit(c) != ""
}

func noneBelowNought(c impl.Commit) bool {
	below := slices.ContainsFunc(c.Sigs, func(s impl.CSig) bool { return s.Val < 0 })
	return c.Height >= 0 && c.Round >= 0 && !below
}

// Each number and each size around its limits, with all others right.
func TestShowCommitAroundEachLimit(t *testing.T) {
	for n := -1200; n <= 1200; n++ {
		for _, base := range []impl.Commit{blockCommit(), {Height: 1}, signedBy(blockCommit(), 2, 1)} {
			height, round := base, base
			height.Height, round.Round = n, n
			name := strconv.Itoa(n)
			if got := checkShown(t, "Height "+name, height); got != (n >= 1) {
				t.Errorf("Height %d is shown: %v", n, got)
			}
			if got := checkShown(t, "Round "+name, round); got != (0 <= n && n <= 1000) {
				t.Errorf("Round %d is shown: %v", n, got)
			}
			for _, sigs := range [][]impl.CSig{{{Val: n}}, {{Val: n, Sig: "12345678"}, {Val: 2}}, {{Val: 1}, {Val: 2}, {Val: n}}} {
				if got := checkShown(t, "Val "+name, withSigs(base, sigs...)); got != (1 <= n && n <= 99) {
					t.Errorf("Val %d is shown: %v", n, got)
				}
			}
		}
	}
	for n := 999900; n <= 1000100; n++ {
		if got := checkShown(t, "Height", impl.Commit{Height: n}); got != (n <= 1000000) {
			t.Errorf("Height %d is shown: %v", n, got)
		}
	}
}

func TestShowCommitOfEachLength(t *testing.T) {
	for size := range 300 {
		id := blockCommit()
		id.Id = bytesFrom(byte(size), size)
		if got := checkShown(t, "Id of "+strconv.Itoa(size), id); got != (size == 0 || size == 8) {
			t.Errorf("an Id of %d bytes is shown: %v", size, got)
		}
		long := impl.CSig{Val: 3, Sig: bytesFrom(byte(size), size)}
		for _, sigs := range [][]impl.CSig{{long}, {long, {Val: 1}}, {{Val: 1}, long}, append(slices.Repeat([]impl.CSig{{Val: 1, Sig: "12345678"}}, 11), long)} {
			if got := checkShown(t, "Sig of "+strconv.Itoa(size), withSigs(blockCommit(), sigs...)); got != (size <= 8) {
				t.Errorf("a Sig of %d bytes is shown: %v", size, got)
			}
		}
		for _, s := range []impl.CSig{{Val: 1}, {Val: 99, Sig: "12345678"}, {Val: 7, Sig: "x"}} {
			if got := checkShown(t, strconv.Itoa(size)+" Sigs", withSigs(blockCommit(), slices.Repeat([]impl.CSig{s}, size)...)); got != (size <= 12) {
				t.Errorf("%d Sigs are shown: %v", size, got)
			}
		}
	}
}

// Of a Height, Round or Id that no vote has there is no text, nor is one where a Val is none.
func TestCommitsThatAreNotShown(t *testing.T) {
	for name, c := range noCommits() {
		for _, c := range []impl.Commit{c, signedBy(c, 1, 2), withSigs(c, impl.CSig{Val: 1, Sig: "12345678"})} {
			if impl.ShowCommit(c) != "" {
				t.Errorf("%s: ShowCommit(%#v) is %x", name, c, impl.ShowCommit(c))
			}
			if checkCommitRead(t, wantCommitText(c)) && noneBelowNought(c) {
				t.Errorf("%s: its text is read", name)
			}
		}
	}
	for _, val := range edgeNumbers() {
		for at := range 12 {
			c := signedBy(blockCommit(), 1, 2, 3, 4, 5, 6, 7, 8, 9, 10, 11, 12)
			c.Sigs[at].Val = val
			if got := impl.ShowCommit(c) != ""; got != (1 <= val && val <= 99) {
				t.Errorf("Val %d at %d is shown: %v", val, at, got)
			}
		}
	}
	for at := range 12 {
		c := signedBy(blockCommit(), 1, 2, 3, 4, 5, 6, 7, 8, 9, 10, 11, 12)
		c.Sigs[at].Sig += "\x00"
		if checkShown(t, "a long Sig", c) {
			t.Errorf("a Sig of 9 at %d is shown", at)
		}
	}
}

// wrongCommitTexts are texts that are no commit's, by what is wrong with them.
func wrongCommitTexts() map[string]string {
	const right = "\x05\x02\x08abcdefgh\x02\x01\x0812345678\x63\x02ab"
	const most = "\xff\xff\xff\xff\xff\xff\x7f"
	return map[string]string{
		"empty":                               "",
		"Height alone":                        "\x05",
		"no Sigs, and no number of them":      "\x05\x02\x08abcdefgh",
		"no number of bytes of Id":            "\x05\x02",
		"Height 0":                            "\x00" + right[1:],
		"Height 1000001":                      "\xc1\x84\x3d" + right[1:],
		"Height MaxVar":                       most + right[1:],
		"Height that is no Var":               "\xff" + most + right[1:],
		"Height that does not end":            "\x85",
		"Round 1001":                          "\x05\xe9\x07" + right[2:],
		"Round MaxVar":                        "\x05" + most + right[2:],
		"Round that is no Var":                "\x05\xff" + most + right[2:],
		"Round that does not end":             "\x05\x82",
		"Id of 1":                             "\x05\x02\x01a\x00",
		"Id of 7":                             "\x05\x02\x07abcdefg\x00",
		"Id of 7 with signatures":             "\x05\x02\x07abcdefg\x02\x01\x0812345678\x63\x02ab",
		"Id of 9":                             "\x05\x02\x09abcdefghi\x00",
		"Id of 9 with signatures":             "\x05\x02\x09abcdefghi\x02\x01\x0812345678\x63\x02ab",
		"Id of 136, whose size ends as 8":     "\x05\x02\x88\x01" + strings.Repeat("a", 136) + "\x00",
		"Id that is not there":                "\x05\x02\x08",
		"a byte of the Id that is not there":  "\x05\x02\x08abcdefg",
		"MaxVar bytes of Id":                  "\x05\x02" + most + "abcdefgh\x00",
		"a Sig that is not there":             "\x05\x02\x08abcdefgh\x01",
		"a second Sig that is not there":      "\x05\x02\x08abcdefgh\x02\x01\x0812345678",
		"a Val and no Sig":                    "\x05\x02\x08abcdefgh\x01\x01",
		"a byte of the Sig that is not there": "\x05\x02\x08abcdefgh\x01\x01\x081234567",
		"all of the Sig that is not there":    "\x05\x02\x08abcdefgh\x01\x01\x08",
		"MaxVar bytes of Sig":                 "\x05\x02\x08abcdefgh\x01\x01" + most + "12345678",
		"12 Sigs of which 11 are there":       "\x05\x02\x08abcdefgh\x0c" + strings.Repeat("\x01\x00", 11),
		"13 Sigs":                             "\x05\x02\x08abcdefgh\x0d" + strings.Repeat("\x01\x00", 13),
		"13 good Sigs":                        "\x05\x02\x08abcdefgh\x0d" + strings.Repeat("\x01\x0812345678", 13),
		"13 Sigs as 12":                       "\x05\x02\x08abcdefgh\x0c" + strings.Repeat("\x01\x00", 13),
		"12 Sigs as 13":                       "\x05\x02\x08abcdefgh\x0d" + strings.Repeat("\x01\x00", 12),
		"13 Sigs, alone":                      "\x05\x02\x08abcdefgh\x0d",
		"140 Sigs, whose number ends as 12":   "\x05\x02\x08abcdefgh\x8c\x01" + strings.Repeat("\x01\x00", 140),
		"MaxVar Sigs":                         "\x05\x02\x08abcdefgh" + most + "\x01\x00",
		"MaxVar Sigs, alone":                  "\x05\x02\x08abcdefgh" + most,
		"a number of Sigs that is no Var":     "\x05\x02\x08abcdefgh\xff" + most + "\x01\x00",
		"no Sigs as one":                      "\x05\x02\x08abcdefgh\x01\x00",
		"one Sig as none":                     "\x05\x02\x08abcdefgh\x00\x01\x00",
		"Val 0":                               "\x05\x02\x08abcdefgh\x01\x00\x0812345678",
		"Val 0 and no bytes":                  "\x05\x02\x08abcdefgh\x01\x00\x00",
		"Val 100":                             "\x05\x02\x08abcdefgh\x01\x64\x0812345678",
		"Val 128":                             "\x05\x02\x08abcdefgh\x01\x80\x01\x0812345678",
		"Val 257":                             "\x05\x02\x08abcdefgh\x01\x81\x02\x0812345678",
		"Val MaxVar":                          "\x05\x02\x08abcdefgh\x01" + most + "\x0812345678",
		"a second Val 0":                      "\x05\x02\x08abcdefgh\x02\x01\x0812345678\x00\x02ab",
		"a second Val 100":                    "\x05\x02\x08abcdefgh\x02\x01\x0812345678\x64\x02ab",
		"a Sig of 9":                          "\x05\x02\x08abcdefgh\x01\x01\x09123456789",
		"a second Sig of 9":                   "\x05\x02\x08abcdefgh\x02\x01\x0812345678\x63\x09123456789",
		"a Sig of 136, whose size ends as 8":  "\x05\x02\x08abcdefgh\x01\x01\x88\x01" + strings.Repeat("1", 136),
	}
}

// overlongCommitTexts have more bytes than a commit's text, in their numbers or around them.
func overlongCommitTexts() map[string]string {
	const right = "\x05\x02\x08abcdefgh\x02\x01\x0812345678\x63\x02ab"
	return map[string]string{
		"a byte too many in Height":             "\x85\x00" + right[1:],
		"a byte too many in Round":              "\x05\x82\x00" + right[2:],
		"a byte too many in Round 0":            "\x05\x80\x00" + right[2:],
		"a byte too many in the size of Id":     "\x05\x02\x88\x00" + right[3:],
		"a byte too many in the size of no Id":  "\x05\x02\x80\x00\x00",
		"a byte too many in the number of Sigs": "\x05\x02\x08abcdefgh\x82\x00\x01\x0812345678\x63\x02ab",
		"a byte too many in the number of none": "\x05\x02\x08abcdefgh\x80\x00",
		"a byte too many in a Val":              "\x05\x02\x08abcdefgh\x02\x81\x00\x0812345678\x63\x02ab",
		"a byte too many in the second Val":     "\x05\x02\x08abcdefgh\x02\x01\x0812345678\xe3\x00\x02ab",
		"a byte too many in the size of a Sig":  "\x05\x02\x08abcdefgh\x02\x01\x88\x0012345678\x63\x02ab",
		"a byte too many in the size of no Sig": "\x05\x02\x08abcdefgh\x01\x01\x80\x00",
		"two bytes too many":                    "\x05\x02\x08abcdefgh\x02\x01\x88\x80\x0012345678\x63\x02ab",
		"a byte 0 more":                         right + "\x00",
		"a byte more":                           right + "x",
		"a Sig more":                            right + "\x01\x0812345678",
		"a byte ahead":                          "\x00" + right,
		"twice":                                 right + right,
		"with no sizes":                         "\x05\x02abcdefgh\x02\x0112345678\x63ab",
		"its Hex":                               impl.Hex(right),
		"a header":                              impl.ShowHeader(firstHeader()),
		"long":                                  right + strings.Repeat("\x01", 100000),
		"a long Sig":                            "\x05\x02\x08abcdefgh\x01\x01\xa0\x8d\x06" + strings.Repeat("\x08", 100000),
		"long and no Var":                       strings.Repeat("\xff", 100000),
		"noughts":                               strings.Repeat("\x00", 100),
		"ones":                                  strings.Repeat("\x01", 100),
		"eights":                                strings.Repeat("\x08", 100),
	}
}

func allWrongCommitTexts() map[string]string {
	all := wrongCommitTexts()
	maps.Copy(all, overlongCommitTexts())
	return all
}

func TestReadCommitWrong(t *testing.T) {
	for name, s := range allWrongCommitTexts() {
		if got, ok := impl.ReadCommit(s); ok || !sameCommit(got, impl.Commit{}) {
			t.Errorf("%s: ReadCommit(%.80x) is %#v, %v", name, s, got, ok)
		}
		if checkCommitRead(t, s) {
			t.Errorf("%s: it is read", name)
		}
	}
	for _, right := range []string{"\x05\x02\x08abcdefgh\x02\x01\x0812345678\x63\x02ab", "\x05\x02\x00\x00", "\x05\x02\x08abcdefgh\x0c" + strings.Repeat("\x01\x00", 12)} {
		if !checkCommitRead(t, right) {
			t.Errorf("%x, of which these texts were made, is not read", right)
		}
	}
}

// commitsToBend are commits of every shape; their texts are bent at each byte.
func commitsToBend() []impl.Commit {
	return append(slices.Collect(maps.Values(commitsByHand())), signedBy(blockCommit(), 1), signedBy(blockCommit(), 3, 1, 3), signedBy(impl.Commit{Height: 300, Round: 128}, 99, 98),
		signedBy(blockCommit(), 1, 2, 3, 4, 5, 6, 7, 8, 9, 10, 11, 12))
}

func TestReadCommitOfBentTexts(t *testing.T) {
	for _, c := range commitsToBend() {
		s := impl.ShowCommit(c)
		for end := range len(s) {
			if checkCommitRead(t, s[:end]) {
				t.Errorf("%x, the first %d bytes of %x, is read", s[:end], end, s)
			}
		}
		for more := range 256 {
			if checkCommitRead(t, s+string([]byte{byte(more)})) {
				t.Errorf("%x and a byte %d is read", s, more)
			}
		}
		for at := range len(s) {
			for other := range 256 {
				bent := []byte(s)
				bent[at] = byte(other)
				if got, ok := impl.ReadCommit(string(bent)); ok && sameCommit(got, c) && byte(other) != s[at] {
					t.Errorf("%x is read as %x is", bent, s)
				}
				checkCommitRead(t, string(bent))
				checkCommitRead(t, string(slices.Insert([]byte(s), at, byte(other))))
			}
			checkCommitRead(t, s[:at]+s[at+1:])
		}
	}
}

// Each number of a text with a byte too many is refused, however many such bytes it is.
func TestReadCommitOfNeedlessBytes(t *testing.T) {
	for _, c := range commitsToBend() {
		parts := commitParts(c)
		if got := strings.Join(parts, ""); got != impl.ShowCommit(c) {
			t.Fatalf("the parts of %#v are %x", c, got)
		}
		for _, place := range numbersOf(c) {
			long := []byte(parts[place])
			for range 9 {
				long[len(long)-1] |= 128
				long = append(long, 0)
				with := slices.Clone(parts)
				with[place] = string(long)
				if s := strings.Join(with, ""); checkCommitRead(t, s) {
					t.Errorf("%x, with needless bytes in part %d, is read", s, place)
				}
			}
		}
	}
}

// Texts of any bytes behind a right beginning are read only where they are a commit's.
func TestReadCommitOfMixedTexts(t *testing.T) {
	for start := range 20000 {
		s := mixedBytes(uint32(start), start%40)
		checkCommitRead(t, s)
		checkCommitRead(t, "\x05\x02\x08abcdefgh"+s)
		checkCommitRead(t, "\x05\x02\x00\x02\x01\x0812345678"+s)
	}
	read := 0
	shortTexts(func(s string) {
		if checkCommitRead(t, s) || checkCommitRead(t, "\x05"+s) {
			t.Errorf("%x is read, or is behind a Height", s)
		}
		want := s == "\x00" || len(s) == 2 && s[1] == 0
		if got := checkCommitRead(t, "\x05\x02\x00\x01\x01\x01"+s); got != (len(s) == 1) {
			t.Errorf("a Sig of a byte is read of %x: %v", s, got)
		}
		if checkCommitRead(t, "\x05\x02\x00\x01"+s) {
			read++
			if !want {
				t.Errorf("one signature of %x is read", s)
			}
		}
	})
	if read != 99 {
		t.Errorf("of two bytes %d are read as a signature without a Sig, want 99", read)
	}
}

// Two commits that are unlike in anything have unlike texts.
func TestCommitsThatAreUnlike(t *testing.T) {
	byText := map[string]impl.Commit{}
	for _, c := range shownCommits() {
		s := impl.ShowCommit(c)
		if other, ok := byText[s]; ok && !sameCommit(other, c) {
			t.Errorf("%#v and %#v have one text", other, c)
		}
		byText[s] = c
	}
	for _, order := range ordersOf([]int{1, 2, 3, 4}) {
		byText[impl.ShowCommit(signedBy(impl.Commit{Height: 77}, order...))] = impl.Commit{}
	}
	if got := len(slices.DeleteFunc(slices.Collect(maps.Keys(byText)), func(s string) bool { return s[0] != 77 })); got != 24 {
		t.Errorf("of four signatures in all orders there are %d texts", got)
	}
}

// roomySigs is a copy of signatures with spare room behind it, and all of that room.
func roomySigs(sigs []impl.CSig) ([]impl.CSig, []impl.CSig) {
	all := append(slices.Clone(sigs), slices.Repeat([]impl.CSig{{Val: 501, Sig: "spare"}}, 20)...)
	return all[:len(sigs)], all
}

func TestCommitsWriteIntoNoArgument(t *testing.T) {
	commits := append(shownCommits(), slices.Collect(maps.Values(noCommits()))...)
	for _, c := range []impl.Commit{blockCommit(), {Height: 1}} {
		commits = append(commits, signedBy(c, 9, 3, 9, 1, 2), signedBy(c, 13, 12, 11, 10, 9, 8, 7, 6, 5, 4, 3, 2, 1), withSigs(c, impl.CSig{Val: 100, Sig: "123456789"}, impl.CSig{}))
	}
	for _, c := range commits {
		given := c
		var all []impl.CSig
		given.Sigs, all = roomySigs(c.Sigs)
		want := slices.Clone(all)
		l, allVals := roomyVals(valsOf(4, 3, 2, 1))
		wantVals := slices.Clone(allVals)
		impl.CommitVals(given)
		impl.CommitOk(l, headFor(l, 5), given)
		named := given
		named.Height, named.Id = 5, impl.HeadId(headFor(l, 5))
		impl.CommitOk(l, headFor(l, 5), named)
		impl.ShowCommit(given)
		if !slices.Equal(all, want) || !slices.Equal(allVals, wantVals) {
			t.Errorf("an argument was written into: %v is now %v, or %v is now %v", want, all, wantVals, allVals)
		}
	}
}

// What was answered is written over, and so is what it was given: neither changes with the other, nor with another answer.
func TestCommitsOwnTheirMemory(t *testing.T) {
	for _, c := range append(shownCommits(), signedBy(blockCommit(), 5, 4, 3, 2, 1)) {
		want := wantCommitVals(c)
		kept, over := impl.CommitVals(c), impl.CommitVals(c)
		for i := range over[:cap(over)] {
			over[:cap(over)][i] = -7
		}
		if again := impl.CommitVals(c); !slices.Equal(kept, want) || !slices.Equal(again, want) {
			t.Errorf("CommitVals(%#v) changed with another answer, to %v and %v", c, kept, again)
		}
		s := impl.ShowCommit(c)
		read, _ := impl.ReadCommit(s)
		written, _ := impl.ReadCommit(s)
		for i := range written.Sigs[:cap(written.Sigs)] {
			written.Sigs[:cap(written.Sigs)][i] = impl.CSig{Val: -7, Sig: "written"}
		}
		if again, ok := impl.ReadCommit(s); !ok || !sameCommit(again, c) || !sameCommit(read, c) {
			t.Errorf("ReadCommit(%x) changed with another answer, to %#v and %#v", s, read, again)
		}
		if sharesMemory(s, c.Id) || sharesMemory(read.Id, s) {
			t.Errorf("%x shares memory with an Id", s)
		}
		for i := range c.Sigs {
			if sharesMemory(s, c.Sigs[i].Sig) || sharesMemory(read.Sigs[i].Sig, s) {
				t.Errorf("%x shares memory with a Sig", s)
			}
		}
	}
}

func TestCommitsFromManyAtOnce(t *testing.T) {
	l := valsOf(4, 3, 2, 1)
	h := headFor(l, 5)
	enough, less := commitFor(h, 2, 40, 9, 1), commitFor(h, 2, 40, 40, 1, 1)
	shown, wrong := shownCommits(), allWrongCommitTexts()
	var wait sync.WaitGroup
	for range 8 {
		wait.Go(func() {
			for range 100 {
				if !slices.Equal(impl.CommitVals(enough), []int{1, 9, 40}) || !impl.CommitOk(l, h, enough) || impl.CommitOk(l, h, less) {
					t.Errorf("%#v or %#v was answered otherwise", enough, less)
				}
			}
			for _, c := range shown {
				if got, ok := impl.ReadCommit(impl.ShowCommit(c)); !ok || !sameCommit(got, c) {
					t.Errorf("%#v was answered otherwise", c)
				}
			}
			for name, s := range wrong {
				if got, ok := impl.ReadCommit(s); ok || !sameCommit(got, impl.Commit{}) {
					t.Errorf("%s was answered otherwise", name)
				}
			}
		})
	}
	wait.Wait()
}
