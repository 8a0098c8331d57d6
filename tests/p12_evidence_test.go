package tests

import (
	"fmt"
	"maps"
	"math"
	"slices"
	"strconv"
	"strings"
	"sync"
	"testing"

	"loop.example/g00946/impl"
)

// P12: Blame tells all who signed two votes where one may be, and nobody else.

// ballotOf is a vote with the signature of its validator.
func ballotOf(v impl.Vote) impl.SVote {
	return impl.SVote{Vote: v, Sig: impl.SignAs(v.Val, impl.Digest(v))}
}

// ballotOfAny is a vote, right or not, signed as one would.
func ballotOfAny(v impl.Vote) impl.SVote {
	return impl.SVote{Vote: v, Sig: wantSign(v.Val, wantDigest(v))}
}

// withId is a vote for another block.
func withId(v impl.Vote, id string) impl.Vote {
	v.Id = id
	return v
}

// ballot is a precommit of that validator, always of one place; short words tell the rest of it: for which block it is
// (x, y, z, or - for none), whether it is of the next height (h) or the next round (r), a prevote (p), and whether
// its signature is another one's (!).
func ballot(val int, about string) impl.SVote {
	v := impl.Vote{Height: 5, Round: 2, Step: 2, Val: val}
	if block := about[:1]; block != "-" {
		v.Id = shortOf(block)
	}
	signer := val
	for _, what := range about[1:] {
		switch what {
		case 'h':
			v.Height++
		case 'r':
			v.Round++
		case 'p':
			v.Step = 1
		case '!':
			signer = val%99 + 1
		}
	}
	return impl.SVote{Vote: v, Sig: wantSign(signer, wantDigest(v))}
}

// ballots are the votes of a line of words, each a validator's number and what its ballot is about.
func ballots(line string) []impl.SVote {
	var l []impl.SVote
	for _, word := range strings.Fields(line) {
		about := strings.TrimLeft(word, "0123456789")
		val, _ := strconv.Atoi(strings.TrimSuffix(word, about))
		l = append(l, ballot(val, about))
	}
	return l
}

// wantEvidOk goes by the words of the document, one at a time.
func wantEvidOk(e impl.Evidence) bool {
	a, b := e.A.Vote, e.B.Vote
	if !wantSigned(a, e.A.Sig) || !wantSigned(b, e.B.Sig) {
		return false
	}
	return a.Val == b.Val && a.Height == b.Height && a.Round == b.Round && a.Step == b.Step && a.Id != b.Id
}

// checkEvid holds two votes, and the two of them changed about, against what is wanted.
func checkEvid(t *testing.T, name string, a impl.SVote, b impl.SVote, want bool) {
	t.Helper()
	for _, e := range []impl.Evidence{{A: a, B: b}, {A: b, B: a}} {
		if wantEvidOk(e) != want {
			t.Fatalf("%s: %s is wanted to be %v", name, inShort(e), want)
		}
		val := 0
		if want {
			val = a.Vote.Val
		}
		if got := impl.EvidOk(e); got != want {
			t.Errorf("%s: EvidOk(%s) is %v", name, inShort(e), got)
		}
		if got := impl.Culprit(e); got != val {
			t.Errorf("%s: Culprit(%s) is %d, want %d", name, inShort(e), got, val)
		}
	}
}

// What is wanted here was worked out outside Go, with no part of the program.
func TestEvidenceKnown(t *testing.T) {
	known := []struct {
		v          impl.Vote
		idB        string
		sigA, sigB string
	}{
		{impl.Vote{Height: 5, Round: 2, Step: 2, Id: "abcdefgh", Val: 3}, "", "27fc426a253d46eb", "e28a22a33d21b830"},
		{impl.Vote{Height: 5, Round: 2, Step: 2, Id: "abcdefgh", Val: 3}, "ABCDEFGH", "27fc426a253d46eb", "db737c644ea8da69"},
		{impl.Vote{Height: 300, Round: 128, Step: 1, Id: strings.Repeat("\x00", 8), Val: 50}, strings.Repeat("\xff", 8), "9fda031fe68aefed", "c9f76beeebea9464"},
		{impl.Vote{Height: 1000000, Round: 1000, Step: 2, Val: 99}, strings.Repeat("\xff", 8), "b3e6953ffe228aaa", "16e2c5dee4a83e98"},
		{impl.Vote{Height: 1, Step: 1, Id: "abcdefgh", Val: 1}, "", "d432dec67706fbef", "555e3a8b8571d260"},
	}
	for _, k := range known {
		sigA, _ := impl.Unhex(k.sigA)
		sigB, _ := impl.Unhex(k.sigB)
		a, b := impl.SVote{Vote: k.v, Sig: sigA}, impl.SVote{Vote: withId(k.v, k.idB), Sig: sigB}
		checkEvid(t, "known", a, b, true)
		checkEvid(t, "the digits", impl.SVote{Vote: a.Vote, Sig: k.sigA}, impl.SVote{Vote: b.Vote, Sig: k.sigB}, false)
		checkBlame(t, "known", []impl.SVote{a, b}, k.v.Val)
		if e, ok := impl.FindEvid([]impl.SVote{a, b}, k.v.Val); !ok || e != (impl.Evidence{A: a, B: b}) {
			t.Errorf("FindEvid of %#v and %#v is %#v, %v", a, b, e, ok)
		}
	}
}

func TestEvidOkOfNothing(t *testing.T) {
	checkEvid(t, "the zero one", impl.SVote{}, impl.SVote{}, false)
	for _, v := range []impl.Vote{blockVote(), nothingVote(), {Height: 1, Step: 1, Val: 1}} {
		checkEvid(t, "beside the zero one", ballotOf(v), impl.SVote{}, false)
		checkEvid(t, "beside one with a signature alone", ballotOf(v), impl.SVote{Sig: ballotOf(v).Sig}, false)
		checkEvid(t, "beside its vote alone", ballotOf(v), impl.SVote{Vote: withId(v, "ABCDEFGH")}, false)
		checkEvid(t, "beside one of nobody", ballotOf(v), ballotOfAny(impl.Vote{}), false)
	}
}

// Votes that are unlike in their Id alone are Evidence, whatever else they are; one vote that stands twice is none.
func TestEvidOkOfEachId(t *testing.T) {
	for _, v := range rightVotes() {
		if v.Val == 1 || v.Val == 99 || v.Height < 3 {
			for _, id := range voteIds() {
				checkEvid(t, "unlike in the Id", ballotOf(v), ballotOf(withId(v, id)), v.Id != id)
			}
		}
	}
	for val := 1; val <= 99; val++ {
		checkEvid(t, "a block and none", ballot(val, "x"), ballot(val, "-"), true)
		checkEvid(t, "two blocks", ballot(val, "x"), ballot(val, "y"), true)
		checkEvid(t, "none and none", ballot(val, "-"), ballot(val, "-"), false)
		checkEvid(t, "one block", ballot(val, "x"), ballot(val, "x"), false)
	}
	for at := range 8 {
		for turn := 1; turn < 256; turn++ {
			v := blockVote()
			checkEvid(t, "unlike in a byte", ballotOf(v), ballotOf(withId(v, turnedAt(v.Id, at, byte(turn)))), true)
		}
	}
}

// Votes that are unlike in some of Val, Height, Round, Step and Id: Evidence is where the Id alone is.
func TestEvidOkOfEachPlace(t *testing.T) {
	bends := []func(v *impl.Vote){
		func(v *impl.Vote) { v.Val++ },
		func(v *impl.Vote) { v.Height++ },
		func(v *impl.Vote) { v.Round++ },
		func(v *impl.Vote) { v.Step = 3 - v.Step },
		func(v *impl.Vote) { v.Id = shortOf("q") },
	}
	for _, v := range []impl.Vote{blockVote(), nothingVote(), {Height: 1, Step: 1, Val: 1}, {Height: 999999, Round: 999, Step: 1, Id: strings.Repeat("\xff", 8), Val: 98}, {Height: 7, Round: 7, Step: 2, Id: "77777777", Val: 7}} {
		for set := range 1 << len(bends) {
			near, unlike := v, ""
			for i, do := range bends {
				if set>>i&1 == 1 {
					do(&near)
					unlike += " " + []string{"Val", "Height", "Round", "Step", "Id"}[i]
				}
			}
			checkEvid(t, "unlike in"+unlike, ballotOf(v), ballotOf(near), unlike == " Id")
			if set != 0 {
				checkEvid(t, "unlike in"+unlike+", and signed alike", ballotOf(v), impl.SVote{Vote: near, Sig: ballotOf(v).Sig}, false)
			}
		}
	}
}

func TestEvidOkOfNearVotes(t *testing.T) {
	for _, v := range append(someRightVotes(), blockVote(), nothingVote()) {
		for _, near := range nearVotes(v) {
			checkEvid(t, "near", ballotOf(v), ballotOf(near), withId(near, v.Id) == v)
		}
	}
}

// A Sig that is not the vote's own, for one of the two or for both.
func TestEvidOkOfBadSignatures(t *testing.T) {
	for _, v := range []impl.Vote{blockVote(), nothingVote(), {Height: 1, Step: 1, Val: 1}, {Height: 1000000, Round: 1000, Step: 2, Id: strings.Repeat("\xff", 8), Val: 99}} {
		a, b := ballotOf(v), ballotOf(withId(v, "ABCDEFGH"))
		checkEvid(t, "both good", a, b, true)
		bad := func(s impl.SVote, other impl.SVote) map[string]string {
			sigs := bentSigs(s.Vote, s.Sig)
			sigs["of the other"] = other.Sig
			for val := -1; val <= 101; val++ {
				if val != s.Vote.Val {
					sigs["of "+strconv.Itoa(val)] = impl.SignAs(val, impl.Digest(s.Vote))
				}
			}
			for at := range s.Sig {
				for _, turn := range []byte{1, 2, 16, 128, 255} {
					sigs["bent at "+strconv.Itoa(at)+" by "+strconv.Itoa(int(turn))] = turnedAt(s.Sig, at, turn)
				}
			}
			return sigs
		}
		badOfB := bad(b, a)
		for name, sig := range bad(a, b) {
			badA, badB := impl.SVote{Vote: a.Vote, Sig: sig}, impl.SVote{Vote: b.Vote, Sig: badOfB[name]}
			checkEvid(t, name+", for A", badA, b, false)
			checkEvid(t, name+", for B", a, badB, false)
			checkEvid(t, name+", for both", badA, badB, false)
			checkEvid(t, name+", and the good one", a, badA, false)
			checkEvid(t, name+", twice", badA, badA, false)
		}
		checkEvid(t, "changed about", impl.SVote{Vote: a.Vote, Sig: b.Sig}, impl.SVote{Vote: b.Vote, Sig: a.Sig}, false)
	}
}

// A vote that is not right is no Evidence with any other one, whatever it is signed with.
func TestEvidOkOfVotesThatAreNotRight(t *testing.T) {
	for name, v := range wrongVotes() {
		others := []impl.SVote{ballotOf(blockVote()), ballotOf(nothingVote()), ballotOfAny(v), {Vote: v}, {}}
		for _, id := range []string{"", "abcdefgh", "ABCDEFGH", "q"} {
			others = append(others, ballotOfAny(withId(v, id)), impl.SVote{Vote: withId(v, id), Sig: wantSign(v.Val, "")}, impl.SVote{Vote: withId(v, id)})
		}
		for _, sig := range sigsToTry(v) {
			for _, other := range others {
				checkEvid(t, name, impl.SVote{Vote: v, Sig: sig}, other, false)
			}
		}
	}
}

// Any number in a field of both, with Ids that are unlike: Evidence is where a vote may have it.
func TestEvidOkOfEachNumber(t *testing.T) {
	numbers := append(edgeNumbers(), 98, 100, 101, 257, 998, 1000, 1001, 65537)
	for _, a := range []impl.Vote{blockVote(), {Height: 1, Step: 1, Val: 1}} {
		for _, n := range numbers {
			for field, do := range map[string]func(v *impl.Vote){
				"Height": func(v *impl.Vote) { v.Height = n },
				"Round":  func(v *impl.Vote) { v.Round = n },
				"Step":   func(v *impl.Vote) { v.Step = n },
				"Val":    func(v *impl.Vote) { v.Val = n },
			} {
				v := a
				do(&v)
				other := withId(v, "ABCDEFGH")
				checkEvid(t, field+" "+strconv.Itoa(n), ballotOfAny(v), ballotOfAny(other), wantVoteOk(v))
			}
		}
	}
}

// mixedBallot is a vote of few places and blocks, by three bytes; some are not right, and some are not Signed.
func mixedBallot(mixed string) impl.SVote {
	v := impl.Vote{Height: 5 + int(mixed[0]>>7), Round: int(mixed[0] >> 4 & 1), Step: 1 + int(mixed[0]>>5&1), Val: 1 + int(mixed[1])%5}
	v.Id = []string{"", "abcdefgh", "ABCDEFGH", "abcdefgh"}[mixed[1]>>6]
	s := ballotOf(v)
	switch mixed[2] >> 4 {
	case 0:
		s.Sig = ballotOf(withId(v, "12345678")).Sig
	case 1:
		s.Sig = s.Sig[:7]
	case 2:
		s = ballotOfAny(withId(v, "abcdefg"))
	case 3:
		s.Vote.Val++
	}
	return s
}

// mixedBallots is a list of such votes, the same one for the same start.
func mixedBallots(start int, count int) []impl.SVote {
	mixed := mixedBytes(uint32(start), 3*count)
	var l []impl.SVote
	for i := range count {
		l = append(l, mixedBallot(mixed[3*i:]))
	}
	return l
}

func TestEvidOkOfMixedVotes(t *testing.T) {
	found := map[bool]int{}
	for start := range 500 {
		l := mixedBallots(start, 12)
		for i, a := range l {
			for _, b := range l[i:] {
				want := wantEvidOk(impl.Evidence{A: a, B: b})
				checkEvid(t, "mixed", a, b, want)
				found[want]++
			}
		}
	}
	if found[true] < 200 || found[false] < 200 {
		t.Errorf("%d were Evidence and %d not: too few to tell", found[true], found[false])
	}
}

func checkBlame(t *testing.T, name string, l []impl.SVote, want ...int) {
	t.Helper()
	if got := impl.Blame(l); !slices.Equal(got, want) {
		t.Errorf("%s: Blame(%s) is %v, want %v", name, inShort(l), got, want)
	}
}

// checkFind holds what FindEvid tells of a validator against the votes at two places of the list, or, with none, against nothing.
func checkFind(t *testing.T, name string, l []impl.SVote, val int, pair ...int) {
	t.Helper()
	var want impl.Evidence
	if len(pair) > 0 {
		want = impl.Evidence{A: l[pair[0]], B: l[pair[1]]}
	}
	if got, ok := impl.FindEvid(l, val); got != want || ok != (len(pair) > 0) {
		t.Errorf("%s: FindEvid(%s, %d) is %s, %v, want the votes at %v", name, inShort(l), val, inShort(got), ok, pair)
	}
}

// nobodyHere are numbers of validators that no list of these tests has, and of such as there can't be.
func nobodyHere() []int {
	return []int{math.MinInt, -99, -3, -1, 0, 77, 100, 101, 1<<32 + 3, math.MaxInt}
}

// blameByHand is a line of ballots, and what is told of it: for each who is to be blamed the places of his two votes.
type blameByHand struct {
	line  string
	pairs map[int][2]int
}

// innocentByHand are lines of which nobody is to be blamed.
func innocentByHand() []string {
	return []string{
		"", "3x", "3-", "3xp", "99x", "3x!",
		// One vote that stands twice, or more often.
		"3x 3x", "3x 3x 3x", "3- 3-", "3- 3- 3-", "3x 5y 3x", "3xp 3xp", "3x 5x 4x 3x 5x 4x", "3x 3x 3xr 3xr 3xh 3xh",
		// Two votes of two places.
		"3x 3yr", "3xr 3y", "3x 3yh", "3xh 3y", "3x 3yp", "3xp 3y", "3x 3yhr", "3xh 3yr", "3xp 3yr", "3xp 3yh", "3x 3yhrp",
		"3x 3xr", "3x 3xh", "3x 3xp", "3x 3-r", "3- 3xr", "3- 3xh", "3- 3xp", "3x 3yr 3zh 3-p", "3x 3yp 3x 3yp",
		// Two validators.
		"3x 5y", "3x 4y", "3x 4-", "1x 2y 3z 4-", "99x 98y", "1x 99y", "12x 1y 2y", "3x 5y 3x 5y",
		// Votes of which at most one is Signed.
		"3x! 3y", "3x 3y!", "3x! 3y!", "3x! 3-", "3x 3-!", "3x 3x!", "3x! 3x", "3x! 3x 3x", "3x 3y! 3x", "3y! 3x 3x", "3x 3x 3y!",
		"3x 3y! 3z!", "3y! 3z! 3x", "3y! 3x 3z!", "3x! 3y! 3z!", "3x 5y 3y! 5y", "3x 2y!", "2x! 3y", "3x! 3xr 3y!", "3x 3yr! 3yr",
	}
}

func plainByHand() []blameByHand {
	return []blameByHand{
		{"3x 3y", map[int][2]int{3: {0, 1}}},
		{"3y 3x", map[int][2]int{3: {0, 1}}},
		{"3x 3-", map[int][2]int{3: {0, 1}}},
		{"3- 3x", map[int][2]int{3: {0, 1}}},
		{"3xp 3yp", map[int][2]int{3: {0, 1}}},
		{"3xhrp 3-hrp", map[int][2]int{3: {0, 1}}},
		{"1x 1y", map[int][2]int{1: {0, 1}}},
		{"99x 99y", map[int][2]int{99: {0, 1}}},
		// One that stands twice, beside one that is unlike.
		{"3x 3x 3y", map[int][2]int{3: {0, 2}}},
		{"3x 3y 3x", map[int][2]int{3: {0, 1}}},
		{"3y 3x 3x", map[int][2]int{3: {0, 1}}},
		{"3x 3x 3x 3y", map[int][2]int{3: {0, 3}}},
		{"3- 3- 3- 3x", map[int][2]int{3: {0, 3}}},
		{"3x 3x 3y 3y", map[int][2]int{3: {0, 2}}},
		{"3x 3y 3y 3x", map[int][2]int{3: {0, 1}}},
		{"3x 3x 3xr 3yr", map[int][2]int{3: {2, 3}}},
		// Three that are unlike at one place.
		{"3x 3y 3z", map[int][2]int{3: {0, 1}}},
		{"3z 3y 3x", map[int][2]int{3: {0, 1}}},
		{"3- 3z 3x", map[int][2]int{3: {0, 1}}},
		{"3x 3x 3z 3y", map[int][2]int{3: {0, 2}}},
		{"3y 3z 3y 3x 3-", map[int][2]int{3: {0, 1}}},
		// The first two and the last two, others between them.
		{"3x 3y 5x 4y 6z", map[int][2]int{3: {0, 1}}},
		{"5x 4y 6z 3x 3y", map[int][2]int{3: {3, 4}}},
		{"3x 5x 4y 6z 3y", map[int][2]int{3: {0, 4}}},
		{"3x 3yr 3yh 3yp 3y", map[int][2]int{3: {0, 4}}},
		{"3x 5x 5x 3x 4y 3y 3z", map[int][2]int{3: {0, 5}}},
	}
}

func tangledByHand() []blameByHand {
	return []blameByHand{
		// The first vote without one behind it that fits, a later one with one.
		{"3x 3xr 3yr", map[int][2]int{3: {1, 2}}},
		{"3x 3xp 3xh 3xr 3yr", map[int][2]int{3: {3, 4}}},
		{"3xh 3xr 3y 3yp 3-p", map[int][2]int{3: {3, 4}}},
		{"3x 3xr 3x 3yr 3x", map[int][2]int{3: {1, 3}}},
		// Two places at which one signed twice.
		{"3x 3y 3xr 3yr", map[int][2]int{3: {0, 1}}},
		{"3x 3xr 3yr 3y", map[int][2]int{3: {0, 3}}},
		{"3x 3xr 3y 3yr", map[int][2]int{3: {0, 2}}},
		{"3xr 3x 3y 3yr", map[int][2]int{3: {0, 3}}},
		{"3x 3xr 3yr 3zr 3x 3y", map[int][2]int{3: {0, 5}}},
		{"3xp 3yh 3-h 3xh 3-p", map[int][2]int{3: {0, 4}}},
		{"3x! 3xr 3x 3y 3yr", map[int][2]int{3: {1, 4}}},
		// Several validators.
		{"3x 5y 3y 5x", map[int][2]int{3: {0, 2}, 5: {1, 3}}},
		{"5x 3x 3y 5y", map[int][2]int{3: {1, 2}, 5: {0, 3}}},
		{"9x 9y 7x 7y 1x 1y", map[int][2]int{1: {4, 5}, 7: {2, 3}, 9: {0, 1}}},
		{"9x 7x 1x 1y 7y 9y", map[int][2]int{1: {2, 3}, 7: {1, 4}, 9: {0, 5}}},
		{"12x 2y 1x 12y", map[int][2]int{12: {0, 3}}},
		{"99x 1- 98y 99- 1x 98-", map[int][2]int{1: {1, 4}, 98: {2, 5}, 99: {0, 3}}},
		{"4x 3x 3yr 4y 3x 5- 5-", map[int][2]int{4: {0, 3}}},
		// Votes that are not Signed: ahead of the two, between them, behind them.
		{"3x! 3x 3y", map[int][2]int{3: {1, 2}}},
		{"3x! 3y 3x", map[int][2]int{3: {1, 2}}},
		{"3z! 3x 3y", map[int][2]int{3: {1, 2}}},
		{"3x 3y! 3z", map[int][2]int{3: {0, 2}}},
		{"3x 3x! 3y", map[int][2]int{3: {0, 2}}},
		{"3x 3y! 3y", map[int][2]int{3: {0, 2}}},
		{"3x 3y 3z!", map[int][2]int{3: {0, 1}}},
		{"3x! 3y! 3x 3y", map[int][2]int{3: {2, 3}}},
		{"3x 3y! 3x! 3y", map[int][2]int{3: {0, 3}}},
		{"3z! 3x 3y! 3x 3-", map[int][2]int{3: {1, 4}}},
		{"3x! 3yr! 3xr 3yr", map[int][2]int{3: {2, 3}}},
		{"2x 3x! 2y! 3y 3- 2z", map[int][2]int{2: {0, 5}, 3: {3, 4}}},
	}
}

func TestBlameByHand(t *testing.T) {
	for _, line := range innocentByHand() {
		l := ballots(line)
		checkBlame(t, line, l)
		for _, val := range append(nobodyHere(), 1, 2, 3, 4, 5, 6, 12, 98, 99) {
			checkFind(t, line, l, val)
		}
	}
	for _, c := range slices.Concat(plainByHand(), tangledByHand()) {
		l := ballots(c.line)
		checkBlame(t, c.line, l, slices.Sorted(maps.Keys(c.pairs))...)
		for _, val := range append(nobodyHere(), 1, 2, 3, 4, 5, 6, 7, 8, 9, 12, 98, 99) {
			if pair, blamed := c.pairs[val]; blamed {
				checkFind(t, c.line, l, val, pair[:]...)
			} else {
				checkFind(t, c.line, l, val)
			}
		}
	}
}

func TestBlameOfNoList(t *testing.T) {
	for name, l := range map[string][]impl.SVote{"no list": nil, "an empty one": {}, "an empty one with room": ballots("3x 3y")[:0], "the zero one": {{}}, "the zero one twice": {{}, {}}} {
		checkBlame(t, name, l)
		for _, val := range append(nobodyHere(), 1, 3, 99) {
			checkFind(t, name, l, val)
		}
	}
}

// checkBallots holds Blame and FindEvid of a list against each two of its votes, asked by EvidOk.
// It answers how many are to be blamed.
func checkBallots(t *testing.T, name string, l []impl.SVote) int {
	t.Helper()
	pairs := map[int][]int{}
	for i, a := range l {
		for j, b := range l {
			e := impl.Evidence{A: a, B: b}
			got := impl.EvidOk(e)
			if got != wantEvidOk(e) {
				t.Fatalf("%s: EvidOk(%s) is %v", name, inShort(e), got)
			}
			if got && i < j && pairs[a.Vote.Val] == nil {
				pairs[a.Vote.Val] = []int{i, j}
			}
		}
	}
	checkBlame(t, name, l, slices.Sorted(maps.Keys(pairs))...)
	asked := append(nobodyHere(), 1, 99)
	for _, s := range l {
		asked = append(asked, s.Vote.Val)
	}
	slices.Sort(asked)
	for _, val := range slices.Compact(asked) {
		checkFind(t, name, l, val, pairs[val]...)
		e, ok := impl.FindEvid(l, val)
		if ok && (!impl.EvidOk(e) || impl.Culprit(e) != val) || !ok && e != (impl.Evidence{}) {
			t.Errorf("%s: FindEvid(%s, %d) is %s, %v", name, inShort(l), val, inShort(e), ok)
		}
	}
	return len(pairs)
}

// All lists of at most four of these votes.
func TestBlameOfAllShortLists(t *testing.T) {
	letters := ballots("3x 3y 3- 3xr 3yr 3y! 3xp 5x 5y")
	lists := [][]impl.SVote{nil}
	for len(lists[0]) < 4 {
		var longer [][]impl.SVote
		for _, l := range lists {
			checkBallots(t, "short", l)
			for _, s := range letters {
				longer = append(longer, append(slices.Clip(l), s))
			}
		}
		lists = longer
	}
	found := map[int]int{}
	for _, l := range lists {
		found[checkBallots(t, "of four", l)]++
	}
	if found[0] < 1000 || found[1] < 1000 || found[2] < 8 {
		t.Errorf("of those blamed there were %v: too few to tell", found)
	}
}

// Whatever order the votes stand in, the same ones are blamed.
func TestBlameInEveryOrder(t *testing.T) {
	for line, want := range map[string][]int{
		"3x 3y 3x 3z":          {3},
		"3x 3x 3y! 5- 5-":      nil,
		"9x 9y 2x 2yr 7x 7-":   {7, 9},
		"3x 3y 3xr 3yr 5x":     {3},
		"9x 8x 9- 8- 1x 1yp":   {8, 9},
		"3x 3yr 3yh 3yp 5y 3y": {3},
		"3x! 3y 3z 3y! 4x 4x!": {3},
	} {
		for _, l := range ordersOf(ballots(line)) {
			checkBlame(t, line, l, want...)
			checkBallots(t, line, l)
		}
	}
}

func TestBlameOfMixedLists(t *testing.T) {
	found := map[int]int{}
	for start := range 1500 {
		found[checkBallots(t, "mixed", mixedBallots(start, start%24))]++
	}
	for count := range 4 {
		if found[count] < 50 {
			t.Errorf("%d were blamed %d times: too few to tell", count, found[count])
		}
	}
}

// Votes of several validators, heights, rounds and steps, each validator with one vote at each place, some with a second one at one.
func TestBlameOfManyPlaces(t *testing.T) {
	var honest []impl.SVote
	for _, val := range []int{1, 2, 50, 99} {
		for _, height := range []int{1, 2, 1000000} {
			for _, round := range []int{0, 1, 1000} {
				for step := 1; step <= 2; step++ {
					id := []string{"", "abcdefgh", "ABCDEFGH"}[(val+height+round+step)%3]
					honest = append(honest, ballotOf(impl.Vote{Height: height, Round: round, Step: step, Id: id, Val: val}))
				}
			}
		}
	}
	checkBallots(t, "honest", honest)
	checkBlame(t, "honest", honest)
	checkBlame(t, "honest, twice", slices.Concat(honest, honest))
	for i, s := range honest {
		second := ballotOf(withId(s.Vote, "12345678"))
		for _, at := range []int{0, i, i + 1, len(honest)} {
			l := slices.Insert(slices.Clone(honest), at, second)
			checkBlame(t, "a second one at "+strconv.Itoa(at), l, s.Vote.Val)
			pair := []int{min(at, i), max(at, i+1)}
			if at > i {
				pair = []int{i, at}
			}
			checkFind(t, "a second one at "+strconv.Itoa(at), l, s.Vote.Val, pair...)
			for _, other := range []int{1, 2, 50, 99} {
				if other != s.Vote.Val {
					checkFind(t, "a second one of another", l, other)
				}
			}
		}
	}
}

// All validators that there may be, in falling order, each with two votes; and all but one.
func TestBlameOfManyVals(t *testing.T) {
	var sides, turns, all []impl.SVote
	var want []int
	for val := 99; val >= 1; val-- {
		want = append([]int{val}, want...)
		sides = append(sides, ballot(val, "x"), ballot(val, "y"))
		turns = append([]impl.SVote{ballot(val, "x")}, append(turns, ballot(val, "-"))...)
		all = append(all, ballot(val, "x"), ballot(val, "xr"), ballot(val, "y"), ballot(val, "yr"), ballot(val, "z"))
	}
	checkBlame(t, "side by side", sides, want...)
	checkBlame(t, "around each other", turns, want...)
	checkBlame(t, "at two places", all, want...)
	for i := range 99 {
		val := 99 - i
		checkFind(t, "side by side", sides, val, 2*i, 2*i+1)
		checkFind(t, "around each other", turns, val, slices.Index(turns, ballot(val, "x")), slices.Index(turns, ballot(val, "-")))
		checkFind(t, "at two places", all, val, 5*i, 5*i+2)
		less := slices.Delete(slices.Clone(sides), 2*i, 2*i+1)
		checkBlame(t, "all but one", less, slices.DeleteFunc(slices.Clone(want), func(v int) bool { return v == val })...)
		checkFind(t, "all but one", less, val)
	}
}

// The same two votes, with one thing about them that is another: of two places nobody is to be blamed.
func TestBlameOfTwoPlaces(t *testing.T) {
	for _, v := range someRightVotes() {
		a, other := ballotOf(v), withId(v, "q1234567")
		checkBlame(t, "at one place", []impl.SVote{a, ballotOf(other)}, v.Val)
		for _, near := range nearVotes(other) {
			if withId(near, v.Id) != v {
				l := []impl.SVote{a, ballotOf(near)}
				checkBlame(t, "at two places", l)
				checkFind(t, "at two places", l, v.Val)
				checkFind(t, "at two places", l, near.Val)
				checkBlame(t, "at two places, and once at one", append(l, ballotOf(withId(near, "w1234567"))), near.Val)
			}
		}
	}
}

// What no vote may be takes nobody's place and blames nobody, wherever it stands.
func TestBlameOfVotesThatAreNotRight(t *testing.T) {
	for name, v := range wrongVotes() {
		var wrong []impl.SVote
		for _, id := range []string{v.Id, "", "abcdefgh", "ABCDEFGH", "q"} {
			if !wantVoteOk(withId(v, id)) {
				wrong = append(wrong, ballotOfAny(withId(v, id)), impl.SVote{Vote: withId(v, id), Sig: wantSign(v.Val, "")}, impl.SVote{Vote: withId(v, id)})
			}
		}
		checkBlame(t, name, wrong)
		checkFind(t, name, wrong, v.Val)
		good := ballotOf(blockVote())
		l := slices.Concat(wrong, []impl.SVote{good}, wrong)
		checkBlame(t, name+", around a good one", l)
		checkFind(t, name+", around a good one", l, 3)
		l = append(l, ballotOf(nothingVote()))
		checkBlame(t, name+", around two", l, 3)
		checkFind(t, name+", around two", l, 3, len(wrong), len(l)-1)
		if v.Val != 3 {
			checkFind(t, name+", around two of another", l, v.Val)
		}
	}
}

// A list may be of any length: each vote of it is looked at, the last one too.
func TestBlameOfLongLists(t *testing.T) {
	l := ballots("3x")
	for len(l) < 30000 {
		v := impl.Vote{Height: 6 + len(l), Round: len(l) % 1000, Step: 1 + len(l)%2, Id: shortOf(strconv.Itoa(len(l) % 7)), Val: 1 + len(l)%9}
		l = append(l, ballotOfAny(v))
	}
	checkBlame(t, "long", l)
	checkFind(t, "long", l, 3)
	l = append(l, ballot(3, "y"))
	checkBlame(t, "long, with a second one", l, 3)
	checkFind(t, "long, with a second one", l, 3, 0, len(l)-1)
	l = slices.Repeat(ballots("5x 3x 4y! 3yr"), 10000)
	checkBlame(t, "the same ones again and again", l)
	l = append(l, ballots("4y 5- 3-r")...)
	checkBlame(t, "and others behind them", l, 3, 5)
	checkFind(t, "and others behind them", l, 5, 0, len(l)-2)
	checkFind(t, "and others behind them", l, 3, 3, len(l)-1)
	long := impl.SVote{Vote: withId(blockVote(), strings.Repeat("i", 1<<20)), Sig: strings.Repeat("s", 1<<20)}
	checkBlame(t, "long texts", []impl.SVote{long, ballotOf(blockVote()), long, ballotOfAny(long.Vote)})
}

// evidenceLists are lists of every kind.
func evidenceLists() map[string][]impl.SVote {
	lists := map[string][]impl.SVote{}
	for _, line := range innocentByHand() {
		lists[line] = ballots(line)
	}
	for _, c := range slices.Concat(plainByHand(), tangledByHand()) {
		lists[c.line] = ballots(c.line)
	}
	for start := range 50 {
		lists["mixed "+strconv.Itoa(start)] = mixedBallots(start, 16)
	}
	return lists
}

// roomyBallots is a copy of a list with spare room behind it, and all of that room.
func roomyBallots(l []impl.SVote) ([]impl.SVote, []impl.SVote) {
	all := append(slices.Clone(l), slices.Repeat([]impl.SVote{{Vote: impl.Vote{Height: 501, Id: "spare", Val: 502}, Sig: "spare"}}, 40)...)
	return all[:len(l)], all
}

// What stands in the spare room behind a list is no part of it, and is not written into; nor is the list.
func TestBlameWritesIntoNoArgument(t *testing.T) {
	for name, given := range evidenceLists() {
		l, all := roomyBallots(given)
		want := slices.Clone(all)
		impl.Blame(l)
		for val := range 14 {
			impl.FindEvid(l, val)
		}
		if !slices.Equal(all, want) {
			t.Errorf("%s: the list was written into: %s is now %s", name, inShort(want), inShort(all))
		}
	}
	l := ballots("3x 5x 3y 5y")
	checkBlame(t, "behind the list", l[:2])
	checkBlame(t, "behind the list", l[:3], 3)
	checkFind(t, "behind the list", l[:3], 5)
}

// What was answered is written over, and so is what it was given: neither changes with the other, nor with another answer.
func TestEvidenceOwnsItsMemory(t *testing.T) {
	for name, given := range evidenceLists() {
		l := slices.Clone(given)
		kept, over := impl.Blame(l), impl.Blame(l)
		want := slices.Clone(kept)
		for i := range over[:cap(over)] {
			over[:cap(over)][i] = -7
		}
		found := map[int]impl.Evidence{}
		for _, val := range kept {
			e, _ := impl.FindEvid(l, val)
			found[val] = e
			for _, part := range []string{e.A.Vote.Id, e.A.Sig, e.B.Vote.Id, e.B.Sig} {
				for _, s := range l {
					if sharesMemory(part, s.Vote.Id) || sharesMemory(part, s.Sig) {
						t.Errorf("%s: %q of the answer shares memory with %#v", name, part, s)
					}
				}
			}
		}
		if again := impl.Blame(l); !slices.Equal(again, want) || !slices.Equal(kept, want) || !slices.Equal(l, given) {
			t.Errorf("%s: Blame changed with another answer, to %v and %v", name, kept, again)
		}
		clear(l)
		if !slices.Equal(kept, want) {
			t.Errorf("%s: Blame changed with its argument, to %v", name, kept)
		}
		for val, e := range found {
			checkFind(t, name, given, val, slices.Index(given, e.A), slices.Index(given, e.B))
		}
	}
}

// No call hangs on one ahead of it: what is blamed once is blamed again, and not with another list.
func TestBlameKeepsNothing(t *testing.T) {
	for range 3 {
		checkBlame(t, "two", ballots("3x 3y"), 3)
		checkBlame(t, "the first alone", ballots("3x"))
		checkBlame(t, "the second alone", ballots("3y"))
		checkFind(t, "the second alone", ballots("3y"), 3)
		checkFind(t, "two", ballots("3y 3x"), 3, 0, 1)
		checkBlame(t, "another", ballots("5x 3z 5y"), 5)
	}
}

func TestEvidenceFromManyAtOnce(t *testing.T) {
	lists := evidenceLists()
	shown := map[string]string{}
	tell := func(l []impl.SVote) string {
		told := fmt.Sprint(impl.Blame(l))
		for val := range 14 {
			e, ok := impl.FindEvid(l, val)
			told += fmt.Sprintf(" %#v %v %v %d", e, ok, impl.EvidOk(e), impl.Culprit(e))
		}
		return told
	}
	for name, l := range lists {
		shown[name] = tell(l)
	}
	var wait sync.WaitGroup
	for range 8 {
		wait.Go(func() {
			for name, l := range lists {
				if tell(l) != shown[name] {
					t.Errorf("%s was answered otherwise", name)
				}
			}
		})
	}
	wait.Wait()
}
