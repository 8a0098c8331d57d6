package tests

import (
	"fmt"
	"math"
	"slices"
	"strconv"
	"strings"
	"sync"
	"testing"

	"loop.example/g00946/impl"
)

// P11: what Verify takes is signed by Enough of those whom the anchor names, hangs on it, and is later; what it refuses leaves the anchor as it is.

// step is what Verify is asked.
type step struct {
	trust impl.Trust
	a     impl.Anchor
	h     impl.Header
	next  []impl.Val
	c     impl.Commit
	now   int
}

func (s step) verify() (impl.Anchor, int) {
	return impl.Verify(s.trust, s.a, s.h, s.next, s.c, s.now)
}

// signed is the step with a commit for its header by these.
func (s step) signed(round int, vals ...int) step {
	s.c = commitFor(s.h, round, vals...)
	return s
}

// signedByAll is the step with a commit for its header by all whom the anchor names, as far as a commit has room.
func (s step) signedByAll() step {
	ids := idsOf(s.a.Next)
	return s.signed(2, ids[:min(len(ids), 12)]...)
}

// anchorOf is a right anchor of that height and time, with these validators and those.
func anchorOf(height int, time int, vals []impl.Val, next []impl.Val) impl.Anchor {
	h := headFor(vals, height)
	h.Time, h.Next = time, impl.ValsHash(next)
	return impl.Anchor{Head: h, Next: slices.Clone(next)}
}

// stepBehind is the step from an anchor to the header behind it, so many ticks later, with those as its next; nobody has signed.
func stepBehind(trust impl.Trust, a impl.Anchor, later int, next []impl.Val) step {
	h := impl.Header{Height: a.Head.Height + 1, Time: a.Head.Time + later, Last: impl.HeadId(a.Head), Vals: a.Head.Next, Next: impl.ValsHash(next), Data: "d" + impl.Dec(later)}
	return step{trust: trust, a: a, h: h, next: slices.Clone(next), now: h.Time}
}

// goodSteps are of anchors of several heights, times and trusts, and of validators of unlike Power; all have signed.
func goodSteps() []step {
	rows := rightVals()
	var l []step
	for i, height := range []int{1, 2, 3, 127, 128, 300, 16383, 999998, 999999} {
		for j, time := range []int{1100, 1101, 5000, 123456, 850000} {
			place := 7*i + 3*j
			trust := impl.Trust{Period: 50 + 1000*i, Slack: 3 * j}
			a := anchorOf(height, time, rows[place%len(rows)], rows[(place+5)%len(rows)])
			l = append(l, stepBehind(trust, a, 1+(i+j)%40, rows[(place+9)%len(rows)]).signedByAll())
		}
	}
	return l
}

// plainStep is one with four whom the anchor names, of whom three are Enough.
func plainStep() step {
	a := anchorOf(7, 2000, valsOf(3, 2, 1), valsOf(1, 1, 1, 1))
	return stepBehind(impl.Trust{Period: 50, Slack: 3}, a, 10, pairsOf(3, 5, 8, 4)).signed(1, 1, 2, 9)
}

func wantAnchorOk(a impl.Anchor) bool {
	return wantHeaderOk(a.Head) && wantValsOk(a.Next) && shortOf(wantShown(a.Next)) == a.Head.Next
}

// wantReasons are the codes of all reasons that stand, each asked for by itself by the words of the document.
func wantReasons(s step) []int {
	nextHash := ""
	if wantValsOk(s.next) {
		nextHash = shortOf(wantShown(s.next))
	}
	var codes []int
	for code, stands := range []bool{
		1: !wantTrustOk(s.trust) || !wantAnchorOk(s.a) || !wantHeaderOk(s.h) || !wantTime(s.now),
		2: s.now > s.a.Head.Time+s.trust.Period,
		3: s.h.Time > s.now+s.trust.Slack,
		4: s.h.Height != s.a.Head.Height+1,
		5: s.h.Time <= s.a.Head.Time,
		6: s.h.Last != shortOf(wantHeaderText(s.a.Head)),
		7: s.h.Vals != s.a.Head.Next,
		8: s.h.Next != nextHash,
		9: !wantCommitOk(s.a.Next, s.h, s.c),
	} {
		if stands {
			codes = append(codes, code)
		}
	}
	return codes
}

// wantCode is the first one's.
func wantCode(s step) int {
	return append(wantReasons(s), 0)[0]
}

func sameAnchor(a impl.Anchor, b impl.Anchor) bool {
	return a.Head == b.Head && slices.Equal(a.Next, b.Next)
}

// inShort keeps a failed test from filling pages with one long list.
func inShort(x any) string {
	return fmt.Sprintf("%.2000s", fmt.Sprintf("%#v", x))
}

// checkStep holds the code against what is wanted, and the anchor against the one that goes with it.
func checkStep(t *testing.T, name string, s step, want int) {
	t.Helper()
	stays := s.a
	if want == 0 {
		stays = impl.Anchor{Head: s.h, Next: s.next}
	}
	got, code := s.verify()
	if code != want {
		t.Errorf("%s: the code is %d, want %d, of %s", name, code, want, inShort(s))
	}
	if !sameAnchor(got, stays) {
		t.Errorf("%s: the anchor is %s, want %s", name, inShort(got), inShort(stays))
	}
}

func TestVerifyNumbers(t *testing.T) {
	codes := []int{impl.VfOk, impl.VfBad, impl.VfExpired, impl.VfFuture, impl.VfHeight, impl.VfTime, impl.VfLast, impl.VfVals, impl.VfNext, impl.VfCommit}
	for want, code := range codes {
		if code != want {
			t.Errorf("code %d is %d", want, code)
		}
	}
}

func checkAnchor(t *testing.T, name string, a impl.Anchor, want bool) {
	t.Helper()
	if got := impl.AnchorOk(a); got != want {
		t.Errorf("%s: AnchorOk(%#v) is %v", name, a, got)
	}
}

func TestAnchorOkOfRightOnes(t *testing.T) {
	for _, next := range rightVals() {
		for _, vals := range [][]impl.Val{next, valsOf(3, 2, 1)} {
			for _, height := range []int{1, 2, 1000000} {
				for _, time := range []int{0, 1, 999999, 1000000} {
					checkAnchor(t, "right", anchorOf(height, time, vals, next), true)
				}
			}
		}
	}
	for _, h := range rightHeaders() {
		h.Next = impl.ValsHash(valsOf(3, 2, 1))
		checkAnchor(t, "right", impl.Anchor{Head: h, Next: valsOf(3, 2, 1)}, true)
	}
}

func TestAnchorOkOfHeadersThatAreNotRight(t *testing.T) {
	tried := 0
	next := valsOf(3, 2, 1)
	for name, h := range wrongHeaders() {
		checkAnchor(t, name, impl.Anchor{Head: h, Next: next}, false)
		checkAnchor(t, name+", and none", impl.Anchor{Head: h}, false)
		h.Next = impl.ValsHash(next)
		if wantHeaderOk(h) {
			continue
		}
		checkAnchor(t, name+", and it tells its Next", impl.Anchor{Head: h, Next: next}, false)
		h.Next = ""
		checkAnchor(t, name+", and neither tells a Next", impl.Anchor{Head: h}, false)
		tried++
	}
	if tried < 100 {
		t.Errorf("%d were tried: too few to tell", tried)
	}
	checkAnchor(t, "the zero one", impl.Anchor{}, false)
}

// Validators that are not right are none, though the header tells them as it would if they were.
func TestAnchorOkOfValidatorsThatAreNotRight(t *testing.T) {
	for name, l := range wrongVals() {
		for _, hash := range []string{shortOf(wouldShow(l)), shortOf(""), "", strings.Repeat("\x00", 8), impl.ValsHash(valsOf(3, 2, 1))} {
			for _, height := range []int{1, 2} {
				h := headerAt(height)
				h.Next = hash
				checkAnchor(t, name, impl.Anchor{Head: h, Next: l}, false)
			}
		}
	}
}

// No others than those whom the header tells are right in their place, be it one Power, one Id, one more or one less.
func TestAnchorOkOfOtherValidators(t *testing.T) {
	rows := rightVals()
	for i, next := range rows {
		a := anchorOf(2+i, 300, valsOf(3, 2, 1), next)
		for _, other := range rows {
			checkAnchor(t, "another row", impl.Anchor{Head: a.Head, Next: other}, slices.Equal(next, other))
		}
		for place := range next {
			for _, d := range []int{-1, 1} {
				power, id := slices.Clone(next), slices.Clone(next)
				power[place].Power += d
				id[place].Id += d
				checkAnchor(t, "another Power", impl.Anchor{Head: a.Head, Next: power}, false)
				checkAnchor(t, "another Id", impl.Anchor{Head: a.Head, Next: id}, false)
			}
			checkAnchor(t, "one less", impl.Anchor{Head: a.Head, Next: slices.Delete(slices.Clone(next), place, place+1)}, false)
		}
		checkAnchor(t, "one more", impl.Anchor{Head: a.Head, Next: append(slices.Clone(next), next[len(next)-1])}, false)
		turned := slices.Clone(next)
		slices.Reverse(turned)
		checkAnchor(t, "the other way round", impl.Anchor{Head: a.Head, Next: turned}, len(next) == 1)
		checkAnchor(t, "none", impl.Anchor{Head: a.Head}, false)
		checkAnchor(t, "none, with room", impl.Anchor{Head: a.Head, Next: turned[:0]}, false)
	}
	now := anchorOf(5, 300, valsOf(3, 2, 1), valsOf(1, 1, 1))
	now.Next = valsOf(3, 2, 1)
	checkAnchor(t, "those of its Vals", now, false)
	for at := range 8 {
		for _, turn := range []byte{1, 128, 255} {
			other := anchorOf(5, 300, valsOf(3, 2, 1), valsOf(1, 1, 1))
			other.Head.Next = turnedAt(other.Head.Next, at, turn)
			checkAnchor(t, "a bent hash", other, false)
		}
	}
}

// What is wanted here was worked out outside Go, with no part of the program.
func TestVerifyKnown(t *testing.T) {
	texts := map[string]string{
		"first":  "01010008434368604f5390a008f985f97254a38f5903313436",
		"next":   "0501050203030404050503",
		"second": "02030863b8653cbfd32dc508f985f97254a38f59087f391841647a5f2d023631",
		"behind": "0501050202030404050503",
		"commit": "02000846ff731463c53d0e050108436d9325886e8bca0208ea0c7b95fa0f523c030878ecbcaeca2336460408e10d64572d97a0ea0508674b62a17d5d50e0",
	}
	for name, s := range texts {
		texts[name], _ = impl.Unhex(s)
	}
	var s step
	s.trust, s.now = impl.Trust{Period: 2}, 3
	s.a.Head, _ = impl.ReadHeader(texts["first"])
	s.a.Next, _ = impl.ReadVals(texts["next"])
	s.h, _ = impl.ReadHeader(texts["second"])
	s.next, _ = impl.ReadVals(texts["behind"])
	s.c, _ = impl.ReadCommit(texts["commit"])
	checkAnchor(t, "the first", s.a, true)
	checkStep(t, "the second", s, 0)
	s.now = 4
	checkStep(t, "a tick late", s, 2)
	s.now = 2
	checkStep(t, "a tick early", s, 3)
	s.now = 3
	s.c.Sigs = s.c.Sigs[1:]
	checkStep(t, "by all but 1, who have 15 of 20", s, 0)
	s.c.Sigs = s.c.Sigs[1:]
	checkStep(t, "by 3, 4 and 5, who have 12 of 20", s, 9)
}

func TestVerifyTakesGoodSteps(t *testing.T) {
	for i, s := range goodSteps() {
		checkStep(t, "good "+strconv.Itoa(i), s, 0)
		got, _ := s.verify()
		checkAnchor(t, "what is answered", got, true)
	}
	checkStep(t, "plain", plainStep(), 0)
}

// From anchor to anchor, many steps on: each header is refused when trust is over, taken ahead of that, and refused a second time.
func TestVerifyManyStepsOn(t *testing.T) {
	rows := rightVals()
	for start := range rows {
		trust := impl.Trust{Period: 100, Slack: start % 4}
		a := anchorOf(1+start*1000, 10*start, rows[start], rows[(start+1)%len(rows)])
		for i := range 40 {
			s := stepBehind(trust, a, 1+(start+i)%50, rows[(start+3*i+2)%len(rows)])
			s.now += i % 50
			s = s.signed(i*25, idsOf(a.Next)...)
			checkStep(t, "in turn", s, 0)
			late := s
			late.now = a.Head.Time + 101
			checkStep(t, "refused ahead of it", late, 2)
			refused, _ := late.verify()
			s.a = refused
			checkStep(t, "in turn, behind a refusal", s, 0)
			a, _ = s.verify()
			checkAnchor(t, "in turn", a, true)
			s.a = a
			checkStep(t, "again", s, 4)
		}
		if want := 1 + start*1000 + 40; a.Head.Height != want {
			t.Errorf("the Height is %d, want %d", a.Head.Height, want)
		}
	}
}

// Each block of a chain but the first one is verified from the one ahead, and no other is.
func TestVerifyChains(t *testing.T) {
	for _, seed := range []string{"", "v", "seed", "79", "509", "s10", "s29"} {
		l := impl.ChainOf(seed, 12)
		for i, from := range l {
			for j, b := range l {
				s := step{impl.Trust{Period: 100}, impl.Anchor{Head: from.Head, Next: from.Next}, b.Head, b.Next, b.Commit, l[11].Head.Time}
				want := 4
				if j == i+1 {
					want = 0
				}
				checkStep(t, "of "+seed+", from "+strconv.Itoa(i)+" to "+strconv.Itoa(j), s, want)
			}
		}
		a := impl.Anchor{Head: l[0].Head, Next: l[0].Next}
		for _, b := range l[1:] {
			code := 0
			if a, code = impl.Verify(impl.Trust{Period: 5}, a, b.Head, b.Next, b.Commit, b.Head.Time); code != 0 {
				t.Errorf("of %q, Height %d: %d", seed, b.Head.Height, code)
			}
		}
		if !sameAnchor(a, impl.Anchor{Head: l[11].Head, Next: l[11].Next}) {
			t.Errorf("of %q, the anchor behind all is %#v", seed, a)
		}
	}
}

// bend puts one reason into a step. Where it is late it is done behind the signing.
type bend struct {
	name string
	code int
	late bool
	do   func(s *step)
}

func headBend(name string, code int, do func(s *step, h *impl.Header)) bend {
	return bend{name, code, false, func(s *step) { do(s, &s.h) }}
}

// addedAt are validators with so much more at one place, counted round, where there is any.
func addedAt(l []impl.Val, place int, id int, power int) []impl.Val {
	l = slices.Clone(l)
	if len(l) > 0 {
		v := &l[(place+len(l))%len(l)]
		v.Id, v.Power = v.Id+id, v.Power+power
	}
	return l
}

func badBends() []bend {
	return []bend{
		{"no Period", 1, false, func(s *step) { s.trust.Period = 0 }},
		{"Period too great", 1, false, func(s *step) { s.trust.Period = 100001 }},
		{"Slack below 0", 1, false, func(s *step) { s.trust.Slack = -1 }},
		{"Slack too great", 1, false, func(s *step) { s.trust.Slack = 1001 }},
		{"anchor without a Time", 1, false, func(s *step) { s.a.Head.Time = -1 }},
		{"anchor's Time too great", 1, false, func(s *step) { s.a.Head.Time = 1000001 }},
		{"anchor's Data too long", 1, false, func(s *step) { s.a.Head.Data = strings.Repeat("x", 21) }},
		{"anchor without Next", 1, false, func(s *step) { s.a.Next = nil }},
		{"anchor with one Power more", 1, false, func(s *step) { s.a.Next = addedAt(s.a.Next, 0, 0, 1) }},
		{"anchor with others", 1, false, func(s *step) { s.a.Next = pairsOf(1, 2, 3, 4) }},
		{"anchor of another Next", 1, false, func(s *step) { s.a.Head.Next = impl.Short("q") }},
		{"header's Data too long", 1, false, func(s *step) { s.h.Data = strings.Repeat("x", 21) }},
		{"header's Vals cut", 1, false, func(s *step) { s.h.Vals = impl.Short("q")[:7] }},
		{"header's Next none", 1, false, func(s *step) { s.h.Next = "" }},
		{"header's Last none", 1, false, func(s *step) { s.h.Last = "" }},
		{"header's Time below 0", 1, false, func(s *step) { s.h.Time = -1 }},
		{"header's Height too great", 1, false, func(s *step) { s.h.Height = 1000001 }},
		{"now below 0", 1, false, func(s *step) { s.now = -1 }},
		{"now far below 0", 1, false, func(s *step) { s.now = math.MinInt }},
		{"now past MaxTime", 1, false, func(s *step) { s.now = 1000001 }},
		{"now at the end of numbers", 1, false, func(s *step) { s.now = math.MaxInt }},
	}
}

func timeBends() []bend {
	return []bend{
		{"a tick late", 2, false, func(s *step) { s.now = s.a.Head.Time + s.trust.Period + 1 }},
		{"very late", 2, false, func(s *step) { s.now = 1000000 }},
		headBend("a tick ahead", 3, func(s *step, h *impl.Header) { h.Time = s.now + s.trust.Slack + 1 }),
		headBend("far ahead", 3, func(s *step, h *impl.Header) { h.Time = 1000000 }),
		{"a tick too early", 3, false, func(s *step) { s.now = s.h.Time - s.trust.Slack - 1 }},
		{"much too early", 3, false, func(s *step) { s.now = 0 }},
		headBend("at the anchor's Time", 5, func(s *step, h *impl.Header) { h.Time = s.a.Head.Time }),
		headBend("ahead of the anchor's Time", 5, func(s *step, h *impl.Header) { h.Time = s.a.Head.Time - 1 }),
		headBend("far ahead of the anchor's Time", 5, func(s *step, h *impl.Header) { h.Time = 0 }),
	}
}

// turnedAt is a text with a byte turned, where it has that one.
func turnedAt(s string, at int, by byte) string {
	b := []byte(s)
	if at < len(b) {
		b[at] ^= by
	}
	return string(b)
}

// shiftHeight also sees to it that the header stays one that is right.
func shiftHeight(h *impl.Header, by int) {
	h.Height += by
	if h.Height == 1 {
		h.Last = ""
	}
}

func placeBends() []bend {
	return []bend{
		headBend("the same Height", 4, func(s *step, h *impl.Header) { shiftHeight(h, -1) }),
		headBend("one less", 4, func(s *step, h *impl.Header) { shiftHeight(h, -2) }),
		headBend("two more", 4, func(s *step, h *impl.Header) { shiftHeight(h, 1) }),
		headBend("the last Height", 4, func(s *step, h *impl.Header) { h.Height = 1000000 }),
		headBend("Last of another", 6, func(s *step, h *impl.Header) { h.Last = impl.Short("q") }),
		headBend("Last of itself", 6, func(s *step, h *impl.Header) { h.Last = impl.HeadId(*h) }),
		headBend("Last of the one behind", 6, func(s *step, h *impl.Header) { h.Last = (s.a.Head.Last + "12345678")[:8] }),
		headBend("Last of noughts", 6, func(s *step, h *impl.Header) { h.Last = strings.Repeat("\x00", 8) }),
		headBend("Last with a bit turned", 6, func(s *step, h *impl.Header) { h.Last = turnedAt(h.Last, 7, 1) }),
		headBend("Last with two bytes turned", 6, func(s *step, h *impl.Header) { h.Last = turnedAt(turnedAt(h.Last, 0, 255), 4, 255) }),
	}
}

func valsBends() []bend {
	return []bend{
		headBend("Vals of the anchor", 7, func(s *step, h *impl.Header) { h.Vals = s.a.Head.Vals }),
		headBend("Vals of nobody", 7, func(s *step, h *impl.Header) { h.Vals = impl.Short("q") }),
		headBend("Vals of noughts", 7, func(s *step, h *impl.Header) { h.Vals = strings.Repeat("\x00", 8) }),
		headBend("Vals with a bit turned", 7, func(s *step, h *impl.Header) { h.Vals = turnedAt(h.Vals, 0, 128) }),
		headBend("Vals of those behind", 7, func(s *step, h *impl.Header) { h.Vals = impl.ValsHash(pairsOf(5, 6, 7, 8)) }),
		{"nobody next", 8, false, func(s *step) { s.next = nil }},
		{"one Power more", 8, false, func(s *step) { s.next = addedAt(s.next, -1, 0, 1) }},
		{"one Power less", 8, false, func(s *step) { s.next = addedAt(s.next, 0, 0, -1) }},
		{"another Id", 8, false, func(s *step) { s.next = addedAt(s.next, -1, 1, 0) }},
		{"the other way round", 8, false, func(s *step) { slices.Reverse(s.next) }},
		{"one less", 8, false, func(s *step) { s.next = s.next[min(1, len(s.next)):] }},
		{"one twice", 8, false, func(s *step) { s.next = append(s.next, s.next[:min(1, len(s.next))]...) }},
		{"zero ones", 8, false, func(s *step) { s.next = make([]impl.Val, 3) }},
		headBend("Next of nobody", 8, func(s *step, h *impl.Header) { h.Next = impl.Short("q") }),
		headBend("Next of those not right", 8, func(s *step, h *impl.Header) { s.next = pairsOf(2, 1, 1, 1); h.Next = shortOf(wouldShow(s.next)) }),
		headBend("Next of none at all", 8, func(s *step, h *impl.Header) { s.next = nil; h.Next = shortOf("") }),
	}
}

func commitBends() []bend {
	return []bend{
		{"no Sigs", 9, true, func(s *step) { s.c.Sigs = nil }},
		{"no commit", 9, true, func(s *step) { s.c = impl.Commit{} }},
		{"another Round", 9, true, func(s *step) { s.c.Round++ }},
		{"another Height", 9, true, func(s *step) { s.c.Height++ }},
		{"another Id", 9, true, func(s *step) { s.c.Id = impl.Short("q") }},
		{"for nothing", 9, true, func(s *step) { s.c.Id = "" }},
		{"for the anchor", 9, true, func(s *step) { s.c = commitFor(s.a.Head, 2, idsOf(s.a.Next)...) }},
		{"other Data than was signed", 9, true, func(s *step) { s.h.Data = "lie" }},
		{"no Data, and some was signed", 9, true, func(s *step) { s.h.Data = "" }},
		{"too many Sigs", 9, true, func(s *step) { s.c.Sigs = append(s.c.Sigs, make([]impl.CSig, 12)...) }},
		{"Sigs cut", 9, true, func(s *step) {
			for i, sig := range s.c.Sigs {
				s.c.Sigs[i].Sig = sig.Sig[:len(sig.Sig)/2]
			}
		}},
		{"by strangers", 9, true, func(s *step) { *s = s.signed(2, 5, 6, 10, 97) }},
	}
}

func allBends() []bend {
	return slices.Concat(badBends(), timeBends(), placeBends(), valsBends(), commitBends())
}

// bent is a step with all of the bends, those that are not late in their order, then signed by all, then the late ones.
func bent(s step, bends ...bend) step {
	s.a.Next, s.next = slices.Clone(s.a.Next), slices.Clone(s.next)
	for _, b := range bends {
		if !b.late {
			b.do(&s)
		}
	}
	s = s.signedByAll()
	for _, b := range bends {
		if b.late {
			b.do(&s)
		}
	}
	return s
}

// Of Vals that are other ones there is no commit either: VfVals is never alone, and yet told.
func standsAlone(reasons []int, code int) bool {
	return slices.Equal(reasons, []int{code}) || code == 7 && slices.Equal(reasons, []int{7, 9})
}

// Each reason, in several ways, with nothing else that could be told.
func TestVerifyEachReasonAlone(t *testing.T) {
	for _, b := range allBends() {
		alone := 0
		for _, good := range goodSteps() {
			s := bent(good, b)
			if b.code != 1 && standsAlone(wantReasons(s), b.code) || b.code == 1 && slices.Contains(wantReasons(s), 1) {
				checkStep(t, b.name, s, b.code)
				alone++
			}
		}
		if alone == 0 {
			t.Errorf("%s stood alone in no step", b.name)
		}
	}
}

// Each two reasons, in several ways and in both orders: the one that is named first is told.
func TestVerifyEachTwoReasons(t *testing.T) {
	met := map[[2]int]int{}
	good := goodSteps()
	for i, one := range allBends() {
		for j, other := range allBends() {
			for k := range 3 {
				s := bent(good[(11*i+7*j+k)%len(good)], one, other)
				reasons := wantReasons(s)
				checkStep(t, one.name+" and "+other.name, s, wantCode(s))
				if one.code < other.code && len(reasons) > 1 && reasons[0] == one.code && slices.Contains(reasons, other.code) {
					met[[2]int{one.code, other.code}]++
				}
			}
		}
	}
	for code := 1; code <= 9; code++ {
		for other := code + 1; other <= 9; other++ {
			if met[[2]int{code, other}] == 0 {
				t.Errorf("%d was never told with %d behind it", code, other)
			}
		}
	}
}

// Bends of any number and kind are answered as the document's words say.
func TestVerifyOfMixedSteps(t *testing.T) {
	found := map[int]int{}
	good, bends := goodSteps(), allBends()
	// VfBad goes ahead of all others, so it is put in less often, for the others to be met too.
	later := bends[len(badBends()):]
	for start := range 30000 {
		mixed := mixedBytes(uint32(start+991), 8)
		var some []bend
		for i := range int(mixed[0]) % 4 {
			some = append(some, later[int(mixed[1+i])%len(later)])
		}
		if mixed[5]%16 == 0 {
			some = append(some, bends[int(mixed[6])%len(bends)])
		}
		s := bent(good[start%len(good)], some...)
		code := wantCode(s)
		checkStep(t, "mixed", s, code)
		found[code]++
	}
	for code := range 10 {
		if found[code] < 300 {
			t.Errorf("of code %d there were %d: too few to tell", code, found[code])
		}
	}
}

// What is taken is so by the promise's words; asked of steps most of which are nearly good.
func TestVerifyTakesNothingElse(t *testing.T) {
	good, bends := goodSteps(), allBends()
	taken, refused := 0, 0
	for i, g := range good {
		for j, b := range append(bends, bend{do: func(s *step) {}}) {
			s := bent(g, b)
			if !b.late && j%2 == 0 {
				set := mixedBytes(uint32(i*len(bends)+j), 1)[0]
				s = s.signed(i, idsIn(s.a.Next, int(set))...)
			}
			got, code := s.verify()
			if code != impl.VfOk {
				refused++
				if !sameAnchor(got, s.a) {
					t.Errorf("%s: what was refused made the anchor %#v", b.name, got)
				}
				continue
			}
			taken++
			if !impl.Enough(s.a.Next, impl.CommitVals(s.c)) || s.c.Id != impl.HeadId(s.h) || s.h.Last != impl.HeadId(s.a.Head) {
				t.Errorf("%s: it was not signed, or does not hang on the anchor: %#v", b.name, s)
			}
			if s.h.Height != s.a.Head.Height+1 || s.h.Time <= s.a.Head.Time || !impl.AnchorOk(got) {
				t.Errorf("%s: it is not the next one: %#v", b.name, s)
			}
		}
	}
	if taken < 20 || refused < 1000 {
		t.Errorf("%d were taken and %d refused: too few to tell", taken, refused)
	}
}

// A Commit by every set of those whom the anchor names, by the sets of which nobody may be lacking, worked out by hand.
func TestVerifyBySetsThatAreEnough(t *testing.T) {
	for i, c := range enoughCases() {
		l := valsOf(c.powers...)
		a := anchorOf(1+i*30000, 500*i, valsOf(1, 1), l)
		s := stepBehind(impl.Trust{Period: 9}, a, 9, valsOf(2, 3, 4))
		for set := range 1 << len(l) {
			want := 9
			if slices.ContainsFunc(c.least, func(least string) bool { return has(set, least) }) {
				want = 0
			}
			checkStep(t, "by a set", s.signed(i*40, idsIn(l, set)...), want)
		}
	}
}

func TestVerifyOfCommitsByHand(t *testing.T) {
	good := plainStep()
	for name, c := range map[string]struct {
		s    step
		want int
	}{
		"just Enough":           {good, 0},
		"all":                   {good.signed(0, 1, 2, 9, 40), 0},
		"one less":              {good.signed(1, 1, 2), 9},
		"two, each twice":       {good.signed(1, 1, 2, 2, 1), 9},
		"two and a stranger":    {good.signed(1, 1, 2, 3), 9},
		"three and strangers":   {good.signed(1, 97, 3, 1, 2, 8, 9), 0},
		"nobody":                {good.signed(1), 9},
		"those of next alone":   {good.signed(1, 3, 8), 9},
		"those of next and two": {good.signed(1, 3, 8, 1, 2), 9},
		"the greatest round":    {good.signed(1000, 1, 2, 9), 0},
		"past it":               {good.signed(1001, 1, 2, 9), 9},
		"below it":              {good.signed(-1, 1, 2, 9), 9},
		"twelve":                {good.signed(1, slices.Repeat([]int{40, 2, 9}, 4)...), 0},
		"thirteen":              {good.signed(1, slices.Repeat([]int{40, 2, 9}, 5)[:13]...), 9},
	} {
		checkStep(t, name, c.s, c.want)
	}
	bad := good
	for name, text := range badSigs(good.c, 9) {
		sigs := slices.Clone(good.c.Sigs)
		sigs[2].Sig = text
		bad.c = withSigs(good.c, sigs...)
		checkStep(t, name+", as the third", bad, 9)
		bad.c = withSigs(good.c, append(sigs, good.c.Sigs[2])...)
		checkStep(t, name+", and the good one behind", bad, 0)
	}
	for i := range good.c.Sigs {
		prevote := committed(good.c, good.c.Sigs[i].Val)
		prevote.Step = 1
		bad.c = withSigs(good.c, slices.Clone(good.c.Sigs)...)
		bad.c.Sigs[i].Sig = signedNear(prevote)
		checkStep(t, "a prevote among them", bad, 9)
	}
}

// Whoever stood ahead, and stands no more, has no say; whoever comes next has none yet.
func TestVerifyAsksThoseOfTheAnchorsNextAlone(t *testing.T) {
	ahead, next, behind := pairsOf(1, 1, 2, 1, 3, 1), pairsOf(4, 1, 5, 1, 6, 1), pairsOf(7, 1, 8, 1, 9, 1)
	s := stepBehind(impl.Trust{Period: 9}, anchorOf(4, 20, ahead, next), 1, behind)
	checkStep(t, "those of next", s.signed(0, 4, 5, 6), 0)
	checkStep(t, "those ahead", s.signed(0, 1, 2, 3), 9)
	checkStep(t, "those behind", s.signed(0, 7, 8, 9), 9)
	checkStep(t, "those ahead and behind", s.signed(0, 1, 2, 3, 7, 8, 9), 9)
	for name, l := range map[string][]impl.Val{"ahead": ahead, "behind": behind} {
		other := s
		other.h.Vals = impl.ValsHash(l)
		checkStep(t, "Vals of those "+name, other.signed(0, idsOf(l)...), 7)
		other = s
		other.a.Next = l
		checkStep(t, "an anchor with those "+name, other.signed(0, idsOf(l)...), 1)
	}
	same := stepBehind(impl.Trust{Period: 9}, anchorOf(4, 20, next, next), 1, next)
	checkStep(t, "they stay", same.signed(0, 4, 5, 6), 0)
}

// All but the Data is as it should be.
func TestVerifyOfOtherData(t *testing.T) {
	for _, good := range goodSteps() {
		for _, data := range []string{"", "lie", "d", good.h.Data + " ", good.h.Data + "\x00", strings.ToUpper(good.h.Data), strings.Repeat("x", 20)} {
			s := good
			s.h.Data = data
			checkStep(t, "Data "+data, s, 9)
			checkStep(t, "Data "+data+", and it was signed", s.signedByAll(), 0)
		}
		s := good
		s.h.Data = strings.Repeat("x", 21)
		checkStep(t, "too long", s.signedByAll(), 1)
	}
}

func TestVerifyOfTrustsThatAreNotRight(t *testing.T) {
	for name, trust := range wrongTrusts() {
		for _, b := range append(allBends(), bend{do: func(s *step) {}}) {
			s := plainStep()
			s.trust = trust
			checkStep(t, name+" and "+b.name, bent(s, b, bend{do: func(s *step) { s.trust = trust }}), 1)
		}
	}
	for _, trust := range rightTrusts() {
		s := plainStep()
		s.trust = trust
		s.now = s.a.Head.Time + min(trust.Period, 10)
		checkStep(t, "right", s, wantCode(s))
		s.now = s.h.Time
		want := 0
		if trust.Period < 10 {
			want = 2
		}
		checkStep(t, "right, at its Time", s, want)
	}
}

func TestVerifyOfAnchorsThatAreNotRight(t *testing.T) {
	good := plainStep()
	for name, h := range wrongHeaders() {
		for _, next := range []string{h.Next, impl.ValsHash(good.a.Next)} {
			s := good
			s.a.Head = h
			s.a.Head.Next = next
			if wantHeaderOk(s.a.Head) {
				continue
			}
			checkStep(t, name, s, 1)
			s.h.Last, s.h.Vals, s.h.Height, s.h.Time = shortOf(wantHeaderText(s.a.Head)), s.a.Head.Next, 8, 2010
			checkStep(t, name+", and what would hang on it", s.signedByAll(), 1)
		}
	}
	for name, l := range wrongVals() {
		for _, hash := range []string{shortOf(wouldShow(l)), shortOf(""), ""} {
			s := good
			s.a.Next, s.a.Head.Next = l, hash
			s.h.Vals, s.h.Last = hash, shortOf(wantHeaderText(s.a.Head))
			checkStep(t, name, s.signedByAll(), 1)
		}
	}
	zero := good
	zero.a = impl.Anchor{}
	checkStep(t, "the zero anchor", zero, 1)
	checkStep(t, "nothing at all", step{}, 1)
}

func TestVerifyOfHeadersThatAreNotRight(t *testing.T) {
	good := plainStep()
	for name, h := range wrongHeaders() {
		s := good
		s.h = h
		checkStep(t, name, s, 1)
		for _, bend := range []func(h *impl.Header){
			func(h *impl.Header) { h.Height, h.Last = good.h.Height, good.h.Last },
			func(h *impl.Header) { h.Time, h.Last = good.h.Time, good.h.Last },
			func(h *impl.Header) { h.Vals, h.Time, h.Height = good.h.Vals, good.h.Time, good.h.Height },
			func(h *impl.Header) { h.Next, h.Time, h.Height = good.h.Next, good.h.Time, good.h.Height },
		} {
			s.h = h
			bend(&s.h)
			s = s.signedByAll()
			if wantHeaderOk(s.h) {
				checkStep(t, name+", mended", s, wantCode(s))
			} else {
				checkStep(t, name+", near to good", s, 1)
			}
		}
	}
}

func TestVerifyOfNowsThatAreNoTimes(t *testing.T) {
	for _, now := range append(wrongTimes(), edgeNumbers()...) {
		if wantTime(now) {
			continue
		}
		for _, good := range append(goodSteps(), plainStep()) {
			s := good
			s.now = now
			checkStep(t, "now "+strconv.Itoa(now), s, 1)
		}
	}
	// At 0 the anchor is of 0, and what is behind it is ahead by the Slack.
	start := stepBehind(impl.Trust{Period: 1, Slack: 1}, anchorOf(1, 0, valsOf(1), valsOf(1)), 1, valsOf(1)).signed(0, 1)
	start.now = 0
	checkStep(t, "now 0", start, 0)
	start.trust.Slack = 0
	checkStep(t, "now 0, no Slack", start, 3)
	start.now = -1
	checkStep(t, "now -1", start, 1)
	end := stepBehind(impl.Trust{Period: 100000, Slack: 1000}, anchorOf(999999, 999999, valsOf(1), valsOf(1)), 1, valsOf(1)).signed(0, 1)
	checkStep(t, "now MaxTime", end, 0)
	end.now++
	checkStep(t, "now past MaxTime, and not past Expires", end, 1)
}

// Now at each tick around the first and the last one at which a step is taken.
func TestVerifyAtEachNow(t *testing.T) {
	for _, c := range []struct {
		period, slack, time, later int
		first, last                int
	}{
		{50, 3, 2000, 10, 2007, 2050},
		{50, 0, 2000, 10, 2010, 2050},
		{1, 0, 2000, 1, 2001, 2001},
		{10, 0, 2000, 10, 2010, 2010},
		{10, 5, 2000, 15, 2010, 2010},
		{50, 1000, 2000, 10, 1010, 2050},
		{50, 1000, 0, 10, 0, 50},
		{50, 1000, 0, 1000, 0, 50},
		{50, 1000, 0, 1001, 1, 50},
		{1, 1000, 0, 1001, 1, 1},
		{100000, 0, 0, 1, 1, 100000},
		{100000, 1000, 900000, 5, 899005, 1000000},
		{100000, 3, 900001, 5, 900003, 1000000},
		{100000, 3, 999999, 1, 999997, 1000000},
		{1, 0, 999999, 1, 1000000, 1000000},
	} {
		trust := impl.Trust{Period: c.period, Slack: c.slack}
		s := stepBehind(trust, anchorOf(5, c.time, valsOf(3, 1), valsOf(5, 1)), c.later, valsOf(2)).signed(0, 1)
		for _, near := range []int{c.first, c.last, c.time, c.time + c.later, c.time + c.period} {
			for now := near - 3; now <= near+3; now++ {
				s.now = now
				want := 0
				switch {
				case now < 0 || now > 1000000:
					want = 1
				case now > c.last:
					want = 2
				case now < c.first:
					want = 3
				}
				checkStep(t, "now "+strconv.Itoa(now), s, want)
			}
		}
	}
}

// What is ahead of now by the Slack is taken, by one more it is not, and neither once trust is over.
func TestVerifyWithEachSlack(t *testing.T) {
	for slack := range 1001 {
		s := stepBehind(impl.Trust{Period: 2000, Slack: slack}, anchorOf(5, 3000, valsOf(3, 1), valsOf(5, 1)), 1500, valsOf(2)).signed(0, 1)
		s.now = 4500 - slack
		checkStep(t, "by the Slack", s, 0)
		s.now--
		checkStep(t, "by one more", s, 3)
		s.trust.Period = 1499 - slack
		if slack < 1499 && s.trust.Period > 0 {
			s.now = 4500 - slack
			checkStep(t, "trust is over", s, 2)
			s.now--
			checkStep(t, "trust ends there", s, 3)
		}
	}
}

func TestVerifyOfEachHeight(t *testing.T) {
	for _, height := range []int{1, 2, 3, 4, 127, 128, 300, 999998, 999999, 1000000} {
		s := stepBehind(impl.Trust{Period: 50}, anchorOf(height, 500, valsOf(3, 2, 1), valsOf(1, 2, 3)), 5, valsOf(7, 7))
		id := s.h.Last
		for _, other := range append(edgeNumbers(), height-2, height-1, height, height+1, height+2, height+3, 2*height, -height) {
			s.h.Height, s.h.Last = other, id
			if other == 1 {
				s.h.Last = ""
			}
			want := 4
			switch {
			case other < 1 || other > 1000000:
				want = 1
			case other == height+1:
				want = 0
			}
			checkStep(t, "from "+strconv.Itoa(height)+" to "+strconv.Itoa(other), s.signedByAll(), want)
		}
	}
}

func TestVerifyOfEachTime(t *testing.T) {
	for _, time := range []int{0, 1, 2, 100, 999999, 1000000} {
		s := stepBehind(impl.Trust{Period: 100000, Slack: 1000}, anchorOf(6, time, valsOf(3, 2, 1), valsOf(1, 2, 3)), 1, valsOf(7, 7))
		for _, other := range append(edgeNumbers(), time-2, time-1, time, time+1, time+2, time+1000, time+1001) {
			s.h.Time, s.now = other, time
			want := 0
			switch {
			case other < 0 || other > 1000000:
				want = 1
			case other > time+1000:
				want = 3
			case other <= time:
				want = 5
			}
			checkStep(t, "from "+strconv.Itoa(time)+" to "+strconv.Itoa(other), s.signedByAll(), want)
		}
	}
}

// A Last is the name of the anchor's header, and of none that is like it but for one field.
func TestVerifyOfEachLast(t *testing.T) {
	for _, good := range append(goodSteps(), plainStep()) {
		id := impl.HeadId(good.a.Head)
		lasts := []string{impl.Short(""), impl.Short("q"), strings.Repeat("\x00", 8), strings.Repeat("\xff", 8), good.h.Vals, good.h.Next, good.a.Head.Vals, impl.HeadId(good.h), id[1:] + id[:1], impl.Sha(impl.ShowHeader(good.a.Head))[8:16]}
		for _, bend := range []func(h *impl.Header){
			func(h *impl.Header) { h.Time++ },
			func(h *impl.Header) { h.Data += "!" },
			func(h *impl.Header) { h.Height++ },
			func(h *impl.Header) { h.Next = h.Vals },
			func(h *impl.Header) { h.Vals = impl.Short("q") },
		} {
			other := good.a.Head
			bend(&other)
			lasts = append(lasts, shortOf(wantHeaderText(other)))
		}
		if good.a.Head.Last != "" {
			lasts = append(lasts, good.a.Head.Last)
		}
		for at := range id {
			lasts = append(lasts, turnedAt(id, at, 4))
		}
		for _, last := range lasts {
			s := good
			s.h.Last = last
			want := 6
			if last == id {
				want = 0
			}
			checkStep(t, "Last "+impl.Hex(last), s.signedByAll(), want)
		}
		for _, last := range []string{"", id[:7], id + "\x00", impl.Hex(id)} {
			s := good
			s.h.Last = last
			checkStep(t, "Last "+impl.Hex(last), s.signedByAll(), 1)
		}
	}
}

// Each row of validators in the place of each other one, as what the header tells and as what is handed in.
func TestVerifyOfEachNext(t *testing.T) {
	rows := rightVals()
	for i, told := range rows {
		good := stepBehind(impl.Trust{Period: 50}, anchorOf(6, 10*i, valsOf(3, 2, 1), valsOf(4, 2, 1)), 5, told).signed(i, 1, 2)
		for _, next := range rows {
			s := good
			s.next = next
			want := 8
			if slices.Equal(told, next) {
				want = 0
			}
			checkStep(t, "another row", s, want)
		}
		for name, next := range wrongVals() {
			s := good
			s.next = next
			checkStep(t, name, s, 8)
			s.h.Next = shortOf(wouldShow(next))
			checkStep(t, name+", and it tells as much", s.signed(i, 1, 2), 8)
		}
		for place := range told {
			for _, change := range []impl.Val{{Power: 1}, {Power: -1}, {Id: 1}, {Id: -1}} {
				s := good
				s.next = slices.Clone(told)
				s.next[place].Id += change.Id
				s.next[place].Power += change.Power
				checkStep(t, "one that is another", s, 8)
			}
		}
	}
}

// Lists of any length are answered, and an anchor with one is handed back as it is.
func TestVerifyOfLongLists(t *testing.T) {
	long := slices.Repeat(pairsOf(1, 1, 2, 2, 3, 3), 30000)
	s := plainStep()
	s.next = long
	checkStep(t, "a long next", s, 8)
	s = plainStep()
	s.a.Next = long
	checkStep(t, "a long Next", s, 1)
	s = plainStep()
	s.c.Sigs = slices.Repeat(s.c.Sigs, 30000)
	checkStep(t, "long Sigs", s, 9)
	s = plainStep()
	s.h.Data = strings.Repeat("d", 1<<20)
	checkStep(t, "a long Data", s, 1)
	s = plainStep()
	s.a.Head.Data = strings.Repeat("d", 1<<20)
	checkStep(t, "an anchor's long Data", s, 1)
}

// steps are good ones and one or several of each bend.
func steps() []step {
	l := append(goodSteps(), plainStep())
	good := goodSteps()
	for i, b := range allBends() {
		l = append(l, bent(plainStep(), b), bent(good[i%len(good)], b))
	}
	for name, vals := range wrongVals() {
		s := plainStep()
		s.a.Next, s.next = vals, vals
		s.h.Data = name[:min(len(name), 20)]
		l = append(l, s)
	}
	return l
}

func TestVerifyWritesIntoNoArgument(t *testing.T) {
	for _, given := range steps() {
		s := given
		var anchors, nexts []impl.Val
		var sigs []impl.CSig
		s.a.Next, anchors = roomyVals(given.a.Next)
		s.next, nexts = roomyVals(given.next)
		s.c.Sigs, sigs = roomySigs(given.c.Sigs)
		wantAnchors, wantNexts, wantSigs := slices.Clone(anchors), slices.Clone(nexts), slices.Clone(sigs)
		impl.AnchorOk(s.a)
		s.verify()
		if !slices.Equal(anchors, wantAnchors) || !slices.Equal(nexts, wantNexts) || !slices.Equal(sigs, wantSigs) {
			t.Errorf("an argument was written into: %s is now %s, %s, %s", inShort(given), inShort(anchors), inShort(nexts), inShort(sigs))
		}
	}
}

// What was answered is written over, and so is what it was given: neither changes with the other, nor with another answer.
func TestVerifyOwnsItsMemory(t *testing.T) {
	for _, given := range steps() {
		s := given
		var anchors, nexts []impl.Val
		s.a.Next, anchors = roomyVals(given.a.Next)
		s.next, nexts = roomyVals(given.next)
		wantAnchors, wantNexts := slices.Clone(anchors), slices.Clone(nexts)
		kept, code := s.verify()
		want := impl.Anchor{Head: s.a.Head, Next: given.a.Next}
		if code == 0 {
			want = impl.Anchor{Head: s.h, Next: given.next}
		}
		over, _ := s.verify()
		writeOver(over.Next)
		if !slices.Equal(anchors, wantAnchors) || !slices.Equal(nexts, wantNexts) {
			t.Errorf("an argument changed with the answer of %#v", given)
		}
		again, _ := s.verify()
		writeOver(anchors)
		writeOver(nexts)
		if !sameAnchor(kept, want) || !sameAnchor(again, want) {
			t.Errorf("an answer changed, to %#v and %#v, want %#v", kept, again, want)
		}
		for _, part := range []string{kept.Head.Last, kept.Head.Vals, kept.Head.Next, kept.Head.Data} {
			for _, all := range []string{s.a.Head.Last, s.a.Head.Vals, s.a.Head.Next, s.a.Head.Data, s.h.Last, s.h.Vals, s.h.Next, s.h.Data, s.c.Id} {
				if sharesMemory(part, all) {
					t.Errorf("%q of the answer shares memory with %q", part, all)
				}
			}
		}
	}
}

// One list as the anchor's Next and as next: the answer is neither.
func TestVerifyOfOneListTwice(t *testing.T) {
	l := valsOf(4, 3, 2)
	s := stepBehind(impl.Trust{Period: 50}, anchorOf(6, 10, l, l), 5, l).signed(0, 1, 2, 9)
	s.a.Next, s.next = l, l
	got, code := s.verify()
	writeOver(got.Next)
	if code != 0 || !slices.Equal(l, valsOf(4, 3, 2)) {
		t.Errorf("the code is %d, and the list %v", code, l)
	}
}

func TestVerifyFromManyAtOnce(t *testing.T) {
	l := steps()
	want := make([]int, len(l))
	for i, s := range l {
		want[i] = wantCode(s)
	}
	var wait sync.WaitGroup
	for range 8 {
		wait.Go(func() {
			for i, s := range l {
				if got, code := s.verify(); code != want[i] || code != 0 && !sameAnchor(got, s.a) {
					t.Errorf("%#v was answered otherwise, with %d", s, code)
				}
				if impl.AnchorOk(s.a) != wantAnchorOk(s.a) {
					t.Errorf("%#v was answered otherwise", s.a)
				}
			}
		})
	}
	wait.Wait()
}
