package tests

import (
	"fmt"
	"math"
	"slices"
	"strconv"
	"strings"
	"sync"
	"testing"

	"loop.example/g00946/impl"
)

// P14: SIGNED ONCE: a Signer that came about by these calls lets out no two votes of one height, round and step for two blocks, however often it falls.

// guardFor is the guard of who signed that vote last.
func guardFor(v impl.Vote) impl.Guard {
	return impl.Guard{Height: v.Height, Round: v.Round, Step: v.Step, Id: v.Id}
}

// said is a vote of validator 7 by four characters: its height, its round, its step, and the block (- for none).
func said(word string) impl.Vote {
	v := impl.Vote{Height: int(word[0] - '0'), Round: int(word[1] - '0'), Step: int(word[2] - '0'), Val: 7}
	if block := word[3:]; block != "-" {
		v.Id = shortOf(block)
	}
	return v
}

func saidAll(line string) []impl.Vote {
	var l []impl.Vote
	for _, word := range strings.Fields(line) {
		l = append(l, said(word))
	}
	return l
}

// signerAct is one call: "ask" with a vote, "sync" or "fall".
type signerAct struct {
	what string
	vote impl.Vote
}

// actsOf are the calls of a line of words: "sync", "fall", or what is asked for.
func actsOf(line string) []signerAct {
	var l []signerAct
	for _, word := range strings.Fields(line) {
		switch word {
		case "sync", "fall":
			l = append(l, signerAct{what: word})
		default:
			l = append(l, signerAct{what: "ask", vote: said(word)})
		}
	}
	return l
}

// wantGuardOk goes by the words of the document: all zero, or the four fields of a right vote.
func wantGuardOk(g impl.Guard) bool {
	return g == impl.Guard{} || wantVoteOk(impl.Vote{Height: g.Height, Round: g.Round, Step: g.Step, Id: g.Id, Val: 50})
}

// wantSignerOk goes by the words of the document, one at a time.
func wantSignerOk(s impl.Signer) bool {
	if s.Val < 1 || s.Val > 99 || !wantGuardOk(s.Disk) || !wantGuardOk(s.Mem) {
		return false
	}
	if !s.Pend && s.Disk != s.Mem {
		return false
	}
	if s.Pend && s.Mem == (impl.Guard{}) {
		return false
	}
	if len(s.Out) > 60 {
		return false
	}
	for _, v := range s.Out {
		if !wantVoteOk(v) || v.Val != s.Val {
			return false
		}
	}
	return true
}

// wantMay compares the numbers one at a time: the first that differs counts.
func wantMay(g impl.Guard, v impl.Vote) string {
	if !wantGuardOk(g) || !wantVoteOk(v) {
		return "old"
	}
	for _, pair := range [][2]int{{v.Height, g.Height}, {v.Round, g.Round}, {v.Step, g.Step}} {
		if pair[0] > pair[1] {
			return "ok"
		}
		if pair[0] < pair[1] {
			return "old"
		}
	}
	if v.Id == g.Id {
		return "same"
	}
	return "clash"
}

// wantAsked is what SignAsk makes of a right signer.
func wantAsked(s impl.Signer, v impl.Vote) (impl.Signer, string) {
	if s.Pend || v.Val != s.Val {
		return s, "old"
	}
	code := wantMay(s.Mem, v)
	if code == "ok" {
		s.Mem, s.Pend = guardFor(v), true
		return s, "ok"
	}
	if len(s.Out) == 60 {
		return s, "old"
	}
	if code == "same" {
		s.Out = append(slices.Clone(s.Out), v)
	}
	return s, code
}

// wantAct is what a call answers by the words of the document.
func wantAct(s impl.Signer, a signerAct) (impl.Signer, string) {
	refused := map[string]string{"ask": "old", "sync": "false", "fall": "false"}
	if !wantSignerOk(s) {
		return impl.Signer{}, refused[a.what]
	}
	switch a.what {
	case "ask":
		return wantAsked(s, a.vote)
	case "sync":
		if !s.Pend {
			return s, "false"
		}
		if len(s.Out) < 60 {
			s.Out = append(slices.Clone(s.Out), impl.Vote{Height: s.Mem.Height, Round: s.Mem.Round, Step: s.Mem.Step, Id: s.Mem.Id, Val: s.Val})
		}
		s.Disk, s.Pend = s.Mem, false
		return s, "true"
	}
	s.Mem, s.Pend = s.Disk, false
	return s, "true"
}

// codeName is the name of a code in these tests.
func codeName(code int) string {
	return map[int]string{impl.GdOk: "ok", impl.GdSame: "same", impl.GdOld: "old", impl.GdClash: "clash"}[code]
}

func doAct(s impl.Signer, a signerAct) (impl.Signer, string) {
	switch a.what {
	case "ask":
		got, code := impl.SignAsk(s, a.vote)
		return got, codeName(code)
	case "sync":
		got, ok := impl.SignSync(s)
		return got, strconv.FormatBool(ok)
	}
	got, ok := impl.SignFall(s)
	return got, strconv.FormatBool(ok)
}

func sameSigner(a impl.Signer, b impl.Signer) bool {
	return a.Val == b.Val && a.Disk == b.Disk && a.Mem == b.Mem && a.Pend == b.Pend && slices.Equal(a.Out, b.Out)
}

// checkAct makes the call, and holds what it answers against what is wanted.
func checkAct(t *testing.T, name string, s impl.Signer, a signerAct, want impl.Signer, wantCode string) impl.Signer {
	t.Helper()
	got, code := doAct(s, a)
	if !sameSigner(got, want) || code != wantCode {
		t.Errorf("%s: %v of %s is %s and %s, want %s and %s", name, a, inShort(s), inShort(got), code, inShort(want), wantCode)
	}
	return got
}

// checkByWords holds each call with a signer against the words of the document.
func checkByWords(t *testing.T, name string, s impl.Signer, a signerAct) (impl.Signer, string) {
	t.Helper()
	want, code := wantAct(s, a)
	return checkAct(t, name, s, a, want, code), code
}

// checkRefused is for signers that are not right: of them nothing is answered, whatever is done.
func checkRefused(t *testing.T, name string, s impl.Signer, asked ...impl.Vote) {
	t.Helper()
	if wantSignerOk(s) {
		t.Fatalf("%s: %s is right", name, inShort(s))
	}
	if impl.SignerOk(s) {
		t.Errorf("%s: SignerOk(%s) is true", name, inShort(s))
	}
	checkAct(t, name, s, signerAct{what: "sync"}, impl.Signer{}, "false")
	checkAct(t, name, s, signerAct{what: "fall"}, impl.Signer{}, "false")
	for _, v := range append(asked, impl.Vote{}, said("111x"), said("992x"), said("999x"), said("101-")) {
		checkAct(t, name, s, signerAct{what: "ask", vote: v}, impl.Signer{}, "old")
	}
}

func TestGuardNumbers(t *testing.T) {
	if impl.GdOk != 0 || impl.GdSame != 1 || impl.GdOld != 2 || impl.GdClash != 3 {
		t.Errorf("GdOk is %d, GdSame is %d, GdOld is %d, GdClash is %d", impl.GdOk, impl.GdSame, impl.GdOld, impl.GdClash)
	}
}

// playByHand is a row of calls, what each answers, and what was let out when all were made.
type playByHand struct {
	acts, codes, out string
}

func playsByHand() []playByHand {
	return []playByHand{
		{"", "", ""},
		{"sync", "false", ""},
		{"fall", "true", ""},
		{"101x", "ok", ""},
		{"101x sync", "ok true", "101x"},
		{"101- sync", "ok true", "101-"},
		// While one is pending none is taken, not even the same once more.
		{"101x 101x 101y 102x 201x sync", "ok old old old old true", "101x"},
		{"101x sync sync fall sync", "ok true false true false", "101x"},
		// A fall between the ask and the disk: nothing was let out, and another block may be asked for.
		{"101x fall sync", "ok true false", ""},
		{"101x fall 101y sync", "ok true ok true", "101y"},
		{"101x fall 101- sync 101x", "ok true ok true clash", "101-"},
		{"101x fall 101x fall 101z fall 101y sync 101x 101y", "ok true ok true ok true ok true clash same", "101y 101y"},
		{"992x fall 101y sync", "ok true ok true", "101y"},
		// A fall behind the disk: what was let out stays signed.
		{"101x sync fall 101y sync", "ok true true clash false", "101x"},
		{"101x sync fall 101- 101x 101x", "ok true true clash same same", "101x 101x 101x"},
		{"101- sync fall fall 101x 101- fall 101x", "ok true true true clash same true clash", "101- 101-"},
		{"101x fall 101x sync fall 101y 101x", "ok true ok true true clash same", "101x 101x"},
		// Behind a fall the last one that was on disk counts, and not the one that was in mind.
		{"101x sync 201x fall 101y 101x 102y sync", "ok true ok true clash same ok true", "101x 101x 102y"},
		{"101x sync 102x fall 102y sync fall 102x 102y 101x", "ok true ok true ok true true clash same old", "101x 102y 102y"},
		// Above: Height ahead of Round, Round ahead of Step.
		{"101x sync 102x sync 111x sync 201x sync", "ok true ok true ok true ok true", "101x 102x 111x 201x"},
		{"222x sync 222x 221x 212x 122x 199x 229x", "ok true same old old old old old", "222x 222x"},
		{"212x sync 192x 211x 202x 221x fall 301x sync 292x", "ok true old old old ok true ok true old", "212x 301x"},
		{"101x sync 101y 101- 102y sync 101x 101y 102y 102-", "ok true clash clash ok true old old same clash", "101x 102y 102y"},
		// What no vote may be is not asked for.
		{"100x 103x 001x 103-", "old old old old", ""},
	}
}

func TestSignersByHand(t *testing.T) {
	for _, c := range playsByHand() {
		s := impl.Signer{Val: 7}
		var codes []string
		for _, a := range actsOf(c.acts) {
			next, code := doAct(s, a)
			s, codes = next, append(codes, code)
		}
		if got := strings.Join(codes, " "); got != c.codes {
			t.Errorf("%q answers %q, want %q", c.acts, got, c.codes)
		}
		if !slices.Equal(s.Out, saidAll(c.out)) || s.Val != 7 || !impl.SignerOk(s) {
			t.Errorf("%q leads to %s, want Out %q", c.acts, inShort(s), c.out)
		}
	}
}

// Every field of the signer behind each of a few calls.
func TestSignerFieldsByHand(t *testing.T) {
	first, second := said("101x"), said("212-")
	a, b := impl.Guard{Height: 1, Round: 0, Step: 1, Id: first.Id}, impl.Guard{Height: 2, Round: 1, Step: 2}
	s := impl.Signer{Val: 7}
	s = checkAct(t, "asked", s, signerAct{"ask", first}, impl.Signer{Val: 7, Mem: a, Pend: true}, "ok")
	checkAct(t, "asked, then a fall", s, signerAct{what: "fall"}, impl.Signer{Val: 7}, "true")
	s = checkAct(t, "synced", s, signerAct{what: "sync"}, impl.Signer{Val: 7, Disk: a, Mem: a, Out: []impl.Vote{first}}, "true")
	checkAct(t, "synced, then a fall", s, signerAct{what: "fall"}, impl.Signer{Val: 7, Disk: a, Mem: a, Out: []impl.Vote{first}}, "true")
	checkAct(t, "once more", s, signerAct{"ask", first}, impl.Signer{Val: 7, Disk: a, Mem: a, Out: []impl.Vote{first, first}}, "same")
	s = checkAct(t, "asked again", s, signerAct{"ask", second}, impl.Signer{Val: 7, Disk: a, Mem: b, Pend: true, Out: []impl.Vote{first}}, "ok")
	checkAct(t, "asked again, then a fall", s, signerAct{what: "fall"}, impl.Signer{Val: 7, Disk: a, Mem: a, Out: []impl.Vote{first}}, "true")
	checkAct(t, "synced again", s, signerAct{what: "sync"}, impl.Signer{Val: 7, Disk: b, Mem: b, Out: []impl.Vote{first, second}}, "true")
}

// outPlace is where one vote may be let out, of one signer.
type outPlace struct{ height, round, step int }

// checkOnce holds that no two votes were let out at one place for two blocks.
func checkOnce(t *testing.T, name string, s impl.Signer) {
	t.Helper()
	blocks := map[outPlace]string{}
	for _, v := range s.Out {
		at := outPlace{v.Height, v.Round, v.Step}
		if id, there := blocks[at]; there && id != v.Id {
			t.Fatalf("%s: two blocks at %v: %s", name, at, inShort(s.Out))
		}
		blocks[at] = v.Id
	}
}

// checkNext holds what came of one call against the signer ahead of it: it is right, and what was let out stays there.
func checkNext(t *testing.T, name string, s impl.Signer, next impl.Signer) {
	t.Helper()
	if !impl.SignerOk(next) || next.Val != s.Val {
		t.Fatalf("%s: %s leads to %s", name, inShort(s), inShort(next))
	}
	if len(next.Out) < len(s.Out) || len(next.Out) > len(s.Out)+1 || !slices.Equal(next.Out[:len(s.Out)], s.Out) {
		t.Fatalf("%s: Out was %s and is %s", name, inShort(s.Out), inShort(next.Out))
	}
	checkOnce(t, name, next)
}

// atGuard is a vote at the place of a guard.
func atGuard(g impl.Guard, val int, id string) signerAct {
	return signerAct{"ask", impl.Vote{Height: g.Height, Round: g.Round, Step: g.Step, Id: id, Val: val}}
}

// checkFalls lets a signer that came about by these calls fall, with what is pending on disk and without.
func checkFalls(t *testing.T, name string, s impl.Signer) {
	t.Helper()
	fallen, ok := impl.SignFall(s)
	if !ok || !slices.Equal(fallen.Out, s.Out) || fallen.Disk != s.Disk || fallen.Mem != s.Disk || fallen.Pend {
		t.Fatalf("%s: %s falls to %s", name, inShort(s), inShort(fallen))
	}
	if !s.Pend {
		return
	}
	for _, id := range []string{"", s.Mem.Id, "otherone"} {
		again, code := doAct(fallen, atGuard(s.Mem, s.Val, id))
		if code != "ok" || !slices.Equal(again.Out, s.Out) {
			t.Fatalf("%s: %s fell, and is asked for %q: %s and %s", name, inShort(s), id, inShort(again), code)
		}
	}
	synced, _ := impl.SignSync(s)
	fallen, _ = impl.SignFall(synced)
	if !sameSigner(fallen, synced) || synced.Disk != s.Mem {
		t.Fatalf("%s: %s was synced to %s and falls to %s", name, inShort(s), inShort(synced), inShort(fallen))
	}
	if len(synced.Out) == 60 {
		return
	}
	for _, id := range []string{"", s.Mem.Id, "otherone"} {
		want, more := "clash", 0
		if id == s.Mem.Id {
			want, more = "same", 1
		}
		again, code := doAct(fallen, atGuard(s.Mem, s.Val, id))
		if code != want || len(again.Out) != len(synced.Out)+more || again.Pend {
			t.Fatalf("%s: %s is asked for %q: %s and %s", name, inShort(fallen), id, inShort(again), code)
		}
	}
}

// walkRows makes all rows of at most depth of these calls, and tells how many signers it came by.
func walkRows(t *testing.T, s impl.Signer, acts []signerAct, depth int) int {
	t.Helper()
	if depth == 0 {
		return 1
	}
	met := 1
	for _, a := range acts {
		next, _ := checkByWords(t, "a short row", s, a)
		checkNext(t, "a short row", s, next)
		checkFalls(t, "a short row", next)
		if t.Failed() {
			return met
		}
		met += walkRows(t, next, acts, depth-1)
	}
	return met
}

func TestSignedOnceInAllShortRows(t *testing.T) {
	for line, depth := range map[string]int{
		"101x 101y sync fall":                7,
		"101x 101y 101- sync fall":           6,
		"101x 101y 102x 102- sync fall":      5,
		"101x 101y 201x 201y 111- sync fall": 5,
		"101x 101y 101- 102x 102y 102- 111x 111y 111- 112x 112y 112- 201x 201y 201- 202x 202y 202- 211x 211- 212y 212- sync fall": 3,
	} {
		acts := actsOf(line)
		want, rows := 1, 1
		for range depth {
			rows *= len(acts)
			want += rows
		}
		if met := walkRows(t, impl.Signer{Val: 7}, acts, depth); met != want {
			t.Errorf("%q: only %d of %d signers were met", line, met, want)
		}
	}
}

// mixedAct is one call by three bytes: mostly asks near the place that is reached, some of another's votes or of such as are not right.
func mixedAct(s impl.Signer, mixed string) signerAct {
	switch {
	case mixed[0] < 80:
		return signerAct{what: "sync"}
	case mixed[0] < 110:
		return signerAct{what: "fall"}
	}
	v := impl.Vote{Height: max(1, s.Mem.Height), Round: s.Mem.Round, Step: 1 + int(mixed[1]>>7), Val: s.Val}
	switch mixed[1] & 15 {
	case 0:
		v.Height++
	case 1, 2:
		v.Round++
	case 3:
		v.Height--
	case 4:
		v.Round--
	case 5:
		v.Val = v.Val%99 + 1
	case 6:
		v.Step += 2
	case 7:
		v.Height, v.Round = v.Height+1, 0
	}
	v.Id = []string{"", "abcdefgh", "ABCDEFGH", s.Mem.Id, s.Mem.Id, s.Disk.Id, "abcdefg", "12345678"}[mixed[2]>>5]
	return signerAct{"ask", v}
}

func TestSignedOnceInLongRows(t *testing.T) {
	met := map[string]int{}
	for start := range 300 {
		mixed := mixedBytes(uint32(start)*2654435761, 3*500)
		s := impl.Signer{Val: 1 + start%99}
		for i := range 500 {
			a := mixedAct(s, mixed[3*i:])
			next, code := checkByWords(t, "a long row", s, a)
			checkNext(t, "a long row", s, next)
			checkFalls(t, "a long row", next)
			if t.Failed() {
				return
			}
			met[fmt.Sprint(a.what, " ", code, ", full ", len(s.Out) == 60)]++
			s = next
		}
	}
	for _, full := range []string{"false", "true"} {
		for _, what := range []string{"ask ok", "ask old", "sync true", "sync false", "fall true"} {
			if met[what+", full "+full] < 100 {
				t.Errorf("%s, full %s: met %d times, too few to tell", what, full, met[what+", full "+full])
			}
		}
	}
	if met["ask same, full false"] < 200 || met["ask clash, full false"] < 200 {
		t.Errorf("too few to tell: %v", met)
	}
}

// What fell is asked for again and again, for one block and then for the other: only what was synced is let out.
func TestSignedOnceBehindManyFalls(t *testing.T) {
	for _, syncAt := range []int{0, 1, 2, 3, 7, 8, 50} {
		s := impl.Signer{Val: 7}
		blocks := []string{"101x", "101y", "101-"}
		want := said(blocks[syncAt%3])
		for i := range 60 {
			v := said(blocks[i%3])
			next, code := impl.SignAsk(s, v)
			switch {
			case i <= syncAt && code != impl.GdOk, i > syncAt && v == want && code != impl.GdSame, i > syncAt && v != want && code != impl.GdClash:
				t.Fatalf("synced at %d: asked at %d for %v the code is %d", syncAt, i, v, code)
			}
			s = next
			if i == syncAt {
				s, _ = impl.SignSync(s)
			}
			s, _ = impl.SignFall(s)
			if i < syncAt && len(s.Out) != 0 {
				t.Fatalf("synced at %d: at %d already %s", syncAt, i, inShort(s.Out))
			}
		}
		if len(s.Out) == 0 || slices.ContainsFunc(s.Out, func(v impl.Vote) bool { return v != want }) {
			t.Errorf("synced at %d: Out is %s", syncAt, inShort(s.Out))
		}
	}
}

func checkGuardOk(t *testing.T, name string, g impl.Guard) {
	t.Helper()
	if got := impl.GuardOk(g); got != wantGuardOk(g) {
		t.Errorf("%s: GuardOk(%#v) is %v", name, g, got)
	}
}

func TestGuardsThatAreRight(t *testing.T) {
	if !impl.GuardOk(impl.Guard{}) {
		t.Error("GuardOk of the zero one is false")
	}
	for _, v := range rightVotes() {
		if !impl.GuardOk(guardFor(v)) {
			t.Errorf("GuardOk(%#v) is false", guardFor(v))
		}
	}
}

// wrongGuards are guards that are not right, by what is wrong with them.
func wrongGuards() map[string]impl.Guard {
	wrong := map[string]impl.Guard{}
	for name, v := range wrongVotes() {
		// Whose vote it is no guard tells.
		v.Val = 1
		if g := guardFor(v); !wantVoteOk(v) && g != (impl.Guard{}) {
			wrong[name] = g
		}
	}
	return wrong
}

func TestGuardsThatAreNotRight(t *testing.T) {
	for name, g := range wrongGuards() {
		if wantGuardOk(g) || impl.GuardOk(g) {
			t.Errorf("%s: GuardOk(%#v) is %v", name, g, impl.GuardOk(g))
		}
	}
	if len(wrongGuards()) < 100 {
		t.Error("too few to tell")
	}
}

// Each of the four fields is set or zero: right are all zero, and such as have both a Height and a Step.
func TestGuardsThatAreZeroInPart(t *testing.T) {
	for set := range 16 {
		g := impl.Guard{}
		if set&1 != 0 {
			g.Height = 5
		}
		if set&2 != 0 {
			g.Round = 2
		}
		if set&4 != 0 {
			g.Step = 2
		}
		if set&8 != 0 {
			g.Id = "abcdefgh"
		}
		if got, want := impl.GuardOk(g), set == 0 || set&1 != 0 && set&4 != 0; got != want {
			t.Errorf("GuardOk(%#v) is %v", g, got)
		}
	}
}

// Each number of a guard around its limits, with all others right and with all others zero; and Ids of every size.
func TestGuardsOfEachNumber(t *testing.T) {
	numbers := slices.Concat(edgeNumbers(), []int{-1000, 98, 100, 999, 1000, 1001, 1002, 257, 258})
	for n := -300; n <= 300; n++ {
		numbers = append(numbers, n)
	}
	for _, base := range []impl.Guard{guardFor(blockVote()), guardFor(nothingVote()), {Height: 1, Step: 1}, {Height: 1000000, Round: 1000, Step: 2, Id: "abcdefgh"}, {}} {
		for _, n := range numbers {
			height, round, step := base, base, base
			height.Height, round.Round, step.Step = n, n, n
			checkGuardOk(t, "Height", height)
			checkGuardOk(t, "Round", round)
			checkGuardOk(t, "Step", step)
		}
		for size := range 300 {
			named := base
			named.Id = strings.Repeat("\x00", size)
			checkGuardOk(t, "Id", named)
			named.Id = bytesFrom(byte(size), size)
			checkGuardOk(t, "Id", named)
		}
	}
}

// signedUpTo is a signer with a vote on disk, and as many of them let out.
func signedUpTo(v impl.Vote, outs int) impl.Signer {
	return impl.Signer{Val: v.Val, Disk: guardFor(v), Mem: guardFor(v), Out: slices.Repeat([]impl.Vote{v}, outs)}
}

// pendingAt is a signer with one vote on disk and another one in mind.
func pendingAt(disk impl.Vote, mem impl.Vote, outs int) impl.Signer {
	s := signedUpTo(disk, outs)
	s.Mem, s.Pend = guardFor(mem), true
	return s
}

// rightSigners are signers of every kind, also such as come about by no call.
func rightSigners() map[string]impl.Signer {
	right := map[string]impl.Signer{}
	for _, val := range []int{1, 2, 50, 98, 99} {
		right["Val "+strconv.Itoa(val)+" alone"] = impl.Signer{Val: val}
		for _, outs := range []int{0, 1, 2, 58, 59, 60} {
			low := impl.Vote{Height: 1, Step: 1, Val: val}
			high := impl.Vote{Height: 1000000, Round: 1000, Step: 2, Id: "abcdefgh", Val: val}
			name := "Val " + strconv.Itoa(val) + ", " + strconv.Itoa(outs) + " out, "
			right[name+"low"] = signedUpTo(low, outs)
			right[name+"high"] = signedUpTo(high, outs)
			right[name+"low on disk, high in mind"] = pendingAt(low, high, outs)
			right[name+"high on disk, low in mind"] = pendingAt(high, low, outs)
			right[name+"the same on disk and in mind"] = pendingAt(high, high, outs)
			right[name+"another block in mind"] = pendingAt(high, withId(high, "ABCDEFGH"), outs)
			nothing := pendingAt(low, high, outs)
			nothing.Disk = impl.Guard{}
			right[name+"nothing on disk, high in mind"] = nothing
			unlike := signedUpTo(low, outs)
			for i := range unlike.Out {
				unlike.Out[i] = impl.Vote{Height: 1 + i*7%60, Round: i, Step: 1 + i%2, Id: shortOf(strconv.Itoa(i)), Val: val}
			}
			right[name+"unlike ones"] = unlike
			free := unlike
			free.Disk, free.Mem = impl.Guard{}, impl.Guard{}
			right[name+"unlike ones, nothing on disk"] = free
		}
	}
	return right
}

func TestSignersThatAreRight(t *testing.T) {
	for name, s := range rightSigners() {
		if !impl.SignerOk(s) || !wantSignerOk(s) {
			t.Errorf("%s: SignerOk(%s) is %v", name, inShort(s), impl.SignerOk(s))
		}
	}
}

func TestSignersOfEachVal(t *testing.T) {
	if impl.SignerOk(impl.Signer{}) {
		t.Error("SignerOk of the zero one is true")
	}
	for _, n := range append(edgeNumbers(), -99, 50, 98, 100, 101, 257, 355) {
		s := impl.Signer{Val: n}
		v := said("101x")
		v.Val = n
		if n >= 1 && n <= 99 {
			if !impl.SignerOk(s) {
				t.Errorf("SignerOk of Val %d is false", n)
			}
			continue
		}
		name := "Val " + strconv.Itoa(n)
		checkRefused(t, name, s, v)
		checkRefused(t, name+", with a guard", signedUpTo(v, 0), v)
		checkRefused(t, name+", with votes", signedUpTo(v, 3), v)
		checkRefused(t, name+", pending", pendingAt(v, v, 0), v)
	}
}

// A guard that is not right, on disk, in mind, and at both.
func TestSignersWithWrongGuards(t *testing.T) {
	good := said("111x")
	for name, g := range wrongGuards() {
		for _, pend := range []bool{false, true} {
			both := impl.Signer{Val: 7, Disk: g, Mem: g, Pend: pend}
			checkRefused(t, name+", at both", both, good)
			disk, mem := both, both
			disk.Mem, mem.Disk = guardFor(good), guardFor(good)
			checkRefused(t, name+", on disk", disk, good)
			checkRefused(t, name+", in mind", mem, good)
			disk.Mem, mem.Disk = impl.Guard{}, impl.Guard{}
			checkRefused(t, name+", on disk, nothing in mind", disk, good)
			checkRefused(t, name+", in mind, nothing on disk", mem, good)
		}
	}
}

// Disk and Mem are unlike in one field or in several: that is right where it is Pend alone.
func TestSignersWithUnlikeGuards(t *testing.T) {
	base := impl.Guard{Height: 5, Round: 2, Step: 1, Id: "abcdefgh"}
	for set := range 16 {
		other := base
		if set&1 != 0 {
			other.Height++
		}
		if set&2 != 0 {
			other.Round++
		}
		if set&4 != 0 {
			other.Step++
		}
		if set&8 != 0 {
			other.Id = ""
		}
		for _, s := range []impl.Signer{{Val: 7, Disk: base, Mem: other}, {Val: 7, Disk: other, Mem: base}} {
			name := fmt.Sprint("unlike in ", set)
			if set == 0 {
				if !impl.SignerOk(s) {
					t.Errorf("%s: SignerOk(%s) is false", name, inShort(s))
				}
			} else {
				checkRefused(t, name, s, said("513x"), said("612-"))
			}
			s.Pend = true
			if !impl.SignerOk(s) {
				t.Errorf("%s, pending: SignerOk(%s) is false", name, inShort(s))
			}
		}
	}
	for at := range 8 {
		other := base
		other.Id = turnedAt(base.Id, at, 1)
		checkRefused(t, "unlike in a byte", impl.Signer{Val: 7, Disk: base, Mem: other})
	}
	checkRefused(t, "nothing in mind, and not Pend", impl.Signer{Val: 7, Disk: base})
	checkRefused(t, "nothing on disk, and not Pend", impl.Signer{Val: 7, Mem: base})
	checkRefused(t, "nothing in mind, and Pend", impl.Signer{Val: 7, Disk: base, Pend: true})
	checkRefused(t, "nothing at all, and Pend", impl.Signer{Val: 7, Pend: true})
	if !impl.SignerOk(impl.Signer{Val: 7, Mem: base, Pend: true}) {
		t.Error("nothing on disk, and Pend: SignerOk is false")
	}
}

// A vote that may not be there, at each place of Out.
func TestSignersWithWrongVotes(t *testing.T) {
	good := said("111x")
	bad := map[string]impl.Vote{"the zero one": {}, "one without a Height": said("011x"), "one without a Step": said("110x"), "one with Step 3": said("113x"), "an Id of 7": withId(good, "abcdefg"), "an Id of 9": withId(good, "abcdefghi")}
	for _, n := range []int{-7, 0, 6, 8, 99, 100, 263} {
		v := good
		v.Val = n
		bad["one of "+strconv.Itoa(n)] = v
	}
	for name, v := range bad {
		for _, outs := range []int{1, 2, 30, 60} {
			for at := range outs {
				s := signedUpTo(good, outs)
				s.Out[at] = v
				checkRefused(t, fmt.Sprintf("%s at %d of %d", name, at, outs), s, good)
			}
		}
	}
	for name, v := range wrongVotes() {
		s := signedUpTo(impl.Vote{Height: 1, Step: 1, Val: 3}, 2)
		s.Out[1] = v
		checkRefused(t, name, s)
		if v.Val >= 1 && v.Val <= 99 {
			s = impl.Signer{Val: v.Val, Out: []impl.Vote{v}}
			checkRefused(t, name+", of its own Val", s)
		}
	}
}

func TestSignersWithMoreVotesThanMayBe(t *testing.T) {
	good := said("111x")
	for _, outs := range []int{61, 62, 63, 120, 255, 256, 316, 1000, 65536, 1 << 18} {
		s := signedUpTo(good, outs)
		checkRefused(t, strconv.Itoa(outs)+" out", s, good)
		s.Mem, s.Pend = guardFor(said("222x")), true
		checkRefused(t, strconv.Itoa(outs)+" out, and Pend", s, good)
	}
}

func checkMay(t *testing.T, name string, g impl.Guard, v impl.Vote, want string) {
	t.Helper()
	if got := impl.MaySign(g, v); codeName(got) != want {
		t.Errorf("%s: MaySign(%#v, %#v) is %d, want %s", name, g, v, got, want)
	}
	if byWords := wantMay(g, v); byWords != want {
		t.Fatalf("%s: by the document's words it is %s, want %s", name, byWords, want)
	}
}

// Height, Round and Step each below, the same and above, in all ways beside each other, with the same block, others and none.
func TestMaySignOfEachOrder(t *testing.T) {
	places := 0
	for _, from := range [][3]int{{2, 1, 1}, {2, 1, 2}, {1, 1, 1}, {999999, 999, 1}, {128, 127, 2}, {1000000, 1000, 2}} {
		for way := range 27 {
			turn := []int{way/9 - 1, way/3%3 - 1, way%3 - 1}
			to := [3]int{from[0] + turn[0], from[1] + turn[1], from[2] + turn[2]}
			want := "level"
			for _, by := range turn {
				if by != 0 {
					want = map[int]string{1: "ok", -1: "old"}[by]
					break
				}
			}
			for _, ids := range [][2]string{{"abcdefgh", "abcdefgh"}, {"abcdefgh", "ABCDEFGH"}, {"ABCDEFGH", "abcdefgh"}, {"abcdefgh", "abcdefgi"}, {"abcdefgh", "bbcdefgh"}, {"", ""}, {"", "abcdefgh"}, {"abcdefgh", ""}, {"\x00\x00\x00\x00\x00\x00\x00\x00", ""}} {
				g := impl.Guard{Height: from[0], Round: from[1], Step: from[2], Id: ids[0]}
				for _, val := range []int{1, 7, 99} {
					v := impl.Vote{Height: to[0], Round: to[1], Step: to[2], Id: ids[1], Val: val}
					code := want
					switch {
					case !wantVoteOk(v):
						code = "old"
					case want == "level" && ids[0] == ids[1]:
						code = "same"
					case want == "level":
						code = "clash"
					}
					checkMay(t, "in order", g, v, code)
					places++
				}
			}
		}
	}
	if places != 6*27*9*3 {
		t.Errorf("only %d were looked at", places)
	}
}

// The zero guard is below every right vote, and no right vote is the same as it.
func TestMaySignOfTheZeroGuard(t *testing.T) {
	for _, v := range rightVotes() {
		checkMay(t, "the zero guard", impl.Guard{}, v, "ok")
	}
	for name, v := range wrongVotes() {
		checkMay(t, name, impl.Guard{}, v, "old")
	}
	for _, step := range []int{0, 1} {
		for _, height := range []int{0, 1} {
			v := impl.Vote{Height: height, Step: step, Val: 7}
			checkMay(t, "near the zero guard", impl.Guard{}, v, map[bool]string{true: "ok", false: "old"}[height+step == 2])
		}
	}
}

// Where the guard or the vote is not right the code is GdOld, whatever their order.
func TestMaySignOfWhatIsNotRight(t *testing.T) {
	low, high := impl.Vote{Height: 1, Step: 1, Val: 7}, impl.Vote{Height: 1000000, Round: 1000, Step: 2, Id: "abcdefgh", Val: 7}
	for name, g := range wrongGuards() {
		for _, v := range []impl.Vote{low, high, blockVote(), nothingVote(), {}, {Height: g.Height, Round: g.Round, Step: g.Step, Id: g.Id, Val: 7}} {
			checkMay(t, name, g, v, "old")
		}
		for _, v := range someRightVotes()[:20] {
			checkMay(t, name, g, v, "old")
		}
	}
	for name, v := range wrongVotes() {
		for _, g := range []impl.Guard{{}, guardFor(low), guardFor(high), guardFor(v)} {
			checkMay(t, name, g, v, "old")
		}
	}
}

func TestMaySignOfNearVotes(t *testing.T) {
	met := map[string]int{}
	for _, a := range append(someRightVotes(), blockVote(), nothingVote()) {
		for _, b := range append(nearVotes(a), a) {
			want := wantMay(guardFor(a), b)
			checkMay(t, "near", guardFor(a), b, want)
			met[want]++
			back := map[string]string{"ok": "old", "old": "ok", "same": "same", "clash": "clash"}[want]
			checkMay(t, "near, changed about", guardFor(b), a, back)
		}
	}
	for _, code := range []string{"ok", "old", "same", "clash"} {
		if met[code] < 50 {
			t.Errorf("%s was met %d times: too few to tell", code, met[code])
		}
	}
}

// Whose vote it is does not count for MaySign, as long as there can be such a one.
func TestMaySignOfEachVal(t *testing.T) {
	for _, n := range append(edgeNumbers(), 50, 98, 100, 101) {
		for word, code := range map[string]string{"211x": "same", "211y": "clash", "211-": "clash", "212y": "ok", "202x": "old"} {
			v := said(word)
			v.Val = n
			if n < 1 || n > 99 {
				code = "old"
			}
			checkMay(t, "Val "+strconv.Itoa(n), guardFor(said("211x")), v, code)
		}
	}
}

// Each code with room in Out and without; also where a vote is pending, and for the vote of another.
func TestSignAskOfEachCode(t *testing.T) {
	last := said("211x")
	for _, outs := range []int{0, 1, 58, 59, 60} {
		s := signedUpTo(last, outs)
		name := strconv.Itoa(outs) + " out"
		for word, code := range map[string]string{"212x": "ok", "212-": "ok", "221y": "ok", "301-": "ok", "211x": "same", "202x": "old", "201x": "old", "192-": "old", "211y": "clash", "211-": "clash"} {
			a := signerAct{"ask", said(word)}
			want := s
			switch {
			case code == "ok":
				want.Mem, want.Pend = guardFor(a.vote), true
			case outs == 60:
				code = "old"
			case code == "same":
				want.Out = slices.Repeat([]impl.Vote{last}, outs+1)
			}
			checkAct(t, name+", "+word, s, a, want, code)
			another := a
			for _, val := range []int{6, 8, 1, 99, 0, -7, 100, math.MaxInt} {
				another.vote.Val = val
				checkAct(t, name+", "+word+", of another", s, another, s, "old")
			}
			for _, mem := range []string{"211x", "211y", "212x", "992-", "101x"} {
				pending := pendingAt(last, said(mem), outs)
				checkAct(t, name+", "+word+", "+mem+" pending", pending, a, pending, "old")
			}
		}
		for wrong, v := range wrongVotes() {
			checkAct(t, name+", "+wrong, s, signerAct{"ask", v}, s, "old")
			v.Val = 7
			if !wantVoteOk(v) {
				checkAct(t, name+", "+wrong+", of its Val", s, signerAct{"ask", v}, s, "old")
			}
		}
	}
}

// All that can be done with each right signer.
func TestAllOfRightSigners(t *testing.T) {
	met := map[string]int{}
	for name, s := range rightSigners() {
		acts := []signerAct{{what: "sync"}, {what: "fall"}}
		for _, g := range []impl.Guard{s.Disk, s.Mem, {Height: 1, Step: 1}, {Height: 500, Round: 500, Step: 1, Id: "abcdefgh"}} {
			for _, id := range []string{g.Id, "", "otherone", "short"} {
				acts = append(acts, atGuard(g, s.Val, id), atGuard(g, s.Val%99+1, id))
			}
		}
		for _, a := range acts {
			_, code := checkByWords(t, name, s, a)
			met[a.what+" "+code]++
		}
	}
	for _, what := range []string{"ask ok", "ask same", "ask old", "ask clash", "sync true", "sync false", "fall true"} {
		if met[what] < 20 {
			t.Errorf("%s was met %d times: too few to tell", what, met[what])
		}
	}
}

// With 60 votes let out a pending one is still put on disk, and is not let out.
func TestSignSyncWithoutRoom(t *testing.T) {
	disk, mem := said("211x"), said("222-")
	for _, outs := range []int{0, 1, 58, 59, 60} {
		s := pendingAt(disk, mem, outs)
		want := impl.Signer{Val: 7, Disk: guardFor(mem), Mem: guardFor(mem), Out: slices.Clone(s.Out)}
		if outs < 60 {
			want.Out = append(want.Out, mem)
		}
		checkAct(t, strconv.Itoa(outs)+" out", s, signerAct{what: "sync"}, want, "true")
		checkAct(t, strconv.Itoa(outs)+" out, a fall", s, signerAct{what: "fall"}, signedUpTo(disk, outs), "true")
		checkAct(t, strconv.Itoa(outs)+" out, not Pend", signedUpTo(disk, outs), signerAct{what: "sync"}, signedUpTo(disk, outs), "false")
		checkAct(t, strconv.Itoa(outs)+" out, not Pend, a fall", signedUpTo(disk, outs), signerAct{what: "fall"}, signedUpTo(disk, outs), "true")
	}
}

// allActs are calls of every kind for a signer.
func allActs(s impl.Signer) []signerAct {
	above := atGuard(s.Mem, s.Val, "ABCDEFGH")
	above.vote.Height = 1000000
	above.vote.Round, above.vote.Step = 1000, 2
	return []signerAct{{what: "sync"}, {what: "fall"}, atGuard(s.Mem, s.Val, s.Mem.Id), atGuard(s.Mem, s.Val, "otherone"), atGuard(s.Mem, 100, ""), {"ask", impl.Vote{}}, above,
		{"ask", impl.Vote{Height: 7, Step: 1, Id: "abcdefgh", Val: s.Val}}}
}

// roomySigner is a signer with spare room behind its Out, and all of that room.
func roomySigner(s impl.Signer) (impl.Signer, []impl.Vote) {
	all := append(slices.Clone(s.Out), slices.Repeat([]impl.Vote{{Height: 501, Id: "spare", Val: 502}}, 40)...)
	s.Out = all[:len(s.Out)]
	return s, all
}

// What stands in the spare room behind Out is no part of it, and is not written into; nor is Out.
func TestSignersAreNotWrittenInto(t *testing.T) {
	signers := rightSigners()
	signers["not right"] = impl.Signer{Out: slices.Repeat([]impl.Vote{said("111x")}, 3)}
	for name, given := range signers {
		for _, a := range allActs(given) {
			s, all := roomySigner(given)
			want := slices.Clone(all)
			doAct(s, a)
			impl.SignerOk(s)
			if !slices.Equal(all, want) || !sameSigner(s, given) {
				t.Errorf("%s: %v writes into the signer: %s", name, a, inShort(all))
			}
			checkByWords(t, name+", with room behind Out", s, a)
		}
	}
}

// textsOf are all texts of a signer.
func textsOf(s impl.Signer) []string {
	l := []string{s.Disk.Id, s.Mem.Id}
	for _, v := range s.Out {
		l = append(l, v.Id)
	}
	return l
}

// writeOverSigner also writes into the spare room behind Out.
func writeOverSigner(s impl.Signer) {
	all := s.Out[:cap(s.Out)]
	for i := range all {
		all[i] = impl.Vote{Height: -7, Id: "written", Val: -7}
	}
}

// What was answered is written over, and so is what it was given: neither changes with the other, nor with another answer.
func TestSignersOwnTheirMemory(t *testing.T) {
	for name, given := range rightSigners() {
		for _, a := range allActs(given) {
			want, _ := wantAct(given, a)
			s := given
			s.Out = slices.Clone(given.Out)
			kept, _ := doAct(s, a)
			over, _ := doAct(s, a)
			writeOverSigner(over)
			if !sameSigner(s, given) || !sameSigner(kept, want) {
				t.Errorf("%s: %v: what was answered is not its own: %s and %s", name, a, inShort(s), inShort(kept))
			}
			writeOverSigner(s)
			if !sameSigner(kept, want) {
				t.Errorf("%s: %v: the answer changed with its argument, to %s", name, a, inShort(kept))
			}
		}
	}
}

func TestSignersOwnTheirTexts(t *testing.T) {
	for name, s := range rightSigners() {
		if len(s.Out) > 3 {
			continue
		}
		for _, a := range allActs(s) {
			got, _ := doAct(s, a)
			for _, part := range textsOf(got) {
				for _, whole := range append(textsOf(s), a.vote.Id) {
					if sharesMemory(part, whole) {
						t.Errorf("%s: %v: %q of the answer shares memory with what was given", name, a, part)
					}
				}
			}
		}
	}
}

// Two signers that came from one go their own ways.
func TestSignersFromOneAreApart(t *testing.T) {
	for outs := range 59 {
		s := signedUpTo(said("211x"), outs)
		s, _ = impl.SignAsk(s, said("212x"))
		s, _ = impl.SignSync(s)
		one, _ := impl.SignAsk(s, said("221x"))
		two, _ := impl.SignAsk(s, said("221y"))
		one, _ = impl.SignSync(one)
		two, _ = impl.SignSync(two)
		same, _ := impl.SignAsk(s, said("212x"))
		ahead := append(slices.Repeat(saidAll("211x"), outs), said("212x"))
		for word, got := range map[string]impl.Signer{"221x": one, "221y": two, "212x": same} {
			if !slices.Equal(got.Out, append(slices.Clone(ahead), said(word))) {
				t.Errorf("%d out, %s: Out is %s", outs, word, inShort(got.Out))
			}
		}
		if !slices.Equal(s.Out, ahead) {
			t.Errorf("%d out: Out is %s", outs, inShort(s.Out))
		}
	}
}

// No call hangs on one ahead of it: what was signed for one signer is not signed for another that has the same Val.
func TestSignersKeepNothing(t *testing.T) {
	for range 3 {
		s := impl.Signer{Val: 7}
		s = checkAct(t, "x", s, signerAct{"ask", said("101x")}, impl.Signer{Val: 7, Mem: guardFor(said("101x")), Pend: true}, "ok")
		checkAct(t, "x", s, signerAct{what: "sync"}, signedUpTo(said("101x"), 1), "true")
		checkAct(t, "y, of another one", impl.Signer{Val: 7}, signerAct{"ask", said("101y")}, impl.Signer{Val: 7, Mem: guardFor(said("101y")), Pend: true}, "ok")
		checkAct(t, "x, asked once more", signedUpTo(said("101x"), 1), signerAct{"ask", said("101y")}, signedUpTo(said("101x"), 1), "clash")
	}
}

func TestSignersOfLongTexts(t *testing.T) {
	long := strings.Repeat("i", 1<<20)
	s := signedUpTo(said("111x"), 1)
	checkAct(t, "asked", s, signerAct{"ask", withId(said("112x"), long)}, s, "old")
	s.Out[0].Id = long
	checkRefused(t, "in Out", s)
	s = signedUpTo(withId(said("111x"), long), 0)
	checkRefused(t, "in the guards", s, withId(said("111x"), long))
}

func TestSignersFromManyAtOnce(t *testing.T) {
	signers := rightSigners()
	tell := func(s impl.Signer) string {
		told := fmt.Sprint(impl.SignerOk(s), impl.GuardOk(s.Mem))
		for _, a := range allActs(s) {
			got, code := doAct(s, a)
			told += fmt.Sprintf(" %v %s %d", got, code, impl.MaySign(s.Mem, a.vote))
		}
		return told
	}
	shown := map[string]string{}
	for name, s := range signers {
		shown[name] = tell(s)
	}
	var wait sync.WaitGroup
	for range 8 {
		wait.Go(func() {
			for name, s := range signers {
				if tell(s) != shown[name] {
					t.Errorf("%s was answered otherwise", name)
				}
			}
		})
	}
	wait.Wait()
}
