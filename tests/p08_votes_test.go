package tests

import (
	"crypto/sha256"
	"encoding/binary"
	"maps"
	"math"
	"slices"
	"strconv"
	"strings"
	"sync"
	"testing"

	"loop.example/g00946/impl"
)

// P8: A vote that is Signed is that of its validator, for that height, round, step and block alone (hashes that meet aside).

// blockVote is a right vote for a block.
func blockVote() impl.Vote {
	return impl.Vote{Height: 5, Round: 2, Step: 2, Id: "abcdefgh", Val: 3}
}

// nothingVote is a right vote for nothing.
func nothingVote() impl.Vote {
	return impl.Vote{Height: 5, Round: 2, Step: 2, Val: 3}
}

// voteIds are Ids of right votes.
func voteIds() []string {
	return []string{"", "abcdefgh", strings.Repeat("\x00", 8), strings.Repeat("\xff", 8), strings.Repeat("\x01", 8), bytesFrom(0, 8), bytesFrom(252, 8), "\u00e4\u00f6\u00fc\u00df"}
}

// noVoteIds are texts that are no Id of a vote.
func noVoteIds() []string {
	l := []string{strings.Repeat("\u00e4", 8), "\u00e4bcdefgh", "abcdefg\x00\x00", strings.Repeat("6162", 4)}
	for _, size := range []int{1, 2, 3, 4, 5, 6, 7, 9, 10, 15, 16, 17, 24, 32, 64, 255, 256, 264, 1000} {
		l = append(l, bytesFrom(0, size), bytesFrom(97, size), strings.Repeat("\x00", size), strings.Repeat("\xff", size))
	}
	return l
}

func rightVotes() []impl.Vote {
	var l []impl.Vote
	for _, height := range []int{1, 2, 127, 128, 16383, 16384, 999999, 1000000} {
		for _, round := range []int{0, 1, 127, 128, 999, 1000} {
			for _, step := range []int{1, 2} {
				for _, id := range voteIds() {
					for _, val := range []int{1, 2, 50, 98, 99} {
						l = append(l, impl.Vote{Height: height, Round: round, Step: step, Id: id, Val: val})
					}
				}
			}
		}
	}
	return l
}

// someRightVotes are right votes of every kind, and few enough to hold each against each.
func someRightVotes() []impl.Vote {
	var l []impl.Vote
	for i, v := range rightVotes() {
		if i%17 == 0 {
			l = append(l, v)
		}
	}
	return l
}

// wrongVotes are votes that are not right, by what is wrong with them.
func wrongVotes() map[string]impl.Vote {
	wrong := map[string]impl.Vote{
		"the zero one":         {},
		"all but a Height":     {Round: 2, Step: 2, Id: "abcdefgh", Val: 3},
		"all but a Step":       {Height: 5, Round: 2, Id: "abcdefgh", Val: 3},
		"all but a Val":        {Height: 5, Round: 2, Step: 2, Id: "abcdefgh"},
		"Height and Val alone": {Height: 1, Val: 1},
		"Step and Val alone":   {Step: 1, Val: 1},
	}
	for about, v := range map[string]impl.Vote{"for a block": blockVote(), "for nothing": nothingVote(), "the first": {Height: 1, Step: 1, Val: 1}, "the last": {Height: 1000000, Round: 1000, Step: 2, Id: "\xff\xff\xff\xff\xff\xff\xff\xff", Val: 99}} {
		put := func(name string, bend func(v *impl.Vote)) {
			bent := v
			bend(&bent)
			wrong[about+", "+name] = bent
		}
		for _, n := range append(edgeNumbers(), 98, 100, 101, 257, 258, 999, 1000, 1001, 1002, 1<<32+3, 1<<62) {
			name := strconv.Itoa(n)
			if n < 1 || n > 1000000 {
				put("Height "+name, func(v *impl.Vote) { v.Height = n })
			}
			if n < 0 || n > 1000 {
				put("Round "+name, func(v *impl.Vote) { v.Round = n })
			}
			if n != 1 && n != 2 {
				put("Step "+name, func(v *impl.Vote) { v.Step = n })
			}
			if n < 1 || n > 99 {
				put("Val "+name, func(v *impl.Vote) { v.Val = n })
			}
		}
		for i, id := range noVoteIds() {
			put("Id "+strconv.Itoa(i)+", of "+strconv.Itoa(len(id)), func(v *impl.Vote) { v.Id = id })
		}
	}
	return wrong
}

// wantVoteOk goes by the words of the document, one at a time.
func wantVoteOk(v impl.Vote) bool {
	height := 1 <= v.Height && v.Height <= 1000000
	round := 0 <= v.Round && v.Round <= 1000
	step := v.Step == 1 || v.Step == 2
	id := v.Id == "" || len(v.Id) == 8
	val := 1 <= v.Val && v.Val <= 99
	return height && round && step && id && val
}

// wantDigest is the digest that a vote would have, whether it is right or not (with numbers below 0 as no bytes).
func wantDigest(v impl.Vote) string {
	var s []byte
	for _, n := range []int{v.Height, v.Round, v.Step} {
		if n >= 0 {
			s = binary.AppendUvarint(s, uint64(n))
		}
	}
	return string(s) + v.Id
}

// wantSign is the signature that a validator would make, whether there is such a one or not.
func wantSign(val int, digest string) string {
	s := binary.BigEndian.AppendUint16([]byte{4}, uint16(val))
	sum := sha256.Sum256(append(s, digest...))
	return string(sum[:8])
}

func wantSigned(v impl.Vote, sig string) bool {
	return wantVoteOk(v) && sig == wantSign(v.Val, wantDigest(v))
}

func TestVoteNumbers(t *testing.T) {
	if impl.MaxRound != 1000 || impl.StPrevote != 1 || impl.StPrecommit != 2 {
		t.Errorf("MaxRound is %d, StPrevote is %d, StPrecommit is %d", impl.MaxRound, impl.StPrevote, impl.StPrecommit)
	}
}

// votesByHand are digests, byte by byte, and votes that have them.
func votesByHand() map[string]impl.Vote {
	return map[string]impl.Vote{
		"\x01\x00\x01":         {Height: 1, Round: 0, Step: 1, Val: 1},
		"\x01\x00\x02":         {Height: 1, Round: 0, Step: 2, Val: 99},
		"\x01\x02\x02abcdefgh": {Height: 1, Round: 2, Step: 2, Id: "abcdefgh", Val: 3},
		"\x02\x01\x01abcdefgh": {Height: 2, Round: 1, Step: 1, Id: "abcdefgh", Val: 4},
		"\x02\x01\x01":         {Height: 2, Round: 1, Step: 1, Val: 4},
		"\x7f\x7f\x01\x00\x00\x00\x00\x00\x00\x00\x00":                {Height: 127, Round: 127, Step: 1, Id: "\x00\x00\x00\x00\x00\x00\x00\x00", Val: 50},
		"\x80\x01\x80\x01\x02\xff\xff\xff\xff\xff\xff\xff\xff":        {Height: 128, Round: 128, Step: 2, Id: "\xff\xff\xff\xff\xff\xff\xff\xff", Val: 98},
		"\xac\x02\x80\x01\x01\x00\x00\x00\x00\x00\x00\x00\x00":        {Height: 300, Round: 128, Step: 1, Id: "\x00\x00\x00\x00\x00\x00\x00\x00", Val: 50},
		"\xff\x7f\x00\x01\x01\x00\x01\x01\x00\x01\x01\x01":            {Height: 16383, Round: 0, Step: 1, Id: "\x01\x00\x01\x01\x00\x01\x01\x01", Val: 7},
		"\x80\x80\x01\xe7\x07\x02\x00\xff\x00\xff\x00\xff\x00\xff":    {Height: 16384, Round: 999, Step: 2, Id: "\x00\xff\x00\xff\x00\xff\x00\xff", Val: 1},
		"\xc0\x84\x3d\xe8\x07\x02":                                    {Height: 1000000, Round: 1000, Step: 2, Val: 99},
		"\xc0\x84\x3d\xe8\x07\x02\xff\xff\xff\xff\xff\xff\xff\xff":    {Height: 1000000, Round: 1000, Step: 2, Id: "\xff\xff\xff\xff\xff\xff\xff\xff", Val: 99},
		"\xbf\x84\x3d\x00\x01\x00\x00\x00\x00\x00\x00\x00\x01":        {Height: 999999, Round: 0, Step: 1, Id: "\x00\x00\x00\x00\x00\x00\x00\x01", Val: 2},
		"\x01\xe8\x07\x02\xc3\xa4\xc3\xb6\xc3\xbc\xc3\x9f":            {Height: 1, Round: 1000, Step: 2, Id: "\u00e4\u00f6\u00fc\u00df", Val: 42},
		"\xc0\x84\x3d\x00\x02\xf0\x9f\x98\x80\xf0\x9f\x98\x80":        {Height: 1000000, Round: 0, Step: 2, Id: "\U0001f600\U0001f600", Val: 42},
		"\x03\x04\x01\x03\x04\x01\x03\x04\x01\x03\x04":                {Height: 3, Round: 4, Step: 1, Id: "\x03\x04\x01\x03\x04\x01\x03\x04", Val: 5},
		"\x80\x01\x01\x01\x80\x01\x01\x01\x80\x01\x01\x01":            {Height: 128, Round: 1, Step: 1, Id: "\x80\x01\x01\x01\x80\x01\x01\x01", Val: 5},
		"\x01\x80\x01\x01\x80\x80\x80\x80\x80\x80\x80\x80":            {Height: 1, Round: 128, Step: 1, Id: "\x80\x80\x80\x80\x80\x80\x80\x80", Val: 5},
		"\x81\x01\x81\x01\x02\x20\x20\x20\x20\x20\x20\x20\x20":        {Height: 129, Round: 129, Step: 2, Id: "        ", Val: 10},
		"\x80\x80\x01\x00\x01\x0a\x0d\x09\x22\x5c\x25\x73\x00":        {Height: 16384, Round: 0, Step: 1, Id: "\n\r\t\"\\%s\x00", Val: 10},
		"\x64\x63\x01\x00\x01\x02\x03\x04\x05\x06\x07":                {Height: 100, Round: 99, Step: 1, Id: bytesFrom(0, 8), Val: 11},
		"\xff\xff\x03\xff\x03\x02\xf8\xf9\xfa\xfb\xfc\xfd\xfe\xff":    {Height: 65535, Round: 511, Step: 2, Id: bytesFrom(248, 8), Val: 11},
		"\xff\xff\x03\x80\x04\x02\xf8\xf9\xfa\xfb\xfc\xfd\xfe\xff":    {Height: 65535, Round: 512, Step: 2, Id: bytesFrom(248, 8), Val: 11},
		"\x80\x80\x04\x80\x02\x01\x31\x32\x33\x34\x35\x36\x37\x38":    {Height: 65536, Round: 256, Step: 1, Id: "12345678", Val: 12},
		"\xa0\x8d\x06\xf4\x03\x01\x6e\x6f\x74\x68\x69\x6e\x67\x21":    {Height: 100000, Round: 500, Step: 1, Id: "nothing!", Val: 33},
		"\xc0\x84\x3d\xe8\x07\x01\x00\x00\x00\x00\x00\x00\x00\x00":    {Height: 1000000, Round: 1000, Step: 1, Id: "\x00\x00\x00\x00\x00\x00\x00\x00", Val: 1},
		"\x01\x00\x01\x01\x00\x01\x01\x00\x01\x01\x00":                {Height: 1, Round: 0, Step: 1, Id: "\x01\x00\x01\x01\x00\x01\x01\x00", Val: 1},
		"\x01\x00\x02" + "\x01\x00\x02" + "\x01\x00\x02" + "\x01\x00": {Height: 1, Round: 0, Step: 2, Id: "\x01\x00\x02\x01\x00\x02\x01\x00", Val: 1},
	}
}

func TestVotesByHand(t *testing.T) {
	for digest, v := range votesByHand() {
		if !impl.VoteOk(v) {
			t.Errorf("VoteOk(%#v) is false", v)
		}
		if got := impl.Digest(v); got != digest {
			t.Errorf("Digest(%#v) is %x, want %x", v, got, digest)
		}
		sig := impl.Short("\x04\x00" + string([]byte{byte(v.Val)}) + digest)
		if got := impl.SignAs(v.Val, digest); got != sig {
			t.Errorf("SignAs(%d, %x) is %x, want %x", v.Val, digest, got, sig)
		}
		if !impl.Signed(v, sig) {
			t.Errorf("Signed(%#v, %x) is false", v, sig)
		}
	}
}

// What is wanted here was worked out outside Go, with no part of the program.
func TestVotesKnown(t *testing.T) {
	known := map[string]impl.Vote{
		"555e3a8b8571d260": {Height: 1, Round: 0, Step: 1, Val: 1},
		"95c46fba5cb02f86": {Height: 1, Round: 2, Step: 2, Id: "abcdefgh", Val: 3},
		"9fda031fe68aefed": {Height: 300, Round: 128, Step: 1, Id: strings.Repeat("\x00", 8), Val: 50},
		"16e2c5dee4a83e98": {Height: 1000000, Round: 1000, Step: 2, Id: strings.Repeat("\xff", 8), Val: 99},
	}
	for want, v := range known {
		sig, _ := impl.Unhex(want)
		if got := impl.SignAs(v.Val, impl.Digest(v)); got != sig || !impl.Signed(v, sig) {
			t.Errorf("the signature of %#v is %x, want %s; Signed is %v", v, got, want, impl.Signed(v, sig))
		}
		if impl.Signed(v, want) {
			t.Errorf("%#v is Signed by the digits %s", v, want)
		}
	}
	signed := map[string]struct {
		val    int
		digest string
	}{"cf1021181aee1402": {1, ""}, "6930a7db8cb55de5": {99, ""}, "a74499e0f412cde0": {50, "hello"}}
	for want, c := range signed {
		if got := impl.Hex(impl.SignAs(c.val, c.digest)); got != want {
			t.Errorf("SignAs(%d, %q) is %s, want %s", c.val, c.digest, got, want)
		}
	}
}

func TestVotesThatAreRight(t *testing.T) {
	for _, v := range rightVotes() {
		if !impl.VoteOk(v) {
			t.Errorf("VoteOk(%#v) is false", v)
		}
		digest := wantDigest(v)
		if got := impl.Digest(v); got != digest {
			t.Errorf("Digest(%#v) is %x, want %x", v, got, digest)
		}
		if got, want := impl.SignAs(v.Val, digest), wantSign(v.Val, digest); got != want || !impl.Signed(v, got) {
			t.Errorf("%#v: SignAs is %x, want %x; Signed is %v", v, got, want, impl.Signed(v, got))
		}
	}
}

// sigsToTry are texts that somebody might take for the signature of a vote that is not right.
func sigsToTry(v impl.Vote) []string {
	l := []string{"", "\x00", strings.Repeat("\x00", 8), impl.SignAs(v.Val, ""), impl.SignAs(v.Val, wantDigest(v)), impl.SignAs(v.Val, impl.Digest(v)),
		wantSign(v.Val, ""), wantSign(v.Val, wantDigest(v)), wantSign(v.Val%256, wantDigest(v)), impl.Short("\x04" + wantDigest(v)), impl.Short("\x04"), impl.Short("")}
	for _, right := range []impl.Vote{blockVote(), nothingVote()} {
		l = append(l, impl.SignAs(right.Val, impl.Digest(right)))
	}
	return l
}

// Of what is not right each function gives its one answer, and nothing signs it.
func TestVotesThatAreNotRight(t *testing.T) {
	for name, v := range wrongVotes() {
		if wantVoteOk(v) {
			t.Fatalf("%s: %#v is right", name, v)
		}
		if impl.VoteOk(v) {
			t.Errorf("%s: VoteOk(%#v) is true", name, v)
		}
		if got := impl.Digest(v); got != "" {
			t.Errorf("%s: Digest(%#v) is %x", name, v, got)
		}
		for _, sig := range sigsToTry(v) {
			if impl.Signed(v, sig) {
				t.Errorf("%s: Signed(%#v, %x) is true", name, v, sig)
			}
		}
	}
}

// checkVote holds VoteOk, Digest and Signed of a vote against the words above.
func checkVote(t *testing.T, v impl.Vote) {
	t.Helper()
	want, digest := wantVoteOk(v), ""
	if want {
		digest = wantDigest(v)
	}
	if got := impl.VoteOk(v); got != want {
		t.Fatalf("VoteOk(%#v) is %v", v, got)
	}
	if got := impl.Digest(v); got != digest {
		t.Fatalf("Digest(%#v) is %x, want %x", v, got, digest)
	}
	if got := impl.Signed(v, wantSign(v.Val, wantDigest(v))); got != want {
		t.Fatalf("Signed(%#v) with its signature is %v", v, got)
	}
	if impl.Signed(v, wantSign(v.Val, "")) || impl.Signed(v, "") {
		t.Fatalf("%#v is Signed by a signature of nothing, or by none", v)
	}
}

// Each number of a vote around its limits, with all others right.
func TestVotesOfEachNumber(t *testing.T) {
	for _, base := range []impl.Vote{blockVote(), nothingVote(), {Height: 1, Step: 1, Val: 1}} {
		for n := -1200; n <= 1200; n++ {
			height, round, step, val := base, base, base, base
			height.Height, round.Round, step.Step, val.Val = n, n, n, n
			checkVote(t, height)
			checkVote(t, round)
			checkVote(t, step)
			checkVote(t, val)
		}
		for n := 999900; n <= 1000100; n++ {
			height := base
			height.Height = n
			checkVote(t, height)
		}
		for size := range 600 {
			for _, id := range []string{bytesFrom(byte(size), size), strings.Repeat("\x00", size), strings.Repeat("\xff", size)} {
				named := base
				named.Id = id
				checkVote(t, named)
			}
		}
	}
}

// Numbers and Ids that are right and such that are not, in all ways beside each other.
func TestVotesOfMixedFields(t *testing.T) {
	found := map[bool]int{}
	for _, height := range []int{math.MinInt, -1, 0, 1, 2, 1000000, 1000001, math.MaxInt} {
		for _, round := range []int{math.MinInt, -1, 0, 1, 1000, 1001, math.MaxInt} {
			for _, step := range []int{math.MinInt, -1, 0, 1, 2, 3, 257, math.MaxInt} {
				for _, val := range []int{math.MinInt, -1, 0, 1, 99, 100, 257, math.MaxInt} {
					for _, id := range []string{"", "x", "abcdefg", "abcdefgh", "abcdefghi", strings.Repeat("\x00", 8), strings.Repeat("\xff", 9)} {
						v := impl.Vote{Height: height, Round: round, Step: step, Id: id, Val: val}
						checkVote(t, v)
						found[wantVoteOk(v)]++
					}
				}
			}
		}
	}
	if found[true] < 100 || found[false] < 100 {
		t.Errorf("%d were right and %d not: too few to tell", found[true], found[false])
	}
}

// The digest of a vote for nothing is its numbers alone, and the beginning of each digest of one for a block.
func TestDigestOfVotesForNothing(t *testing.T) {
	for _, v := range rightVotes() {
		nothing := v
		nothing.Id = ""
		want := impl.Var(v.Height) + impl.Var(v.Round) + impl.Var(v.Step)
		if got := impl.Digest(nothing); got != want {
			t.Errorf("Digest(%#v) is %x, want %x", nothing, got, want)
		}
		if got := impl.Digest(v); got != want+v.Id {
			t.Errorf("Digest(%#v) is %x, want %x", v, got, want+v.Id)
		}
		if got := impl.Signed(v, impl.SignAs(v.Val, impl.Digest(nothing))); got != (v.Id == "") {
			t.Errorf("%#v is Signed by the vote for nothing: %v", v, got)
		}
		if got := impl.Signed(nothing, impl.SignAs(v.Val, impl.Digest(v))); got != (v.Id == "") {
			t.Errorf("the vote for nothing is Signed by %#v: %v", v, got)
		}
	}
}

// A digest tells all of a vote but whose it is: no two that are unlike in anything else have it.
func TestDigestsThatAreUnlike(t *testing.T) {
	byDigest := map[string]impl.Vote{}
	bySig := map[string]impl.Vote{}
	for _, v := range append(rightVotes(), slices.Collect(maps.Values(votesByHand()))...) {
		digest := impl.Digest(v)
		sig := impl.SignAs(v.Val, digest)
		if other, ok := bySig[sig]; ok && other != v {
			t.Errorf("%#v and %#v have one signature", other, v)
		}
		bySig[sig] = v
		v.Val = 0
		if other, ok := byDigest[digest]; ok && other != v {
			t.Errorf("%#v and %#v have one digest", other, v)
		}
		byDigest[digest] = v
	}
}

func TestSignAsOfManyDigests(t *testing.T) {
	digests := []string{"", "\x00", "\x01", "\x03", "\x04", "\xff", "\x00\x03", "\x04\x00\x03", "hello", strings.Repeat("\x00", 64), strings.Repeat("a", 1000), impl.Digest(blockVote()), impl.Digest(nothingVote()), impl.Digest(impl.Vote{}), impl.Hex(impl.Digest(blockVote()))}
	for size := range 140 {
		digests = append(digests, mixedBytes(uint32(size), size))
	}
	for _, digest := range digests {
		for val := 1; val <= 99; val++ {
			want := wantSign(val, digest)
			if got := impl.SignAs(val, digest); got != want || got != impl.Short("\x04"+impl.Fixed(val, 2)+digest) {
				t.Fatalf("SignAs(%d, %x) is %x, want %x", val, digest, got, want)
			}
		}
	}
}

func TestSignAsOfNobody(t *testing.T) {
	nobody := []int{-99, -98, -50, -3, 100, 101, 150, 257, 258, 355, 65535, 65536, 65537, 65539, 1<<32 + 1, 1<<32 + 99, 1 << 62, math.MinInt + 3}
	for _, n := range edgeNumbers() {
		if n < 1 || n > 99 {
			nobody = append(nobody, n)
		}
	}
	for val := -300; val <= 600; val++ {
		if val < 1 || val > 99 {
			nobody = append(nobody, val)
		}
	}
	for _, val := range nobody {
		for _, digest := range []string{"", "\x00", "hello", impl.Digest(blockVote()), impl.Digest(nothingVote()), strings.Repeat("\xff", 1000)} {
			if got := impl.SignAs(val, digest); got != "" {
				t.Errorf("SignAs(%d, %.20x) is %x", val, digest, got)
			}
		}
	}
}

// No two validators have one signature for one text, and no validator one for two.
func TestSignAsIsThatValidatorsAlone(t *testing.T) {
	signed := map[string]string{}
	shortTexts(func(digest string) {
		if len(digest) == 2 && digest[0]%16 != 3 {
			return
		}
		for _, val := range []int{1, 2, 3, 4, 50, 98, 99} {
			sig := impl.SignAs(val, digest)
			whose := strconv.Itoa(val) + " " + impl.Hex(digest)
			if other, ok := signed[sig]; ok && other != whose {
				t.Errorf("%s and %s have one signature", other, whose)
			}
			signed[sig] = whose
		}
	})
}

// nearVotes are votes that are unlike a right one in one field, and right themselves.
func nearVotes(v impl.Vote) []impl.Vote {
	var l []impl.Vote
	put := func(bend func(v *impl.Vote)) {
		near := v
		bend(&near)
		if near != v && wantVoteOk(near) {
			l = append(l, near)
		}
	}
	for _, n := range []int{0, 1, 2, 3, 4, 98, 99, 127, 128, 129, 255, 256, 257, 999, 1000, 16384, 999999, 1000000, v.Height - 1, v.Height + 1, v.Height + 128, v.Height * 128, v.Round - 1, v.Round + 1, v.Val - 1, v.Val + 1} {
		put(func(v *impl.Vote) { v.Height = n })
		put(func(v *impl.Vote) { v.Round = n })
		put(func(v *impl.Vote) { v.Val = n })
	}
	put(func(v *impl.Vote) { v.Step = 3 - v.Step })
	put(func(v *impl.Vote) { v.Height, v.Round = v.Round, v.Height })
	put(func(v *impl.Vote) { v.Height, v.Val = v.Val, v.Height })
	put(func(v *impl.Vote) { v.Round, v.Val = v.Val, v.Round })
	for _, id := range append(voteIds(), "Abcdefgh", "abcdefgH", "habcdefg", "abcdefg\x00", "\x00bcdefgh") {
		put(func(v *impl.Vote) { v.Id = id })
	}
	for at := range len(v.Id) {
		put(func(v *impl.Vote) { v.Id = v.Id[:at] + string([]byte{v.Id[at] ^ 1}) + v.Id[at+1:] })
		put(func(v *impl.Vote) { v.Id = v.Id[:at] + string([]byte{v.Id[at] ^ 128}) + v.Id[at+1:] })
	}
	return l
}

// The signature of a vote signs no other one, and that of no other one signs it.
func TestSignedNoOtherVote(t *testing.T) {
	for _, v := range append(someRightVotes(), blockVote(), nothingVote()) {
		sig := impl.SignAs(v.Val, impl.Digest(v))
		if !impl.Signed(v, sig) {
			t.Fatalf("%#v is not Signed", v)
		}
		for _, near := range nearVotes(v) {
			if impl.Signed(near, sig) {
				t.Errorf("%#v is Signed by %#v", near, v)
			}
			if impl.Signed(v, impl.SignAs(near.Val, impl.Digest(near))) {
				t.Errorf("%#v is Signed by %#v", v, near)
			}
		}
	}
}

// Of all pairs of a vote and a signature those alone are Signed that belong to each other.
func TestSignedEachByEach(t *testing.T) {
	votes := someRightVotes()
	sigs := make([]string, len(votes))
	for i, v := range votes {
		sigs[i] = impl.SignAs(v.Val, impl.Digest(v))
	}
	for i, v := range votes {
		for j, sig := range sigs {
			if got := impl.Signed(v, sig); got != (i == j) {
				t.Fatalf("%#v is Signed by %#v: %v", v, votes[j], got)
			}
		}
	}
}

// Each of the validators has a signature of its own for a vote, and no other one's does.
func TestSignedByNoOtherValidator(t *testing.T) {
	for _, base := range []impl.Vote{blockVote(), nothingVote()} {
		for val := 1; val <= 99; val++ {
			v := base
			v.Val = val
			for signer := -1; signer <= 101; signer++ {
				if got := impl.Signed(v, impl.SignAs(signer, impl.Digest(v))); got != (signer == val) {
					t.Errorf("%#v is Signed by %d: %v", v, signer, got)
				}
			}
		}
	}
}

// bentSigs are texts that are near a signature, and are none.
func bentSigs(v impl.Vote, sig string) map[string]string {
	digest := wantDigest(v)
	signed := "\x04" + impl.Fixed(v.Val, 2) + digest
	bent := map[string]string{
		"empty":              "",
		"twice":              sig + sig,
		"its Hex":            impl.Hex(sig),
		"all of the Sha":     impl.Sha(signed),
		"the Sha's next":     impl.Sha(signed)[8:16],
		"the Sha's last":     impl.Sha(signed)[24:],
		"turned round":       string([]byte{sig[7], sig[6], sig[5], sig[4], sig[3], sig[2], sig[1], sig[0]}),
		"the digest":         digest,
		"what is hashed":     signed,
		"with no mark":       impl.Short(signed[1:]),
		"with another mark":  impl.Short("\x03" + signed[1:]),
		"of the digest":      impl.Short(digest),
		"with no validator":  impl.Short("\x04" + digest),
		"with one byte Val":  impl.Short("\x04" + impl.Fixed(v.Val, 1) + digest),
		"with three bytes":   impl.Short("\x04" + impl.Fixed(v.Val, 3) + digest),
		"with a Var":         impl.Short("\x04" + impl.Var(v.Val) + digest),
		"the lower first":    impl.Short("\x04" + string([]byte{byte(v.Val), 0}) + digest),
		"of an empty digest": impl.SignAs(v.Val, ""),
		"of a cut digest":    impl.SignAs(v.Val, digest[:len(digest)-1]),
		"of a longer digest": impl.SignAs(v.Val, digest+"\x00"),
		"with the size":      impl.SignAs(v.Val, impl.Digest(v)[:len(digest)-len(v.Id)]+impl.Var(len(v.Id))+v.Id),
		"of its own":         impl.SignAs(v.Val, sig),
		"the leaf's hash":    impl.LeafHash(digest),
		"a chain's link":     impl.HsLink(0, 3, digest),
		"a chain's secret":   impl.HsSecret(digest, 0, 3),
		"the Id":             v.Id,
		"8 noughts":          strings.Repeat("\x00", 8),
		"8 bytes 255":        strings.Repeat("\xff", 8),
		"long":               strings.Repeat(sig, 10000),
		"long noughts":       sig + strings.Repeat("\x00", 10000),
	}
	for size := 1; size < 8; size++ {
		bent["cut to "+strconv.Itoa(size)] = sig[:size]
		bent["cut ahead to "+strconv.Itoa(size)] = sig[size:]
		bent["filled from "+strconv.Itoa(size)] = sig[:size] + strings.Repeat("\x00", 8-size)
	}
	return bent
}

func TestSignedByNoBentSignature(t *testing.T) {
	votes := append(slices.Collect(maps.Values(votesByHand())), blockVote(), nothingVote())
	for _, v := range votes {
		sig := impl.SignAs(v.Val, impl.Digest(v))
		if !impl.Signed(v, sig) {
			t.Fatalf("%#v is not Signed", v)
		}
		for name, bent := range bentSigs(v, sig) {
			if impl.Signed(v, bent) {
				t.Errorf("%s: Signed(%#v, %.40x) is true", name, v, bent)
			}
		}
		for other := range 256 {
			b := string([]byte{byte(other)})
			if impl.Signed(v, sig+b) || impl.Signed(v, b+sig) || impl.Signed(v, sig[:4]+b+sig[4:]) {
				t.Errorf("%#v is Signed with a byte %d more", v, other)
			}
			for at := range len(sig) {
				if got := impl.Signed(v, sig[:at]+b+sig[at+1:]); got != (sig[at] == byte(other)) {
					t.Errorf("%#v is Signed with byte %d as %d: %v", v, at, other, got)
				}
			}
		}
		for at := range len(sig) - 1 {
			if swapped := sig[:at] + sig[at+1:at+2] + sig[at:at+1] + sig[at+2:]; swapped != sig && impl.Signed(v, swapped) {
				t.Errorf("%#v is Signed with bytes %d and %d changed about", v, at, at+1)
			}
		}
	}
}

// Votes and signatures of any fields are answered as the document's words say.
func TestSignedOfMixedVotes(t *testing.T) {
	found := map[bool]int{}
	sizes := []int{0, 8, 8, 0, 8, 7, 9, 1}
	for start := range 30000 {
		mixed := mixedBytes(uint32(start), 8)
		id := mixedBytes(uint32(mixed[4]), 9)[:sizes[mixed[5]%8]]
		v := impl.Vote{Height: int(mixed[0])%6 - 1, Round: int(mixed[1])%6 - 1, Step: int(mixed[2]) % 4, Id: id, Val: int(mixed[3])%6 - 1}
		signer := v
		if mixed[6]%2 == 0 {
			signer.Round = int(mixed[7])%6 - 1
		}
		sig := wantSign(signer.Val, wantDigest(signer))
		want := wantSigned(v, sig)
		if got := impl.Signed(v, sig); got != want {
			t.Fatalf("Signed(%#v, %x) is %v", v, sig, got)
		}
		checkVote(t, v)
		found[want]++
	}
	if found[true] < 1000 || found[false] < 1000 {
		t.Errorf("%d were Signed and %d not: too few to tell", found[true], found[false])
	}
}

func TestVotesOwnTheirMemory(t *testing.T) {
	for digest, v := range votesByHand() {
		if got := impl.Digest(v); sharesMemory(got, v.Id) {
			t.Errorf("Digest(%#v) shares the memory of the Id", v)
		}
		if got := impl.SignAs(v.Val, digest); sharesMemory(got, digest) {
			t.Errorf("SignAs(%d, %x) shares the memory of the digest", v.Val, digest)
		}
	}
}

func TestVotesFromManyAtOnce(t *testing.T) {
	right, wrong := someRightVotes(), wrongVotes()
	var wait sync.WaitGroup
	for range 8 {
		wait.Go(func() {
			for i, v := range right {
				sig := impl.SignAs(v.Val, impl.Digest(v))
				if !impl.Signed(v, sig) || impl.Signed(right[(i+1)%len(right)], sig) {
					t.Errorf("%#v was answered otherwise", v)
				}
			}
			for name, v := range wrong {
				if impl.VoteOk(v) || impl.Digest(v) != "" || impl.Signed(v, impl.SignAs(v.Val, "")) {
					t.Errorf("%s was answered otherwise", name)
				}
			}
		})
	}
	wait.Wait()
}
