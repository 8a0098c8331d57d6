package tests

import (
	"crypto/sha256"
	"encoding/hex"
	"fmt"
	"math"
	"slices"
	"strconv"
	"strings"
	"sync"
	"testing"

	"loop.example/g00946/impl"
)

// P5: HsCheck says true of what HsSign makes, under its HsRoot alone, and of no text whose digits are others (hashes that meet aside).

type digitsOfText [11]int

// lastDigits are the three digits for each count from 0 to 24 that the eight leave, told by counting on.
func lastDigits() [][3]int {
	var all [][3]int
	for a := range 4 {
		for b := range 4 {
			for c := range 4 {
				all = append(all, [3]int{a, b, c})
			}
		}
	}
	return all[:25]
}

// wantDigits are a text's digits, read from the bits as they are written.
func wantDigits(msg string) digitsOfText {
	sum := sha256.Sum256([]byte(msg))
	written := fmt.Sprintf("%08b%08b", sum[0], sum[1])
	var digits digitsOfText
	left := 24
	for i := range 8 {
		digits[i] = slices.Index([]string{"00", "01", "10", "11"}, written[2*i:2*i+2])
		left -= digits[i]
	}
	last := lastDigits()[left]
	copy(digits[8:], last[:])
	return digits
}

// textsByPairs are texts, one for each of the values that the first two bytes of a Sha may have.
var textsByPairs = sync.OnceValue(func() []string {
	texts := make([]string, 1<<16)
	for i, missing := 0, len(texts); missing > 0; i++ {
		msg := "text " + strconv.Itoa(i)
		sum := sha256.Sum256([]byte(msg))
		at := int(sum[0])*256 + int(sum[1])
		if texts[at] == "" {
			texts[at] = msg
			missing--
		}
	}
	return texts
})

// evenTexts are texts whose eight pairs are all 0, all 1, all 2 and all 3, with the digits that they have.
func evenTexts() map[string]digitsOfText {
	texts := textsByPairs()
	return map[string]digitsOfText{
		texts[0x0000]: {0, 0, 0, 0, 0, 0, 0, 0, 1, 2, 0},
		texts[0x5555]: {1, 1, 1, 1, 1, 1, 1, 1, 1, 0, 0},
		texts[0xaaaa]: {2, 2, 2, 2, 2, 2, 2, 2, 0, 2, 0},
		texts[0xffff]: {3, 3, 3, 3, 3, 3, 3, 3, 0, 0, 0},
	}
}

func handLink(c int, step int, x string) string {
	return impl.Short("\x02" + string([]byte{byte(c), byte(step)}) + x)
}

func handSecret(seed string, leaf int, c int) string {
	return impl.Short("\x03" + string([]byte{byte(leaf), byte(c)}) + seed)
}

// handWalk goes on from x with the links of the steps given.
func handWalk(c int, x string, steps ...int) string {
	for _, step := range steps {
		x = handLink(c, step, x)
	}
	return x
}

func handPub(seed string, leaf int) string {
	ends := ""
	for c := range 11 {
		ends += handLink(c, 3, handLink(c, 2, handLink(c, 1, handSecret(seed, leaf, c))))
	}
	return impl.Short(ends)
}

func handPubs(seed string) []string {
	return []string{handPub(seed, 0), handPub(seed, 1), handPub(seed, 2), handPub(seed, 3)}
}

func handSign(seed string, leaf int, digits digitsOfText) string {
	sig := ""
	for c := range 11 {
		sig += handWalk(c, handSecret(seed, leaf, c), []int{1, 2, 3}[:digits[c]]...)
	}
	path := impl.TreePath(handPubs(seed), leaf)
	return sig + string([]byte{byte(leaf)}) + path[0] + path[1]
}

func hsSeeds() []string {
	return []string{"", "seed", "other", "\x00", "\x00\x00", "\xff\x00", allBytes(), mixedBytes(20, 32), mixedBytes(21, 300)}
}

func hsTexts() []string {
	return []string{"", "hi", "ho", "abc", "\x00", "\xff", "\x03\x00\x00seed", allBytes(), mixedBytes(22, 64), mixedBytes(23, 1000)}
}

// hsNumbers are the edges of leaf, chain and step, numbers whose lowest byte is right, and the ends of all numbers.
func hsNumbers() []int {
	return []int{math.MinInt, math.MinInt + 1, -1 << 32, -257, -256, -255, -253, -11, -4, -2, -1, 0, 1, 2, 3, 4, 5, 9, 10, 11, 12,
		127, 128, 255, 256, 257, 258, 259, 260, 512, 1 << 32, 1<<32 + 1, math.MaxInt - 1, math.MaxInt}
}

// hsPart tells which part of a signature a byte belongs to.
func hsPart(at int) string {
	switch {
	case at < 88:
		return "chain " + strconv.Itoa(at/8)
	case at == 88:
		return "the byte of the leaf"
	}
	return "hash " + strconv.Itoa((at-89)/32) + " of the path"
}

// putAt is s with other bytes from a place on.
func putAt(s string, at int, part string) string {
	return s[:at] + part + s[at+len(part):]
}

func TestHsNumbers(t *testing.T) {
	if impl.HsLeaves != 4 || impl.HsChains != 11 {
		t.Errorf("HsLeaves is %d, HsChains is %d", impl.HsLeaves, impl.HsChains)
	}
}

// What is wanted here was worked out outside Go, with no part of the program.
func TestHsKnown(t *testing.T) {
	roots := map[string]string{
		"":         "611b604cefcd9e2ff195444c2a4bd314586726fbf938c0301a57756b42463eb3",
		"seed":     "4205df3231df59296638a2694b9ccb915055ce142461c2d4e28ffcf5fdb4368c",
		"\xff\x00": "8788d05b0b16ad26e7ed34e727eba0a2a123c20ae6b2f6b7df18b015bd1da23c",
	}
	for seed, want := range roots {
		if got := hex.EncodeToString([]byte(impl.HsRoot(seed))); got != want {
			t.Errorf("HsRoot(%q) is %s, want %s", seed, got, want)
		}
	}
	pubs := map[string][4]string{
		"":         {"c340e81a920089b4", "4bbda97291e974ae", "5b8e14e9ddb4a16d", "ecd58c30aab12369"},
		"seed":     {"f65f4a8bb350d97f", "39f7f096a287cf73", "bab8e497e1cc19fe", "bc4cc5cf1e2e5ea8"},
		"\xff\x00": {"cf068677c8155610", "208c1fa8b787af83", "5a59f23c4cea9b7c", "504a64936434dca9"},
	}
	for seed, all := range pubs {
		for leaf, want := range all {
			if got := hex.EncodeToString([]byte(impl.HsPub(seed, leaf))); got != want {
				t.Errorf("HsPub(%q, %d) is %s, want %s", seed, leaf, got, want)
			}
		}
	}
	signatures := []struct {
		seed string
		leaf int
		msg  string
		want string
	}{
		{"seed", 2, "hi", "14c9c3f0c233edd8d5cd3716ead4fae5722da6719082dc88d266380dc0633ac18ebbb806cc2891c830e49e3287f5160f2dac5575fb1e025ba56098b33e2680eb29339da1c92153bd1c3f58da1e54d5e3ae4d98b9db530356" + "02" +
			"5703d057bc76209b91089d6506cfbb69eba986051bbbf3fcde93f05d4c687082" + "e886ed82a0edd21edb017ac693abb2c1a477ec6dafba03b07df558568f1bf7de"},
		{"", 0, "", "bdd10abee1c926adf729b4ccd149d3441de3b8e226edd273d7c425fe0af5af44c3b403fa0b8931b4518272afe35e9d7f666100eb816511a87bdc54348d829b964b340a234fc3df21873e1b26cd5b485f2671560369a6a812" + "00" +
			"2f187d2f1bfac69d3ef9249d1d40c8b24c38005a507571e8159a41bd051578e5" + "e36dd4adc478bbb8eeead4264e8bd344f36eab9d3b820e96a753dd56ce42f726"},
	}
	for _, s := range signatures {
		if got := hex.EncodeToString([]byte(impl.HsSign(s.seed, s.leaf, s.msg))); got != s.want {
			t.Errorf("HsSign(%q, %d, %q) is %s, want %s", s.seed, s.leaf, s.msg, got, s.want)
		}
	}
}

func TestHsLinkByHand(t *testing.T) {
	for _, x := range append(hsTexts(), hsSeeds()...) {
		seen := map[string]int{}
		for c := range 11 {
			for step := 1; step <= 3; step++ {
				got := impl.HsLink(c, step, x)
				if want := handLink(c, step, x); got != want {
					t.Fatalf("HsLink(%d, %d, %.40q) is %x, want %x", c, step, x, got, want)
				}
				seen[got]++
			}
		}
		if len(seen) != 33 {
			t.Errorf("33 links of %.40q are %d texts", x, len(seen))
		}
	}
}

func TestHsLinkEdges(t *testing.T) {
	for _, c := range hsNumbers() {
		for _, step := range hsNumbers() {
			for _, x := range []string{"", "x", mixedBytes(24, 8)} {
				want := ""
				if 0 <= c && c <= 10 && 1 <= step && step <= 3 {
					want = handLink(c, step, x)
				}
				if got := impl.HsLink(c, step, x); got != want {
					t.Errorf("HsLink(%d, %d, %q) is %x, want %x", c, step, x, got, want)
				}
			}
		}
	}
}

func TestHsSecretByHand(t *testing.T) {
	seen := map[string]int{}
	for _, seed := range hsSeeds() {
		for leaf := range 4 {
			for c := range 11 {
				got := impl.HsSecret(seed, leaf, c)
				if want := handSecret(seed, leaf, c); got != want {
					t.Fatalf("HsSecret(%.40q, %d, %d) is %x, want %x", seed, leaf, c, got, want)
				}
				seen[got]++
			}
		}
	}
	if want := 44 * len(hsSeeds()); len(seen) != want {
		t.Errorf("%d secrets are %d texts", want, len(seen))
	}
}

func TestHsSecretEdges(t *testing.T) {
	for _, seed := range []string{"", "seed"} {
		for _, leaf := range hsNumbers() {
			for _, c := range hsNumbers() {
				want := ""
				if 0 <= leaf && leaf <= 3 && 0 <= c && c <= 10 {
					want = handSecret(seed, leaf, c)
				}
				if got := impl.HsSecret(seed, leaf, c); got != want {
					t.Errorf("HsSecret(%q, %d, %d) is %x, want %x", seed, leaf, c, got, want)
				}
			}
		}
	}
}

func TestHsPubAndHsRootByHand(t *testing.T) {
	roots := map[string]int{}
	for _, seed := range hsSeeds() {
		pubs := handPubs(seed)
		for leaf, want := range pubs {
			if got := impl.HsPub(seed, leaf); got != want {
				t.Errorf("HsPub(%.40q, %d) is %x, want %x", seed, leaf, got, want)
			}
		}
		got := impl.HsRoot(seed)
		if want := impl.TreeRoot(pubs); got != want {
			t.Errorf("HsRoot(%.40q) is %x, want %x", seed, got, want)
		}
		roots[got]++
	}
	if len(roots) != len(hsSeeds()) {
		t.Errorf("%d seeds have %d roots", len(hsSeeds()), len(roots))
	}
}

func TestHsPubOfNoSuchLeaf(t *testing.T) {
	for _, seed := range hsSeeds() {
		for _, leaf := range hsNumbers() {
			if got := impl.HsPub(seed, leaf); (got == "") == (0 <= leaf && leaf <= 3) {
				t.Errorf("HsPub(%.40q, %d) is %x", seed, leaf, got)
			}
		}
	}
}

func TestHsSignByHand(t *testing.T) {
	for _, seed := range hsSeeds() {
		for _, msg := range hsTexts() {
			for leaf := range 4 {
				got := impl.HsSign(seed, leaf, msg)
				if want := handSign(seed, leaf, wantDigits(msg)); got != want {
					t.Fatalf("HsSign(%.40q, %d, %.40q) is %x, want %x", seed, leaf, msg, got, want)
				}
				if len(got) != 11*8+1+2*32 {
					t.Fatalf("HsSign(%.40q, %d, %.40q) has %d bytes", seed, leaf, msg, len(got))
				}
			}
		}
	}
}

// The digits are written out here: 2 0 3 3 1 0 0 3, whose sum is 12, and for the 12 that are left none of 16, three of 4, and 0.
func TestHsSignWithDigitsByHand(t *testing.T) {
	digits := digitsOfText{2, 0, 3, 3, 1, 0, 0, 3, 0, 3, 0}
	if hash := impl.Sha("hi"); hash[0] != 0b10001111 || hash[1] != 0b01000011 || wantDigits("hi") != digits {
		t.Fatalf("the digits of hi are %v", wantDigits("hi"))
	}
	if got, want := impl.HsSign("seed", 1, "hi"), handSign("seed", 1, digits); got != want {
		t.Errorf("HsSign is %x, want %x", got, want)
	}
}

func TestHsSignOfNoSuchLeaf(t *testing.T) {
	for _, leaf := range hsNumbers() {
		for _, seed := range []string{"", "seed"} {
			for _, msg := range []string{"", "hi"} {
				if got := impl.HsSign(seed, leaf, msg); (got == "") == (0 <= leaf && leaf <= 3) {
					t.Errorf("HsSign(%q, %d, %q) is %x", seed, leaf, msg, got)
				}
			}
		}
	}
}

func TestHsDigitsThatAreAllTheSame(t *testing.T) {
	texts := evenTexts()
	if len(texts) != 4 {
		t.Fatalf("%d texts whose pairs are all the same", len(texts))
	}
	for msg, digits := range texts {
		hash := impl.Sha(msg)
		if hash[0] != hash[1] || int(hash[0]) != digits[0]*0b01010101 {
			t.Fatalf("%q has the hash %x", msg, hash)
		}
		for _, seed := range hsSeeds() {
			root := impl.HsRoot(seed)
			for leaf := range 4 {
				sig := impl.HsSign(seed, leaf, msg)
				if want := handSign(seed, leaf, digits); sig != want {
					t.Errorf("HsSign(%.40q, %d, %q), with digits %v, is %x, want %x", seed, leaf, msg, digits, sig, want)
				}
				if !impl.HsCheck(root, msg, sig) {
					t.Errorf("HsCheck is false of leaf %d and %q, with digits %v", leaf, msg, digits)
				}
				for other := range texts {
					if other != msg && impl.HsCheck(root, other, sig) {
						t.Errorf("what was signed with digits %v is taken for digits %v", digits, texts[other])
					}
				}
			}
		}
	}
}

// What the eight leave of 24 is met at each count.
func TestHsDigitsOfEachSum(t *testing.T) {
	texts := textsByPairs()
	root := impl.HsRoot("seed")
	for sum := range 25 {
		pairs, left := 0, sum
		for range 8 {
			digit := min(left, 3)
			pairs, left = pairs<<2|digit, left-digit
		}
		msg := texts[pairs]
		digits := wantDigits(msg)
		if got := 16*digits[8] + 4*digits[9] + digits[10]; got != 24-sum {
			t.Fatalf("of %q, whose sum is %d, the last digits say %d", msg, sum, got)
		}
		sig := impl.HsSign("seed", 3, msg)
		if want := handSign("seed", 3, digits); sig != want || !impl.HsCheck(root, msg, sig) {
			t.Errorf("HsSign of %q, whose sum is %d, is %x, want %x", msg, sum, sig, want)
		}
	}
}

func TestHsCheckOfWhatWasSigned(t *testing.T) {
	for _, seed := range hsSeeds() {
		root := impl.HsRoot(seed)
		for leaf := range 4 {
			for _, msg := range hsTexts() {
				if !impl.HsCheck(root, msg, impl.HsSign(seed, leaf, msg)) {
					t.Errorf("HsCheck is false of seed %.40q, leaf %d, %.40q", seed, leaf, msg)
				}
			}
		}
	}
}

// What is asked is a leaf that leads to the root, not which seed the parts come from.
func TestHsCheckOfPartsOfNoSeed(t *testing.T) {
	msg := "hi"
	digits := wantDigits(msg)
	for leaf := range 4 {
		sig, ends := "", ""
		for c := range 11 {
			start := mixedBytes(uint32(30+c), 8)
			sig += handWalk(c, start, []int{1, 2, 3}[:digits[c]]...)
			ends += handWalk(c, start, 1, 2, 3)
		}
		leaves := []string{"a", "", mixedBytes(41, 8), mixedBytes(42, 100)}
		leaves[leaf] = impl.Short(ends)
		sig += string([]byte{byte(leaf)}) + strings.Join(impl.TreePath(leaves, leaf), "")
		if !impl.HsCheck(impl.TreeRoot(leaves), msg, sig) {
			t.Errorf("HsCheck is false of leaf %d", leaf)
		}
	}
}

func TestHsCheckOfOtherTexts(t *testing.T) {
	root := impl.HsRoot("seed")
	msg := "hi"
	digits := wantDigits(msg)
	others := append(hsTexts(), bentTexts(msg)...)
	others = append(others, textsByPairs()[0x8f43])
	for i := range 2000 {
		others = append(others, strconv.Itoa(i), textsByPairs()[i*31])
	}
	// Each of the eight pairs, changed alone.
	for place := range 8 {
		for change := 1; change < 4; change++ {
			others = append(others, textsByPairs()[0x8f43^change<<(2*place)])
		}
	}
	for leaf := range 4 {
		sig := impl.HsSign("seed", leaf, msg)
		for _, other := range others {
			want := wantDigits(other) == digits
			if got := impl.HsCheck(root, other, sig); got != want {
				t.Fatalf("HsCheck is %v of leaf %d's signature of %q with %.40q", got, leaf, msg, other)
			}
		}
	}
}

// Texts whose digits are the same have the same signature, whatever else their hashes are.
func TestHsTextsWithTheSameDigits(t *testing.T) {
	msg, other := "hi", textsByPairs()[0x8f43]
	if msg == other || impl.Sha(msg)[:2] != impl.Sha(other)[:2] {
		t.Fatalf("%q has not the digits of %q", other, msg)
	}
	sig := impl.HsSign("seed", 2, msg)
	if impl.HsSign("seed", 2, other) != sig || !impl.HsCheck(impl.HsRoot("seed"), other, sig) {
		t.Errorf("%q is not signed as %q", other, msg)
	}
}

// Who has a signature can walk its chains on, but not back: whatever two texts' digits are, one digit stands in the way.
func TestHsSignatureWalkedOn(t *testing.T) {
	texts := textsByPairs()
	root := impl.HsRoot("seed")
	pairs := []int{0x0000, 0x0001, 0x4000, 0x5555, 0x5554, 0x1555, 0x8f43, 0xaaaa, 0xaaab, 0xeaaa, 0xfffe, 0xbfff, 0xffff, 0x00ff, 0xff00}
	for _, from := range pairs {
		sig := impl.HsSign("seed", 1, texts[from])
		for _, to := range pairs {
			if from == to {
				continue
			}
			have, need := wantDigits(texts[from]), wantDigits(texts[to])
			forged := sig
			for c := range 11 {
				part := sig[8*c : 8*c+8]
				for step := have[c] + 1; step <= need[c]; step++ {
					part = handLink(c, step, part)
				}
				forged = putAt(forged, 8*c, part)
			}
			if impl.HsCheck(root, texts[to], forged) {
				t.Errorf("a signature with digits %v was walked on to digits %v", have, need)
			}
		}
	}
}

func TestHsCheckUnderOtherRoots(t *testing.T) {
	for _, seed := range []string{"", "seed", "\xff\x00"} {
		root := impl.HsRoot(seed)
		roots := append(bentTexts(root), impl.Sha(""), impl.TreeRoot(nil), impl.HsPub(seed, 0), impl.LeafHash(impl.HsPub(seed, 0)))
		for _, other := range append(hsSeeds(), seed+"\x00", seed+"x") {
			if other != seed {
				roots = append(roots, impl.HsRoot(other))
			}
		}
		pubs := handPubs(seed)
		roots = append(roots, impl.TreeRoot(pubs[:3]), impl.TreeRoot(append(slices.Clone(pubs), pubs[3])))
		slices.Reverse(pubs)
		roots = append(roots, impl.TreeRoot(pubs))
		for leaf := range 4 {
			sig := impl.HsSign(seed, leaf, "hi")
			for _, other := range roots {
				if impl.HsCheck(other, "hi", sig) {
					t.Errorf("leaf %d of seed %q is taken under %x", leaf, seed, other)
				}
			}
		}
	}
}

func TestHsCheckOfAnotherLength(t *testing.T) {
	root := impl.HsRoot("seed")
	for leaf := range 4 {
		sig := impl.HsSign("seed", leaf, "hi")
		for length := range len(sig) {
			if impl.HsCheck(root, "hi", sig[:length]) || impl.HsCheck(root, "hi", sig[len(sig)-length:]) {
				t.Errorf("%d bytes of a signature are taken", length)
			}
		}
		for at := range len(sig) {
			if impl.HsCheck(root, "hi", sig[:at]+sig[at+1:]) {
				t.Errorf("a signature is taken with a byte too few in %s", hsPart(at))
			}
			if impl.HsCheck(root, "hi", sig[:at]+"\x00"+sig[at:]) || impl.HsCheck(root, "hi", sig[:at]+sig[at:at+1]+sig[at:]) {
				t.Errorf("a signature is taken with a byte too many in %s", hsPart(at))
			}
		}
		for _, more := range []string{"\x00", "x", sig[len(sig)-1:], sig[:8], sig[89:121], sig} {
			if impl.HsCheck(root, "hi", sig+more) || impl.HsCheck(root, "hi", more+sig) {
				t.Errorf("a signature is taken with %d bytes too many", len(more))
			}
		}
	}
}

// Another length is refused also under the root that such a path would lead to.
func TestHsCheckWithAPathOfAnotherLength(t *testing.T) {
	for leaf := range 4 {
		sig := impl.HsSign("seed", leaf, "hi")
		for length := range 80 {
			last := mixedBytes(uint32(50+length), length)
			path := []string{sig[89:121], last}
			root, ok := impl.PathRoot(impl.LeafHash(impl.HsPub("seed", leaf)), leaf, 4, path)
			if !ok {
				t.Fatalf("leaf %d has another path", leaf)
			}
			if got := impl.HsCheck(root, "hi", sig[:121]+last); got != (length == 32) {
				t.Errorf("HsCheck of leaf %d is %v with a path that ends with %d bytes", leaf, got, length)
			}
		}
	}
}

func TestHsCheckWithAByteBent(t *testing.T) {
	for msg := range evenTexts() {
		checkEachByteBent(t, "seed", msg)
	}
	for _, msg := range []string{"", "hi"} {
		checkEachByteBent(t, "", msg)
		checkEachByteBent(t, "seed", msg)
	}
}

func checkEachByteBent(t *testing.T, seed string, msg string) {
	t.Helper()
	root := impl.HsRoot(seed)
	for leaf := range 4 {
		sig := impl.HsSign(seed, leaf, msg)
		for at := range len(sig) {
			for bit := range 8 {
				bent := putAt(sig, at, string([]byte{sig[at] ^ 1<<bit}))
				if impl.HsCheck(root, msg, bent) {
					t.Errorf("leaf %d of seed %q is taken for %q with bit %d of byte %d bent, in %s", leaf, seed, msg, bit, at, hsPart(at))
				}
			}
		}
	}
}

func TestHsCheckWithAnotherLeaf(t *testing.T) {
	root := impl.HsRoot("seed")
	for leaf := range 4 {
		sig := impl.HsSign("seed", leaf, "hi")
		for other := range 256 {
			got := impl.HsCheck(root, "hi", putAt(sig, 88, string([]byte{byte(other)})))
			if got != (other == leaf) {
				t.Errorf("HsCheck of leaf %d's signature with the byte %d is %v", leaf, other, got)
			}
		}
	}
}

// A byte that is no leaf's is refused also under the root that the path would lead to from a longer list.
func TestHsCheckWithNoLeafInAGreaterTree(t *testing.T) {
	digits := wantDigits("hi")
	for n := 5; n <= impl.MaxLeaves; n++ {
		for leaf := 4; leaf < n; leaf++ {
			leaves := unlikeLeaves(n)
			leaves[leaf] = handPub("seed", leaf)
			path := impl.TreePath(leaves, leaf)
			if len(path) != 2 {
				continue
			}
			sig := ""
			for c := range 11 {
				sig += handWalk(c, handSecret("seed", leaf, c), []int{1, 2, 3}[:digits[c]]...)
			}
			sig += string([]byte{byte(leaf)}) + path[0] + path[1]
			if !impl.Includes(impl.TreeRoot(leaves), handPub("seed", leaf), leaf, n, path) {
				t.Fatalf("leaf %d of %d is not included", leaf, n)
			}
			if impl.HsCheck(impl.TreeRoot(leaves), "hi", sig) {
				t.Errorf("leaf %d of %d is taken", leaf, n)
			}
		}
	}
}

func TestHsCheckWithPartsInOtherPlaces(t *testing.T) {
	root := impl.HsRoot("seed")
	for leaf := range 4 {
		sig := impl.HsSign("seed", leaf, "hi")
		for a := range 11 {
			for b := range a {
				first, second := sig[8*a:8*a+8], sig[8*b:8*b+8]
				if impl.HsCheck(root, "hi", putAt(putAt(sig, 8*a, second), 8*b, first)) {
					t.Errorf("leaf %d is taken with chains %d and %d swapped", leaf, a, b)
				}
			}
			for other := range 4 {
				part := impl.HsSign("seed", other, "hi")[8*a : 8*a+8]
				if other != leaf && impl.HsCheck(root, "hi", putAt(sig, 8*a, part)) {
					t.Errorf("leaf %d is taken with chain %d of leaf %d", leaf, a, other)
				}
			}
			for _, part := range []string{impl.HsSign("other", leaf, "hi")[8*a : 8*a+8], strings.Repeat("\x00", 8), sig[89:97]} {
				if impl.HsCheck(root, "hi", putAt(sig, 8*a, part)) {
					t.Errorf("leaf %d is taken with chain %d from elsewhere", leaf, a)
				}
			}
		}
		if impl.HsCheck(root, "hi", sig[:89]+sig[121:]+sig[89:121]) {
			t.Errorf("leaf %d is taken with the path's hashes swapped", leaf)
		}
		for other := range 4 {
			if other != leaf && impl.HsCheck(root, "hi", sig[:89]+impl.HsSign("seed", other, "hi")[89:]) {
				t.Errorf("leaf %d is taken with the path of leaf %d", leaf, other)
			}
		}
	}
}

func TestHsCheckOfWhatIsNoSignature(t *testing.T) {
	roots := []string{"", impl.Sha(""), impl.HsRoot(""), impl.HsRoot("seed")}
	signatures := []string{"", "\x00", impl.HsSign("seed", -1, "hi"), impl.HsSign("seed", 4, "hi"), impl.HsRoot("seed"), "seed"}
	for length := range 400 {
		signatures = append(signatures, strings.Repeat("\x00", length), mixedBytes(uint32(length), length))
	}
	for _, root := range roots {
		for _, sig := range signatures {
			for _, msg := range []string{"", "hi"} {
				if impl.HsCheck(root, msg, sig) {
					t.Errorf("HsCheck(%x, %q, %x) is true", root, msg, sig)
				}
			}
		}
	}
}

func TestHsFromManyAtOnce(t *testing.T) {
	root := impl.HsRoot("seed")
	var wait sync.WaitGroup
	for range 8 {
		wait.Go(func() {
			for _, msg := range hsTexts() {
				for leaf := range 4 {
					if !impl.HsCheck(root, msg, impl.HsSign("seed", leaf, msg)) || impl.HsCheck(impl.HsRoot("other"), msg, impl.HsSign("seed", leaf, msg)) {
						t.Errorf("leaf %d and %.40q were answered otherwise", leaf, msg)
					}
				}
			}
		})
	}
	wait.Wait()
}
