package tests

import (
	"crypto/sha256"
	"encoding/binary"
	"math/big"
	"math/bits"
	"strings"
	"sync"
	"testing"

	"loop.example/g00946/impl"
)

// P3: Sha is SHA-256.

// rootBits are the first 32 bits behind the point of the square or cube root of p:
// the root of p with 32 bits more a time that it is multiplied.
func rootBits(p int, power int) uint32 {
	want := new(big.Int).Lsh(big.NewInt(int64(p)), uint(32*power))
	root := new(big.Int)
	for bit := 40; bit >= 0; bit-- {
		root.SetBit(root, bit, 1)
		if new(big.Int).Exp(root, big.NewInt(int64(power)), nil).Cmp(want) > 0 {
			root.SetBit(root, bit, 0)
		}
	}
	return uint32(root.Uint64())
}

func firstPrimes(n int) []int {
	var primes []int
	for k := 2; len(primes) < n; k++ {
		prime := true
		for _, p := range primes {
			prime = prime && k%p != 0
		}
		if prime {
			primes = append(primes, k)
		}
	}
	return primes
}

// shaWords256 are the starting words and the round words of FIPS 180-4, sections 5.3.3 and 4.2.2.
func shaWords256() ([8]uint32, [64]uint32) {
	var start [8]uint32
	var round [64]uint32
	for i, p := range firstPrimes(64) {
		if i < 8 {
			start[i] = rootBits(p, 2)
		}
		round[i] = rootBits(p, 3)
	}
	return start, round
}

// padded is section 5.1.1: a bit 1, the fewest noughts to 448 of 512 bits, and the length in 64 bits.
func padded(s string) []byte {
	m := append([]byte(s), 0x80)
	for len(m)*8%512 != 448 {
		m = append(m, 0)
	}
	return binary.BigEndian.AppendUint64(m, uint64(len(s))*8)
}

func turnRight(x uint32, n int) uint32 { return bits.RotateLeft32(x, -n) }

// wantSha is section 6.2.2, in the letters of the standard.
func wantSha(s string) string {
	hash, round := shaWords256()
	m := padded(s)
	for block := 0; block < len(m); block += 64 {
		var w [64]uint32
		for t := 0; t < 16; t++ {
			w[t] = binary.BigEndian.Uint32(m[block+4*t:])
		}
		for t := 16; t < 64; t++ {
			s0 := turnRight(w[t-15], 7) ^ turnRight(w[t-15], 18) ^ w[t-15]>>3
			s1 := turnRight(w[t-2], 17) ^ turnRight(w[t-2], 19) ^ w[t-2]>>10
			w[t] = s1 + w[t-7] + s0 + w[t-16]
		}
		a, b, c, d, e, f, g, h := hash[0], hash[1], hash[2], hash[3], hash[4], hash[5], hash[6], hash[7]
		for t := 0; t < 64; t++ {
			sum1 := turnRight(e, 6) ^ turnRight(e, 11) ^ turnRight(e, 25)
			t1 := h + sum1 + (e&f ^ ^e&g) + round[t] + w[t]
			sum0 := turnRight(a, 2) ^ turnRight(a, 13) ^ turnRight(a, 22)
			t2 := sum0 + (a&b ^ a&c ^ b&c)
			h, g, f, e, d, c, b, a = g, f, e, d+t1, c, b, a, t1+t2
		}
		for i, x := range []uint32{a, b, c, d, e, f, g, h} {
			hash[i] += x
		}
	}
	var out []byte
	for _, x := range hash {
		out = binary.BigEndian.AppendUint32(out, x)
	}
	return string(out)
}

// checkSha holds Sha and Short of a text against the library, which TestShaAsTheStandardWritesIt holds against the standard.
func checkSha(t *testing.T, s string) {
	t.Helper()
	sum := sha256.Sum256([]byte(s))
	want := string(sum[:])
	if got := impl.Sha(s); got != want {
		t.Fatalf("Sha of %d bytes %.40q is %x, want %x", len(s), s, got, want)
	}
	if got := impl.Short(s); got != want[:8] {
		t.Fatalf("Short of %d bytes %.40q is %x, want %x", len(s), s, got, want[:8])
	}
}

// mixedBytes are n bytes of every kind, the same ones for the same start.
func mixedBytes(start uint32, n int) string {
	out := make([]byte, n)
	for i := range out {
		start = start*1664525 + 1013904223
		out[i] = byte(start >> 24)
	}
	return string(out)
}

func TestShaKnown(t *testing.T) {
	cases := []struct{ s, want string }{
		{"", "e3b0c44298fc1c149afbf4c8996fb92427ae41e4649b934ca495991b7852b855"},
		{"abc", "ba7816bf8f01cfea414140de5dae2223b00361a396177a9cb410ff61f20015ad"},
		{"abcdbcdecdefdefgefghfghighijhijkijkljklmklmnlmnomnopnopq",
			"248d6a61d20638b8e5c026930c3e6039a33ce45964ff2167f6ecedd419db06c1"},
		{"abcdefghbcdefghicdefghijdefghijkefghijklfghijklmghijklmnhijklmnoijklmnopjklmnopqklmnopqrlmnopqrsmnopqrstnopqrstu",
			"cf5b16a778af8380036ce59e7b0492370b249b11e8f07a51afac45037afee9d1"},
		{strings.Repeat("a", 1000), "41edece42d63e8d9bf515a9ba6932e1c20cbc9f5a5d134645adb5db1b9737ea3"},
		{strings.Repeat("a", 1000000), "cdc76e5c9914fb9281a1c7e284d73e67f1809a48a497200e046d39ccc7112cd0"},
		{"\xbd", "68325720aabd7c82f30f554b313d0570c95accbb7dc4b5aae11204c08ffe732b"},
		{"\xc9\x8c\x8e\x55", "7abc22c0ae5af26ce93dbb94433a0e0b2e119d014f8e7f65bd56c61ccccd9504"},
		{strings.Repeat("\x00", 55), "02779466cdec163811d078815c633f21901413081449002f24aa3e80f0b88ef7"},
		{strings.Repeat("\x00", 56), "d4817aa5497628e7c77e6b606107042bbba3130888c5f47a375e6179be789fbb"},
		{strings.Repeat("\x00", 57), "65a16cb7861335d5ace3c60718b5052e44660726da4cd13bb745381b235a1785"},
		{strings.Repeat("\x00", 64), "f5a5fd42d16a20302798ef6ed309979b43003d2320d9f0e8ea9831a92759fb4b"},
	}
	for _, c := range cases {
		if got := impl.Hex(impl.Sha(c.s)); got != c.want {
			t.Errorf("Sha of %d bytes %.40q is %s, want %s", len(c.s), c.s, got, c.want)
		}
		if got := impl.Hex(impl.Short(c.s)); got != c.want[:16] {
			t.Errorf("Short of %d bytes %.40q is %s, want %s", len(c.s), c.s, got, c.want[:16])
		}
	}
}

func TestShaAsTheStandardWritesIt(t *testing.T) {
	for n := 0; n <= 200; n++ {
		for _, s := range []string{mixedBytes(uint32(n), n), strings.Repeat("\x00", n), strings.Repeat("\xff", n)} {
			want := wantSha(s)
			if got := impl.Sha(s); got != want {
				t.Fatalf("Sha of %d bytes %.40q is %x, want %x", n, s, got, want)
			}
			if got := impl.Short(s); got != want[:8] {
				t.Fatalf("Short of %d bytes %.40q is %x, want %x", n, s, got, want[:8])
			}
			checkSha(t, s)
		}
	}
}

// The lengths at which a block ends, or the length of the text no longer has room in it, with a text of every kind.
func TestShaAroundTheEndsOfBlocks(t *testing.T) {
	for _, block := range []int{0, 64, 128, 192, 64 * 100, 64 * 511, 64 * 512} {
		for _, more := range []int{0, 1, 31, 32, 54, 55, 56, 57, 62, 63, 64, 65} {
			n := block + more
			checkSha(t, strings.Repeat("\x00", n))
			checkSha(t, strings.Repeat("\x80", n))
			checkSha(t, strings.Repeat("\xff", n))
			checkSha(t, strings.Repeat("a", n))
			checkSha(t, strings.Repeat("€", n)[:n])
			checkSha(t, mixedBytes(uint32(n), n))
		}
	}
}

func TestShaOfShortTexts(t *testing.T) {
	shortTexts(func(s string) { checkSha(t, s) })
}

func TestShaOfAllKindsOfTexts(t *testing.T) {
	for _, s := range sumTexts() {
		for _, s := range []string{s, "\x00" + s, s + "\x00", "\xc3" + s, s + "\xf0\x9f", s + "\x80", s + "\x80\x00", s + s} {
			checkSha(t, s)
		}
	}
}

// A text that is what another one becomes when it is filled up has a hash of its own.
func TestShaOfAFilledText(t *testing.T) {
	for n := 0; n <= 130; n++ {
		s := mixedBytes(uint32(n), n)
		filled := string(padded(s))
		checkSha(t, filled)
		checkSha(t, filled[:len(filled)-8])
		if impl.Sha(filled) == impl.Sha(s) {
			t.Fatalf("a text of %d bytes and its filled one have the same Sha", n)
		}
	}
}

// One bit set, at each place of a text of one, two and three blocks: none is left out or counted at another place.
func TestShaOfEachBit(t *testing.T) {
	seen := map[string]int{}
	for _, n := range []int{55, 56, 64, 130} {
		for place := range 8 * n {
			b := make([]byte, n)
			b[place/8] = 1 << (place % 8)
			checkSha(t, string(b))
			seen[impl.Sha(string(b))]++
		}
	}
	if want := 8 * (55 + 56 + 64 + 130); len(seen) != want {
		t.Errorf("%d texts have %d hashes", want, len(seen))
	}
}

func TestShaOfTheLength(t *testing.T) {
	seen := map[string]int{}
	for n := range 600 {
		seen[impl.Sha(strings.Repeat("\x00", n))]++
	}
	if len(seen) != 600 {
		t.Errorf("600 lengths have %d hashes", len(seen))
	}
}

// The length in bits goes over one, two, three and four bytes.
func TestShaOfLongTexts(t *testing.T) {
	for _, n := range []int{1<<5 - 1, 1 << 5, 1<<13 - 1, 1 << 13, 1<<13 + 1, 1<<21 - 1, 1 << 21, 1<<21 + 55, 1<<21 + 56} {
		checkSha(t, mixedBytes(uint32(n), n))
	}
}

// The same bytes, got in several ways, and other texts hashed between them.
func TestShaDependsOnTheTextAlone(t *testing.T) {
	for n := 0; n <= 200; n++ {
		s := mixedBytes(uint32(n)+7, n)
		want := impl.Sha(s)
		same := []string{
			string([]byte(s)), strings.Clone(s), strings.Join(strings.Split(s, ""), ""),
			("\xff" + s + "\xff")[1 : 1+n],
			(strings.Repeat("z", 1001) + s + strings.Repeat("\x80", 200))[1001 : 1001+n],
		}
		for i, text := range same {
			impl.Sha("between" + text)
			impl.Short(strings.Repeat("\xff", n+i))
			if got := impl.Sha(text); got != want {
				t.Fatalf("Sha of %d bytes got in way %d is %x, ahead it was %x", n, i, got, want)
			}
			if got := impl.Short(text); got != want[:8] {
				t.Fatalf("Short of %d bytes got in way %d is %x, ahead it was %x", n, i, got, want[:8])
			}
		}
	}
}

func TestShaOfShaOfSha(t *testing.T) {
	s, want := "", ""
	for range 1000 {
		s = impl.Sha(s)
		sum := sha256.Sum256([]byte(want))
		want = string(sum[:])
		if s != want {
			t.Fatalf("Sha is %x, want %x", s, want)
		}
	}
}

func TestShaFromManyAtOnce(t *testing.T) {
	var wait sync.WaitGroup
	for k := range 8 {
		wait.Go(func() {
			for n := range 200 {
				s := mixedBytes(uint32(k), n)
				sum := sha256.Sum256([]byte(s))
				if got := impl.Sha(s); got != string(sum[:]) {
					t.Errorf("Sha of %d bytes is %x, want %x", n, got, sum)
				}
			}
		})
	}
	wait.Wait()
}
