package tests

import (
	"hash/crc32"
	"strings"
	"sync"
	"testing"

	"loop.example/g00946/impl"
)

// P2: a sum depends on the bytes alone.

// wantCrc is the sum bit by bit, as the document words it.
func wantCrc(s string) int {
	c := 4294967295
	for i := 0; i < len(s); i++ {
		c ^= int(s[i])
		for bit := 0; bit < 8; bit++ {
			odd := c%2 == 1
			c /= 2
			if odd {
				c ^= 2197175160
			}
		}
	}
	return 4294967295 - c
}

func checkCrc(t *testing.T, s string) {
	t.Helper()
	if got, want := impl.Crc(s), wantCrc(s); got != want {
		t.Fatalf("Crc of %d bytes %.40q is %d, want %d", len(s), s, got, want)
	}
}

// sumTexts are texts in which bytes and characters go together in every way that there is.
func sumTexts() []string {
	return []string{
		"", "a", "abc", "123456789", "\x00", "\xff", "\x80", "\x7f",
		"é", "éa", "aé", "€", "a€b", "\U0001f600", "x\U0001f600", "\U0001f600x", "é€\U0001f600",
		// The character that a range tells of bytes that are none, itself, and beside such bytes.
		"\ufffd", "\xff\ufffd", "\ufffd\xff", "\xef\xbf", "\xef", "\xbf\xbd", "\xef\xbf\xbd\xbd",
		// Characters that are cut off, stray bytes of them, and some written too long.
		"\xc3", "\xa9", "a\xc3", "\xc3a", "\xe2\x82", "\xe2\x82a", "\xf0\x9f\x98", "\xf0\x9f\x98a", "\x80\x80\x80\x80",
		"\xc0\x80", "\xe0\x80\x80", "\xed\xa0\x80", "\xf4\x90\x80\x80", "\xf8\x88\x80\x80\x80", "\xfe\xff",
		"\ufeff", "\ufeffabc", "\U0010ffff",
		allBytes(), strings.Repeat("é€\U0001f600\xff", 50), strings.Repeat("\x00", 300), strings.Repeat("\xff", 300),
	}
}

func TestCrcKnown(t *testing.T) {
	rising := allBytes()[:32]
	falling := make([]byte, 32)
	for i := range falling {
		falling[i] = byte(31 - i)
	}
	cases := []struct {
		s    string
		want int
	}{
		{"", 0},
		{"123456789", 3808858755},
		{strings.Repeat("\x00", 32), 0x8a9136aa},
		{strings.Repeat("\xff", 32), 0x62a8ab43},
		{rising, 0x46dd794e},
		{string(falling), 0x113fdb5c},
	}
	for _, c := range cases {
		if got := impl.Crc(c.s); got != c.want {
			t.Errorf("Crc(%q) = %d, want %d", c.s, got, c.want)
		}
	}
}

func TestCrcOfShortTexts(t *testing.T) {
	single := map[int]bool{}
	shortTexts(func(s string) {
		checkCrc(t, s)
		if len(s) == 1 {
			single[impl.Crc(s)] = true
		}
	})
	if len(single) != 256 {
		t.Errorf("the single bytes have %d sums of 256", len(single))
	}
}

func TestCrcOfAllKindsOfTexts(t *testing.T) {
	table := crc32.MakeTable(crc32.Castagnoli)
	for _, s := range sumTexts() {
		checkCrc(t, s)
		for _, s := range []string{"\x00" + s, s + "\x00", "a" + s, s + "a", "\xc3" + s, s + "\xf0\x9f", s + s} {
			checkCrc(t, s)
			if got, want := impl.Crc(s), int(crc32.Checksum([]byte(s), table)); got != want {
				t.Fatalf("Crc(%.40q) = %d, the library's is %d", s, got, want)
			}
		}
	}
}

// Each byte stands at each place of a character, so that none is left out there.
func TestCrcOfEachByteInsideOthers(t *testing.T) {
	for b := range 256 {
		mid := string([]byte{byte(b)})
		for _, ahead := range []string{"", "a", "\xc3", "\xe2", "\xe2\x82", "\xf0", "\xf0\x9f", "\xf0\x9f\x98"} {
			for _, behind := range []string{"", "a", "\x80", "\xff", "\xc3\xa9"} {
				checkCrc(t, ahead+mid+behind)
			}
		}
	}
}

func TestCrcOfEachCharacter(t *testing.T) {
	for r := rune(0); r <= 0x10ffff; r += 7 {
		checkCrc(t, string(r)+"z")
	}
}

func TestCrcOfOneBitTurned(t *testing.T) {
	for _, s := range sumTexts() {
		sum := impl.Crc(s)
		for place := range 8 * len(s) {
			b := []byte(s)
			b[place/8] ^= 1 << (place % 8)
			if impl.Crc(string(b)) == sum {
				t.Fatalf("Crc(%.40q) stays when bit %d of byte %d is turned", s, place%8, place/8)
			}
		}
	}
}

func TestCrcOfTheLastBit(t *testing.T) {
	for _, ahead := range sumTexts() {
		for b := 0; b < 256; b += 2 {
			even, odd := ahead+string([]byte{byte(b)}), ahead+string([]byte{byte(b + 1)})
			checkCrc(t, even)
			checkCrc(t, odd)
			if impl.Crc(even) == impl.Crc(odd) {
				t.Fatalf("Crc(%.40q) and Crc(%.40q) are alike", even, odd)
			}
		}
	}
}

func TestCrcCountsNoughts(t *testing.T) {
	for _, s := range []string{"", "a", "é", "\xff", "123456789"} {
		ahead, behind := map[int]bool{}, map[int]bool{}
		for k := range 200 {
			noughts := strings.Repeat("\x00", k)
			checkCrc(t, noughts+s)
			checkCrc(t, s+noughts)
			ahead[impl.Crc(noughts+s)] = true
			behind[impl.Crc(s+noughts)] = true
		}
		if len(ahead) != 200 || len(behind) != 200 {
			t.Errorf("200 counts of noughts ahead of and behind %q have %d and %d sums", s, len(ahead), len(behind))
		}
	}
}

func TestCrcOfLongTexts(t *testing.T) {
	checkCrc(t, mixedBytes(1, 1<<20+3))
	checkCrc(t, strings.Repeat("\x80", 1<<20))
	checkCrc(t, strings.Repeat("€", 1<<19))
	checkCrc(t, strings.Repeat("123456789", 1<<17))
}

// The same bytes, got in several ways, with other bytes around them in memory.
func TestCrcDependsOnTheBytesAlone(t *testing.T) {
	for _, s := range sumTexts() {
		want := impl.Crc(s)
		var built strings.Builder
		for i := range len(s) {
			built.WriteByte(s[i])
		}
		same := []string{
			string([]byte(s)), built.String(), strings.Clone(s), strings.Join(strings.Split(s, ""), ""),
			("\xc3" + s + "\xa9")[1 : 1+len(s)],
			("\xf0\x9f\x98" + s + "\x80\x80")[3 : 3+len(s)],
			(strings.Repeat("z", 1001) + s + "z")[1001 : 1001+len(s)],
		}
		for i, text := range same {
			if text != s {
				t.Fatalf("text %d is %q, not %q", i, text, s)
			}
			impl.Crc("between" + text)
			if got := impl.Crc(text); got != want {
				t.Fatalf("Crc(%.40q) got in way %d is %d, ahead it was %d", s, i, got, want)
			}
		}
	}
}

func TestCrcFromManyAtOnce(t *testing.T) {
	texts := sumTexts()
	var wait sync.WaitGroup
	for range 8 {
		wait.Go(func() {
			for _, s := range texts {
				if got, want := impl.Crc(s), wantCrc(s); got != want {
					t.Errorf("Crc(%.40q) = %d, want %d", s, got, want)
				}
			}
		})
	}
	wait.Wait()
}
