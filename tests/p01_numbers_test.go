package tests

import (
	"encoding/binary"
	"encoding/hex"
	"fmt"
	"math"
	"strings"
	"testing"

	"loop.example/g00946/impl"
)

// P1: each Read tells only what its Show makes, and Show of that is the text.

// sampleNumbers are numbers around every place where a width or a count of digits changes.
func sampleNumbers() []int {
	l := []int{math.MinInt, math.MinInt + 1, math.MaxInt - 1, math.MaxInt, impl.MaxVar - 1, impl.MaxVar, impl.MaxVar + 1}
	for bit := range 63 {
		for d := -2; d <= 2; d++ {
			l = append(l, 1<<bit+d, -(1<<bit)+d)
		}
	}
	for p, i := 1, 0; i < 18; p, i = p*10, i+1 {
		for d := -2; d <= 2; d++ {
			l = append(l, p+d, -p+d)
		}
	}
	for n := -600; n <= 70000; n++ {
		l = append(l, n)
	}
	return l
}

// shortTexts calls f with every text of at most two bytes.
func shortTexts(f func(s string)) {
	f("")
	for a := range 256 {
		f(string([]byte{byte(a)}))
		for b := range 256 {
			f(string([]byte{byte(a), byte(b)}))
		}
	}
}

// wantFixed is what the document asks of Fixed, worked out another way.
func wantFixed(n int, width int) string {
	if width < 1 || width > 7 || n < 0 || n > 1<<(8*width)-1 {
		return ""
	}
	all := binary.BigEndian.AppendUint64(nil, uint64(n))
	return string(all[8-width:])
}

func TestFixedTellsTheBytes(t *testing.T) {
	for _, width := range []int{math.MinInt, -8, -1, 0, 1, 2, 3, 4, 5, 6, 7, 8, 9, 64, math.MaxInt} {
		for _, n := range sampleNumbers() {
			want := wantFixed(n, width)
			if got := impl.Fixed(n, width); got != want {
				t.Fatalf("Fixed(%d, %d) = %q, want %q", n, width, got, want)
			}
		}
	}
}

func TestFixedEdges(t *testing.T) {
	cases := []struct {
		n, width int
		want     string
	}{
		{0, 1, "\x00"},
		{255, 1, "\xff"},
		{256, 1, ""},
		{258, 2, "\x01\x02"},
		{65535, 2, "\xff\xff"},
		{65536, 2, ""},
		{1, 7, "\x00\x00\x00\x00\x00\x00\x01"},
		{1<<56 - 1, 7, "\xff\xff\xff\xff\xff\xff\xff"},
		{1 << 56, 7, ""},
		{math.MaxInt, 7, ""},
		{0, 0, ""},
		{0, 8, ""},
		{0, -1, ""},
		{-1, 1, ""},
		{-1, 7, ""},
		{math.MinInt, 7, ""},
		{math.MinInt, math.MinInt, ""},
	}
	for _, c := range cases {
		if got := impl.Fixed(c.n, c.width); got != c.want {
			t.Errorf("Fixed(%d, %d) = %q, want %q", c.n, c.width, got, c.want)
		}
	}
}

func TestReadFixedTellsWhatFixedMakes(t *testing.T) {
	for _, n := range sampleNumbers() {
		for width := 1; width <= 7; width++ {
			s := impl.Fixed(n, width)
			if s == "" {
				continue
			}
			for _, behind := range []string{"", "\x00", "\xffz"} {
				if got, ok := impl.ReadFixed(s+behind, width); got != n || !ok {
					t.Fatalf("ReadFixed(%q, %d) = %d, %v, want %d", s+behind, width, got, ok, n)
				}
			}
			if got, ok := impl.ReadFixed(s[:width-1], width); got != 0 || ok {
				t.Fatalf("ReadFixed(%q, %d) = %d, %v of a text that is too short", s[:width-1], width, got, ok)
			}
		}
	}
}

func TestReadFixedShownAgainIsTheText(t *testing.T) {
	shortTexts(func(s string) {
		for width := -1; width <= 8; width++ {
			n, ok := impl.ReadFixed(s, width)
			if want := width >= 1 && width <= 7 && len(s) >= width; ok != want {
				t.Fatalf("ReadFixed(%q, %d) says %v", s, width, ok)
			}
			if ok && impl.Fixed(n, width) != s[:width] {
				t.Fatalf("ReadFixed(%q, %d) = %d, of which Fixed makes %q", s, width, n, impl.Fixed(n, width))
			}
			if !ok && n != 0 {
				t.Fatalf("ReadFixed(%q, %d) = %d beside false", s, width, n)
			}
		}
	})
}

func TestReadFixedEdges(t *testing.T) {
	long := strings.Repeat("\xff", 9)
	cases := []struct {
		s     string
		width int
		want  int
		ok    bool
	}{
		{"\x01\x02\x03", 2, 258, true},
		{"\x00", 1, 0, true},
		{long, 1, 255, true},
		{long, 7, 1<<56 - 1, true},
		{long[:7], 7, 1<<56 - 1, true},
		{long[:6], 7, 0, false},
		{long, 0, 0, false},
		{long, 8, 0, false},
		{long, 9, 0, false},
		{long, -1, 0, false},
		{long, math.MinInt, 0, false},
		{long, math.MaxInt, 0, false},
		{"", 1, 0, false},
		{"", 0, 0, false},
	}
	for _, c := range cases {
		if got, ok := impl.ReadFixed(c.s, c.width); got != c.want || ok != c.ok {
			t.Errorf("ReadFixed(%q, %d) = %d, %v, want %d, %v", c.s, c.width, got, ok, c.want, c.ok)
		}
	}
}

func TestMaxVar(t *testing.T) {
	if impl.MaxVar != 1<<49-1 {
		t.Errorf("MaxVar is %d", impl.MaxVar)
	}
}

func TestVarTellsTheBytes(t *testing.T) {
	for _, n := range sampleNumbers() {
		want := ""
		if n >= 0 && n <= impl.MaxVar {
			want = string(binary.AppendUvarint(nil, uint64(n)))
		}
		if got := impl.Var(n); got != want {
			t.Fatalf("Var(%d) = %q, want %q", n, got, want)
		}
	}
}

func TestVarEdges(t *testing.T) {
	cases := []struct {
		n    int
		want string
	}{
		{0, "\x00"},
		{127, "\x7f"},
		{128, "\x80\x01"},
		{300, "\xac\x02"},
		{16383, "\xff\x7f"},
		{16384, "\x80\x80\x01"},
		{impl.MaxVar, "\xff\xff\xff\xff\xff\xff\x7f"},
		{impl.MaxVar + 1, ""},
		{math.MaxInt, ""},
		{-1, ""},
		{math.MinInt, ""},
	}
	for _, c := range cases {
		if got := impl.Var(c.n); got != c.want {
			t.Errorf("Var(%d) = %q, want %q", c.n, got, c.want)
		}
	}
}

func TestReadVarTellsWhatVarMakes(t *testing.T) {
	for _, n := range sampleNumbers() {
		s := impl.Var(n)
		if s == "" {
			continue
		}
		for _, behind := range []string{"", "\x00", "\x80", "\xff\x01z"} {
			if got, k := impl.ReadVar(s + behind); got != n || k != len(s) {
				t.Fatalf("ReadVar(%q) = %d, %d, want %d, %d", s+behind, got, k, n, len(s))
			}
		}
		for cut := range len(s) {
			if got, k := impl.ReadVar(s[:cut]); got != 0 || k != 0 {
				t.Fatalf("ReadVar(%q) = %d, %d of a text that is cut off", s[:cut], got, k)
			}
		}
		// The same number with bytes that add nothing: the last one goes on, noughts stand behind it.
		open := s[:len(s)-1] + string([]byte{s[len(s)-1] | 128})
		for more := range 9 {
			needless := open + strings.Repeat("\x80", more) + "\x00"
			if got, k := impl.ReadVar(needless); got != 0 || k != 0 {
				t.Fatalf("ReadVar(%q) = %d, %d of a text with needless bytes", needless, got, k)
			}
		}
	}
}

func TestReadVarShownAgainIsTheText(t *testing.T) {
	// Which short texts there are of Var, by Var alone.
	made := map[string]int{}
	for n := range 128 * 128 {
		made[impl.Var(n)] = n
	}
	shortTexts(func(s string) {
		wantN, wantK := 0, 0
		for k := 1; k <= len(s); k++ {
			if n, ok := made[s[:k]]; ok {
				wantN, wantK = n, k
			}
		}
		if n, k := impl.ReadVar(s); n != wantN || k != wantK {
			t.Fatalf("ReadVar(%q) = %d, %d, want %d, %d", s, n, k, wantN, wantK)
		}
	})
}

func TestReadVarEdges(t *testing.T) {
	cases := []struct {
		s       string
		n, size int
	}{
		{"\xac\x02z", 300, 2},
		{"\x00\x00", 0, 1},
		{"\x7f", 127, 1},
		{"\xff\xff\xff\xff\xff\xff\x7f", impl.MaxVar, 7},
		{"\xff\xff\xff\xff\xff\xff\x7f\x7f", impl.MaxVar, 7},
		{"\x80\x80\x80\x80\x80\x80\x01", 1 << 42, 7},
		{"", 0, 0},
		{"\x80", 0, 0},
		{"\xff\xff\xff\xff\xff\xff\xff", 0, 0},
		{"\x80\x00", 0, 0},
		{"\x81\x80\x00", 0, 0},
		{"\x80\x80\x80\x80\x80\x80\x00", 0, 0},
		// A byte too many: one above MaxVar, and numbers that fit but are made too long.
		{"\x80\x80\x80\x80\x80\x80\x80\x01", 0, 0},
		{"\xff\xff\xff\xff\xff\xff\xff\x00", 0, 0},
		{"\xff\xff\xff\xff\xff\xff\xff\x01", 0, 0},
		{"\x80\x80\x80\x80\x80\x80\x80\x00", 0, 0},
		// Ten bytes make the lowest bits come round again in 64 bits.
		{"\x80\x80\x80\x80\x80\x80\x80\x80\x80\x01", 0, 0},
		{"\x80\x80\x80\x80\x80\x80\x80\x80\x80\x02", 0, 0},
		{strings.Repeat("\xff", 40) + "\x01", 0, 0},
	}
	for _, c := range cases {
		if n, size := impl.ReadVar(c.s); n != c.n || size != c.size {
			t.Errorf("ReadVar(%q) = %d, %d, want %d, %d", c.s, n, size, c.n, c.size)
		}
	}
}

// allBytes is each byte there is, once.
func allBytes() string {
	b := make([]byte, 256)
	for i := range b {
		b[i] = byte(i)
	}
	return string(b)
}

func TestHexTellsTheDigits(t *testing.T) {
	for _, s := range []string{"", "a", "\x00", "\xff", "a\xff", "\x0f\xf0", allBytes(), strings.Repeat(allBytes(), 300)} {
		want := hex.EncodeToString([]byte(s))
		if got := impl.Hex(s); got != want {
			t.Errorf("Hex of %d bytes %.20q is %.40q, want %.40q", len(s), s, got, want)
		}
		if got, ok := impl.Unhex(want); got != s || !ok {
			t.Errorf("Unhex(%.40q) = %.20q, %v", want, got, ok)
		}
	}
}

func TestUnhexShownAgainIsTheText(t *testing.T) {
	made := map[string]string{"": ""}
	for a := range 256 {
		s := string([]byte{byte(a)})
		made[impl.Hex(s)] = s
	}
	if len(made) != 257 {
		t.Fatalf("Hex makes %d texts of 257", len(made))
	}
	shortTexts(func(s string) {
		want, wantOk := made[s]
		if got, ok := impl.Unhex(s); got != want || ok != wantOk {
			t.Fatalf("Unhex(%q) = %q, %v, want %q, %v", s, got, ok, want, wantOk)
		}
	})
}

func TestUnhexWrong(t *testing.T) {
	for _, s := range []string{"6", "616", "6F", "F6", "6a6A", "0g", "g0", "61 1", " 61", "61\n", "0x", "-1", "6/", "6:", "6`", "\x00\x00", "é", "6161616g", "g6616161"} {
		if got, ok := impl.Unhex(s); got != "" || ok {
			t.Errorf("Unhex(%q) = %q, %v", s, got, ok)
		}
	}
}

func TestDecTellsTheDigits(t *testing.T) {
	for _, n := range sampleNumbers() {
		if got, want := impl.Dec(n), fmt.Sprint(n); got != want {
			t.Fatalf("Dec(%d) = %q, want %q", n, got, want)
		}
	}
	if got := impl.Dec(math.MinInt); got != "-9223372036854775808" {
		t.Errorf("Dec of the least int is %q", got)
	}
	if got := impl.Dec(0); got != "0" {
		t.Errorf("Dec(0) = %q", got)
	}
}

func TestReadDecTellsWhatDecMakes(t *testing.T) {
	for _, n := range sampleNumbers() {
		want, wantOk := n, true
		if n > 999999999 || n < -999999999 {
			want, wantOk = 0, false
		}
		s := impl.Dec(n)
		if got, ok := impl.ReadDec(s); got != want || ok != wantOk {
			t.Fatalf("ReadDec(%q) = %d, %v, want %d, %v", s, got, ok, want, wantOk)
		}
	}
}

func TestReadDecShownAgainIsTheText(t *testing.T) {
	made := map[string]int{}
	for n := -9; n <= 99; n++ {
		made[impl.Dec(n)] = n
	}
	shortTexts(func(s string) {
		want, wantOk := made[s]
		if got, ok := impl.ReadDec(s); got != want || ok != wantOk {
			t.Fatalf("ReadDec(%q) = %d, %v, want %d, %v", s, got, ok, want, wantOk)
		}
	})
}

func TestReadDecEdges(t *testing.T) {
	for s, want := range map[string]int{"0": 0, "-1": -1, "100": 100, "999999999": 999999999, "-999999999": -999999999, "123456789": 123456789, "-100000000": -100000000} {
		if got, ok := impl.ReadDec(s); got != want || !ok {
			t.Errorf("ReadDec(%q) = %d, %v", s, got, ok)
		}
	}
	wrong := []string{
		"", "-", "+", "--", "+-", "-0", "+0", "+1", "--1", "-+1", "1-",
		"00", "01", "-01", "000000001", "0000000001", "-0000000001",
		"1000000000", "-1000000000", "2147483648", "4294967296",
		"9223372036854775807", "-9223372036854775808", "9223372036854775808", "18446744073709551617",
		strings.Repeat("9", 1000), strings.Repeat("0", 1000) + "1",
		" 1", "1 ", "1\n", "1\x00", "1.0", "1e3", "0x1", "1_0", "1,0", "a", "\u0661", "\xff",
	}
	for _, s := range wrong {
		if got, ok := impl.ReadDec(s); got != 0 || ok {
			t.Errorf("ReadDec(%q) = %d, %v", s, got, ok)
		}
	}
}
