package tests

import (
	"crypto/sha256"
	"encoding/binary"
	"math"
	"slices"
	"strconv"
	"strings"
	"sync"
	"testing"
	"unsafe"

	"loop.example/g00946/impl"
)

// P7: ReadHeader takes what ShowHeader makes, and nothing else.

// firstHeader is a first header that is right.
func firstHeader() impl.Header {
	return impl.Header{Height: 1, Time: 300, Vals: "abcdefgh", Next: "ABCDEFGH", Data: "hi"}
}

// laterHeader is a header of that height that is right where the height is one of a later header.
func laterHeader(height int) impl.Header {
	return impl.Header{Height: height, Time: 300, Last: "01234567", Vals: "abcdefgh", Next: "ABCDEFGH", Data: "hi"}
}

// headerAt is a right header of that height, if there is one.
func headerAt(height int) impl.Header {
	if height == 1 {
		return firstHeader()
	}
	return laterHeader(height)
}

// bytesFrom are n bytes that rise from b on.
func bytesFrom(b byte, n int) string {
	out := make([]byte, n)
	for i := range out {
		out[i] = b + byte(i)
	}
	return string(out)
}

// edgeNumbers are the numbers around 0, the limit of Height and of Time, the places where a Var grows, and the ends of all numbers.
func edgeNumbers() []int {
	return []int{math.MinInt, math.MinInt + 1, -1 << 32, -1000000, -128, -2, -1, 0, 1, 2, 3, 7, 8, 99, 127, 128, 129, 255, 256, 300,
		16383, 16384, 16385, 999999, 1000000, 1000001, 1000002, 2097151, 2097152, 1 << 32, 1<<32 + 1, 1<<32 + 2,
		impl.MaxVar, impl.MaxVar + 1, math.MaxInt - 1, math.MaxInt}
}

func rightHeaders() []impl.Header {
	var l []impl.Header
	for _, height := range []int{1, 2, 3, 127, 128, 129, 16383, 16384, 999999, 1000000} {
		for _, time := range []int{0, 1, 127, 128, 16383, 16384, 999999, 1000000} {
			h := headerAt(height)
			h.Time = time
			l = append(l, h)
		}
	}
	for _, height := range []int{1, 2, 1000000} {
		for size := range 21 {
			for _, data := range []string{bytesFrom(0, size), bytesFrom(250, size), strings.Repeat("\x00", size), strings.Repeat("\xff", size), strings.Repeat("\x80", size)} {
				h := headerAt(height)
				h.Data = data
				l = append(l, h)
			}
		}
		for _, hash := range []string{strings.Repeat("\x00", 8), strings.Repeat("\xff", 8), strings.Repeat("\x08", 8), bytesFrom(0, 8), bytesFrom(252, 8), "\u00e4\u00f6\u00fc\u00df"} {
			h := headerAt(height)
			h.Vals, h.Next = hash, hash
			if height > 1 {
				h.Last = hash
			}
			l = append(l, h)
		}
	}
	return l
}

// wrongHeaders are headers that are not right, by what is wrong with them.
func wrongHeaders() map[string]impl.Header {
	wrong := map[string]impl.Header{"the zero one": {}}
	put := func(name string, h impl.Header, bend func(h *impl.Header)) {
		bend(&h)
		wrong[name+", Height "+strconv.Itoa(h.Height)] = h
	}
	for _, n := range edgeNumbers() {
		if n < 1 || n > 1000000 {
			put("as a first one", firstHeader(), func(h *impl.Header) { h.Height = n })
			put("as a later one", laterHeader(2), func(h *impl.Header) { h.Height = n })
		}
		if n < 0 || n > 1000000 {
			for _, height := range []int{1, 2, 1000000} {
				put("Time "+strconv.Itoa(n), headerAt(height), func(h *impl.Header) { h.Time = n })
			}
		}
	}
	for _, height := range []int{1, 2, 3, 257, 1000000} {
		for _, size := range []int{0, 1, 7, 8, 9, 16, 20, 32, 128, 136, 256, 264, 1000} {
			s := bytesFrom(1, size)
			if height == 1 && size != 0 || height != 1 && size != 8 {
				put("Last of "+strconv.Itoa(size), headerAt(height), func(h *impl.Header) { h.Last = s })
			}
			if size != 8 {
				put("Vals of "+strconv.Itoa(size), headerAt(height), func(h *impl.Header) { h.Vals = s })
				put("Next of "+strconv.Itoa(size), headerAt(height), func(h *impl.Header) { h.Next = s })
			}
			if size > 20 {
				put("Data of "+strconv.Itoa(size), headerAt(height), func(h *impl.Header) { h.Data = s })
			}
		}
		put("Data of 21", headerAt(height), func(h *impl.Header) { h.Data = strings.Repeat("a", 21) })
		put("Data of 21 noughts", headerAt(height), func(h *impl.Header) { h.Data = strings.Repeat("\x00", 21) })
		put("8 characters that are 16 bytes as Vals", headerAt(height), func(h *impl.Header) { h.Vals = strings.Repeat("\u00e4", 8) })
		put("20 characters that are 40 bytes as Data", headerAt(height), func(h *impl.Header) { h.Data = strings.Repeat("\u00e4", 20) })
		put("Vals and Next lent to each other", headerAt(height), func(h *impl.Header) { h.Vals, h.Next = "abcdefg", "ABCDEFGHI" })
	}
	return wrong
}

// wantHeaderText is the text of a header, whether it is right or not (with numbers below 0 as no bytes).
func wantHeaderText(h impl.Header) string {
	var s []byte
	for _, n := range []int{h.Height, h.Time} {
		if n >= 0 {
			s = binary.AppendUvarint(s, uint64(n))
		}
	}
	for _, field := range []string{h.Last, h.Vals, h.Next, h.Data} {
		s = binary.AppendUvarint(s, uint64(len(field)))
		s = append(s, field...)
	}
	return string(s)
}

// wantHeaderOk goes by the words of the document, one at a time.
func wantHeaderOk(h impl.Header) bool {
	height := 1 <= h.Height && h.Height <= 1000000
	time := 0 <= h.Time && h.Time <= 1000000
	last := h.Height == 1 && h.Last == "" || h.Height != 1 && len(h.Last) == 8
	return height && time && last && len(h.Vals) == 8 && len(h.Next) == 8 && len(h.Data) <= 20
}

// cutNumber cuts a number in as few bytes as it needs off a text.
func cutNumber(s string) (int, string, bool) {
	n, size := binary.Uvarint([]byte(s[:min(len(s), 10)]))
	if size <= 0 || n > impl.MaxVar || len(binary.AppendUvarint(nil, n)) != size {
		return 0, "", false
	}
	return int(n), s[size:], true
}

// wantHeaderRead reads field by field and refuses at the first fault; it makes no text to hold against the one it was given.
func wantHeaderRead(s string) (impl.Header, bool) {
	var h impl.Header
	for _, n := range []*int{&h.Height, &h.Time} {
		var ok bool
		if *n, s, ok = cutNumber(s); !ok {
			return impl.Header{}, false
		}
	}
	for _, field := range []*string{&h.Last, &h.Vals, &h.Next, &h.Data} {
		size, behind, ok := cutNumber(s)
		if !ok || size > len(behind) {
			return impl.Header{}, false
		}
		*field, s = behind[:size], behind[size:]
	}
	if s != "" || !wantHeaderOk(h) {
		return impl.Header{}, false
	}
	return h, true
}

// checkHeaderRead holds what ReadHeader tells of any text against the reader above and against ShowHeader, and tells whether it was read.
func checkHeaderRead(t *testing.T, s string) bool {
	t.Helper()
	got, ok := impl.ReadHeader(s)
	if want, wantOk := wantHeaderRead(s); got != want || ok != wantOk {
		t.Errorf("ReadHeader(%.80x) is %#v, %v, want %#v, %v", s, got, ok, want, wantOk)
	}
	if !ok && got != (impl.Header{}) {
		t.Errorf("ReadHeader(%.80x) is %#v and false", s, got)
	}
	if ok && (!impl.HeaderOk(got) || impl.ShowHeader(got) != s) {
		t.Errorf("ReadHeader(%.80x) is %#v, of which ShowHeader makes %x", s, got, impl.ShowHeader(got))
	}
	return ok
}

func TestHeaderNumbers(t *testing.T) {
	if impl.MaxHeight != 1000000 || impl.MaxTime != 1000000 {
		t.Errorf("MaxHeight is %d, MaxTime is %d", impl.MaxHeight, impl.MaxTime)
	}
}

// headersByHand are headers and their texts, byte by byte.
func headersByHand() map[string]impl.Header {
	return map[string]impl.Header{
		"\x01\x00\x00\x08abcdefgh\x08ABCDEFGH\x00":                                                 {Height: 1, Vals: "abcdefgh", Next: "ABCDEFGH"},
		"\x01\xac\x02\x00\x08abcdefgh\x08ABCDEFGH\x02hi":                                           {Height: 1, Time: 300, Vals: "abcdefgh", Next: "ABCDEFGH", Data: "hi"},
		"\x02\x01\x0801234567\x08abcdefgh\x08ABCDEFGH\x01x":                                        {Height: 2, Time: 1, Last: "01234567", Vals: "abcdefgh", Next: "ABCDEFGH", Data: "x"},
		"\x7f\x7f\x08\x00\x00\x00\x00\x00\x00\x00\x00\x08abcdefgh\x08ABCDEFGH\x00":                 {Height: 127, Time: 127, Last: strings.Repeat("\x00", 8), Vals: "abcdefgh", Next: "ABCDEFGH"},
		"\x80\x01\x80\x01\x0801234567\x08\xff\xff\xff\xff\xff\xff\xff\xff\x08ABCDEFGH\x02\x00\xff": {Height: 128, Time: 128, Last: "01234567", Vals: strings.Repeat("\xff", 8), Next: "ABCDEFGH", Data: "\x00\xff"},
		"\xff\x7f\xff\x7f\x0801234567\x08abcdefgh\x08\x08\x08\x08\x08\x08\x08\x08\x08\x01\x00":     {Height: 16383, Time: 16383, Last: "01234567", Vals: "abcdefgh", Next: strings.Repeat("\x08", 8), Data: "\x00"},
		"\x80\x80\x01\x80\x80\x01\x0801234567\x08abcdefgh\x08ABCDEFGH\x01\xff":                     {Height: 16384, Time: 16384, Last: "01234567", Vals: "abcdefgh", Next: "ABCDEFGH", Data: "\xff"},
		"\xc0\x84\x3d\xc0\x84\x3d\x0801234567\x08abcdefgh\x08ABCDEFGH\x14aaaaabbbbbcccccddddd":     {Height: 1000000, Time: 1000000, Last: "01234567", Vals: "abcdefgh", Next: "ABCDEFGH", Data: "aaaaabbbbbcccccddddd"},
		"\x01\xc0\x84\x3d\x00\x08abcdefgh\x08ABCDEFGH\x14aaaaabbbbbcccccddddd":                     {Height: 1, Time: 1000000, Vals: "abcdefgh", Next: "ABCDEFGH", Data: "aaaaabbbbbcccccddddd"},
		"\x01\x01\x00\x08abcdefgh\x08abcdefgh\x09\x00\x08abcdefg":                                  {Height: 1, Time: 1, Vals: "abcdefgh", Next: "abcdefgh", Data: "\x00\x08abcdefg"},
	}
}

func TestHeadersByHand(t *testing.T) {
	for want, h := range headersByHand() {
		if !impl.HeaderOk(h) {
			t.Errorf("HeaderOk(%#v) is false", h)
		}
		if got := impl.ShowHeader(h); got != want {
			t.Errorf("ShowHeader(%#v) is %x, want %x", h, got, want)
		}
		if got, ok := impl.ReadHeader(want); !ok || got != h {
			t.Errorf("ReadHeader(%x) is %#v, %v, want %#v", want, got, ok, h)
		}
	}
}

func TestHeadersBothWays(t *testing.T) {
	for _, h := range rightHeaders() {
		s := impl.ShowHeader(h)
		if want := wantHeaderText(h); !impl.HeaderOk(h) || s != want {
			t.Errorf("ShowHeader(%#v) is %x, want %x", h, s, want)
		}
		if got, ok := impl.ReadHeader(s); !ok || got != h {
			t.Errorf("ReadHeader(%x) is %#v, %v, want %#v", s, got, ok, h)
		}
	}
}

// All numbers around the limits, and where a Var grows, and some of those between.
func TestHeadersOfEachNumber(t *testing.T) {
	for n := -300; n <= 1000300; n++ {
		if n > 40000 && n < 990000 && n%97 != 0 {
			continue
		}
		h := headerAt(n)
		if got, want := impl.HeaderOk(h), 1 <= n && n <= 1000000; got != want {
			t.Fatalf("HeaderOk of Height %d is %v", n, got)
		}
		if n > 1 && n <= 1000000 {
			h.Time = 1000000 - n
		}
		if n >= 0 {
			checkHeaderRead(t, wantHeaderText(h))
		}
		h = firstHeader()
		h.Time = n
		if got, want := impl.HeaderOk(h), 0 <= n && n <= 1000000; got != want {
			t.Fatalf("HeaderOk of Time %d is %v", n, got)
		}
	}
}

// A first header alone has no Last, and it alone.
func TestHeaderLast(t *testing.T) {
	for height := 1; height <= 300; height++ {
		for size := range 300 {
			h := headerAt(height)
			h.Last = bytesFrom(byte(height), size)
			want := height == 1 && size == 0 || height > 1 && size == 8
			if got := impl.HeaderOk(h); got != want {
				t.Errorf("HeaderOk of Height %d with a Last of %d bytes is %v", height, size, got)
			}
			if got := impl.ShowHeader(h) != ""; got != want {
				t.Errorf("Height %d with a Last of %d bytes is shown: %v", height, size, got)
			}
			if got := checkHeaderRead(t, wantHeaderText(h)); got != want {
				t.Errorf("Height %d with a Last of %d bytes is read: %v", height, size, got)
			}
		}
	}
}

func TestHeaderFieldsOfEachLength(t *testing.T) {
	for _, height := range []int{1, 2, 1000000} {
		for size := range 600 {
			s := bytesFrom(byte(size), size)
			vals, next, data := headerAt(height), headerAt(height), headerAt(height)
			vals.Vals, next.Next, data.Data = s, s, s
			for name, c := range map[string]struct {
				h    impl.Header
				want bool
			}{"Vals": {vals, size == 8}, "Next": {next, size == 8}, "Data": {data, size <= 20}} {
				if got := impl.HeaderOk(c.h); got != c.want {
					t.Errorf("HeaderOk of Height %d with %s of %d bytes is %v", height, name, size, got)
				}
				if got := checkHeaderRead(t, wantHeaderText(c.h)); got != c.want {
					t.Errorf("Height %d with %s of %d bytes is read: %v", height, name, size, got)
				}
			}
		}
	}
}

// Of what is not right each function gives its one answer, and the text that it would have is not read.
func TestHeadersThatAreNotRight(t *testing.T) {
	for name, h := range wrongHeaders() {
		if impl.HeaderOk(h) {
			t.Errorf("%s: HeaderOk is true", name)
		}
		if got := impl.ShowHeader(h); got != "" {
			t.Errorf("%s: ShowHeader is %x", name, got)
		}
		if got := impl.HeadId(h); got != "" {
			t.Errorf("%s: HeadId is %x", name, got)
		}
		if h.Height >= 0 && h.Time >= 0 && checkHeaderRead(t, wantHeaderText(h)) {
			t.Errorf("%s: its text is read", name)
		}
	}
}

// Fields that are right and fields that are not, in all ways beside each other.
func TestHeadersOfMixedFields(t *testing.T) {
	found := map[bool]int{}
	texts := []string{"", "1234567", "12345678", "123456789", "abcdefgh", bytesFrom(0, 20), bytesFrom(0, 21)}
	for _, height := range []int{-1, 0, 1, 2, 1000000, 1000001} {
		for _, time := range []int{-1, 0, 1000000, 1000001} {
			for i := range len(texts) * len(texts) * len(texts) * len(texts) {
				at := func(power int) string { return texts[i/power%len(texts)] }
				h := impl.Header{Height: height, Time: time, Last: at(1), Vals: at(7), Next: at(49), Data: at(343)}
				want, wantText, wantId := wantHeaderOk(h), "", ""
				if want {
					wantText = wantHeaderText(h)
					sum := sha256.Sum256([]byte(wantText))
					wantId = string(sum[:8])
				}
				if impl.HeaderOk(h) != want || impl.ShowHeader(h) != wantText || impl.HeadId(h) != wantId {
					t.Fatalf("%#v: %v, %x, %x, want %v, %x, %x", h, impl.HeaderOk(h), impl.ShowHeader(h), impl.HeadId(h), want, wantText, wantId)
				}
				checkHeaderRead(t, wantHeaderText(h))
				found[want]++
			}
		}
	}
	if found[true] < 100 || found[false] < 100 {
		t.Errorf("%d were right and %d not: too few to tell", found[true], found[false])
	}
}

func TestReadHeaderWrong(t *testing.T) {
	const behind = "\x08abcdefgh\x08ABCDEFGH\x02hi"
	const most = "\xff\xff\xff\xff\xff\xff\x7f"
	wrong := map[string]string{
		"empty":                                  "",
		"Height alone":                           "\x01",
		"Height 0":                               "\x00\x01\x00" + behind,
		"Height 0, with a Last":                  "\x00\x01\x0801234567" + behind,
		"Height 1000001":                         "\xc1\x84\x3d\x01\x0801234567" + behind,
		"Height 1000001, with no Last":           "\xc1\x84\x3d\x01\x00" + behind,
		"Height MaxVar":                          most + "\x01\x0801234567" + behind,
		"Height that is no Var":                  "\xff" + most + "\x01\x0801234567" + behind,
		"Height that does not end":               "\x81",
		"Time 1000001":                           "\x01\xc1\x84\x3d\x00" + behind,
		"Time MaxVar":                            "\x01" + most + "\x00" + behind,
		"Time that is no Var":                    "\x01\xff" + most + "\x00" + behind,
		"Time that does not end":                 "\x01\x81",
		"no Time":                                "\x01\x00" + behind,
		"a byte too many in Height":              "\x81\x00\x01\x00" + behind,
		"a byte too many in a later Height":      "\x82\x00\x01\x0801234567" + behind,
		"a byte too many in 1000000":             "\xc0\x84\xbd\x00\x01\x0801234567" + behind,
		"a byte too many in Time":                "\x01\x81\x00\x00" + behind,
		"a byte too many in Time 0":              "\x01\x80\x00\x00" + behind,
		"a byte too many in the size of no Last": "\x01\x01\x80\x00" + behind,
		"a byte too many in the size of Last":    "\x02\x01\x88\x0001234567" + behind,
		"a byte too many in the size of Vals":    "\x01\x01\x00\x88\x00abcdefgh\x08ABCDEFGH\x02hi",
		"a byte too many in the size of Next":    "\x01\x01\x00\x08abcdefgh\x88\x00ABCDEFGH\x02hi",
		"a byte too many in the size of Data":    "\x01\x01\x00\x08abcdefgh\x08ABCDEFGH\x82\x00hi",
		"a byte too many in the size of no Data": "\x01\x01\x00\x08abcdefgh\x08ABCDEFGH\x80\x00",
		"two bytes too many":                     "\x01\x01\x00\x08abcdefgh\x08ABCDEFGH\x82\x80\x00hi",
		"a size of Data that does not end":       "\x01\x01\x00\x08abcdefgh\x08ABCDEFGH\x82",
		"no size of Data":                        "\x01\x01\x00\x08abcdefgh\x08ABCDEFGH",
		"a byte of Data that is not there":       "\x01\x01\x00\x08abcdefgh\x08ABCDEFGH\x03hi",
		"20 bytes of Data that are not there":    "\x01\x01\x00\x08abcdefgh\x08ABCDEFGH\x14",
		"a byte of Next that is not there":       "\x01\x01\x00\x08abcdefgh\x08ABCDEFG",
		"Vals that are not there":                "\x01\x01\x00\x08",
		"Last that is not there":                 "\x02\x01\x08",
		"MaxVar bytes of Data":                   "\x01\x01\x00\x08abcdefgh\x08ABCDEFGH" + most + "hi",
		"MaxVar bytes of Last":                   "\x02\x01" + most + "01234567" + behind,
		"MaxVar bytes of Vals":                   "\x01\x01\x00" + most + "abcdefgh\x08ABCDEFGH\x02hi",
		"a first one with a Last":                "\x01\x01\x0801234567" + behind,
		"a first one with a Last of a byte":      "\x01\x01\x01x" + behind,
		"a later one with no Last":               "\x02\x01\x00" + behind,
		"a later one with a Last of 7":           "\x02\x01\x070123456" + behind,
		"a later one with a Last of 9":           "\x02\x01\x09012345678" + behind,
		"Vals of 0":                              "\x01\x01\x00\x00\x08ABCDEFGH\x02hi",
		"Vals of 7":                              "\x01\x01\x00\x07abcdefg\x08ABCDEFGH\x02hi",
		"Vals of 9":                              "\x01\x01\x00\x09abcdefghi\x08ABCDEFGH\x02hi",
		"Next of 0":                              "\x01\x01\x00\x08abcdefgh\x00\x02hi",
		"Next of 7":                              "\x01\x01\x00\x08abcdefgh\x07ABCDEFG\x02hi",
		"Next of 9":                              "\x01\x01\x00\x08abcdefgh\x09ABCDEFGHI\x02hi",
		"Data of 21":                             "\x01\x01\x00\x08abcdefgh\x08ABCDEFGH\x15aaaaabbbbbcccccddddde",
		"Data of 148, whose size ends as 20":     "\x01\x01\x00\x08abcdefgh\x08ABCDEFGH\x94\x01" + strings.Repeat("a", 148),
		"a byte more":                            "\x01\x01\x00" + behind + "x",
		"a byte 0 more":                          "\x01\x01\x00" + behind + "\x00",
		"a byte ahead":                           "\x00\x01\x01\x00" + behind,
		"a field more":                           "\x01\x01\x00" + behind + "\x02hi",
		"twice":                                  "\x01\x01\x00" + behind + "\x01\x01\x00" + behind,
		"with no sizes":                          "\x01\x01abcdefghABCDEFGHhi",
		"its Hex":                                impl.Hex("\x01\x01\x00" + behind),
		"long":                                   "\x01\x01\x00" + behind + strings.Repeat("\x01", 100000),
		"a long Last":                            "\x02\x01\xa0\x8d\x06" + strings.Repeat("\x08", 100000) + behind,
		"long and no Var":                        strings.Repeat("\xff", 100000),
		"noughts":                                strings.Repeat("\x00", 100),
		"ones":                                   strings.Repeat("\x01", 100),
		"eights":                                 strings.Repeat("\x08", 100),
	}
	for name, s := range wrong {
		if got, ok := impl.ReadHeader(s); ok || got != (impl.Header{}) {
			t.Errorf("%s: ReadHeader(%.80x) is %#v, %v", name, s, got, ok)
		}
		if checkHeaderRead(t, s) {
			t.Errorf("%s: it is read", name)
		}
	}
	if right := "\x01\x01\x00" + behind; !checkHeaderRead(t, right) || !checkHeaderRead(t, "\x02\x01\x0801234567"+behind) {
		t.Error("what these texts were made of is not read")
	}
}

// headersToBend are headers of every shape; their texts are bent at each byte.
func headersToBend() []impl.Header {
	l := []impl.Header{firstHeader(), laterHeader(2), laterHeader(128), laterHeader(1000000)}
	for _, h := range headersByHand() {
		l = append(l, h)
	}
	return l
}

func TestReadHeaderOfBentTexts(t *testing.T) {
	for _, h := range headersToBend() {
		s := impl.ShowHeader(h)
		for end := range len(s) {
			if checkHeaderRead(t, s[:end]) {
				t.Errorf("%x, the first %d bytes of %x, is read", s[:end], end, s)
			}
		}
		for more := range 256 {
			if checkHeaderRead(t, s+string([]byte{byte(more)})) {
				t.Errorf("%x and a byte %d is read", s, more)
			}
		}
		for at := range len(s) {
			for other := range 256 {
				bent := []byte(s)
				bent[at] = byte(other)
				if got, ok := impl.ReadHeader(string(bent)); ok && got == h && byte(other) != s[at] {
					t.Errorf("%x is read as %x is", bent, s)
				}
				checkHeaderRead(t, string(bent))
				checkHeaderRead(t, string(slices.Insert([]byte(s), at, byte(other))))
			}
			checkHeaderRead(t, s[:at]+s[at+1:])
		}
	}
}

// Each number of a text with a byte too many is refused, however many such bytes it is.
func TestReadHeaderOfNeedlessBytes(t *testing.T) {
	for _, h := range headersToBend() {
		parts := []string{string(binary.AppendUvarint(nil, uint64(h.Height))), string(binary.AppendUvarint(nil, uint64(h.Time)))}
		for _, field := range []string{h.Last, h.Vals, h.Next, h.Data} {
			parts = append(parts, string(binary.AppendUvarint(nil, uint64(len(field)))), field)
		}
		if got := strings.Join(parts, ""); got != impl.ShowHeader(h) {
			t.Fatalf("the parts of %#v are %x", h, got)
		}
		for _, place := range []int{0, 1, 2, 4, 6, 8} {
			long := []byte(parts[place])
			for range 9 {
				long[len(long)-1] |= 128
				long = append(long, 0)
				with := slices.Clone(parts)
				with[place] = string(long)
				if s := strings.Join(with, ""); checkHeaderRead(t, s) {
					t.Errorf("%x, with needless bytes in number %d, is read", s, place)
				}
			}
		}
	}
}

// Texts of any bytes behind a right beginning are read only where they are a header's.
func TestReadHeaderOfMixedTexts(t *testing.T) {
	for start := range 20000 {
		s := mixedBytes(uint32(start), start%40)
		checkHeaderRead(t, s)
		checkHeaderRead(t, "\x01\x01\x00"+s)
		checkHeaderRead(t, "\x02\x01\x0801234567\x08abcdefgh\x08ABCDEFGH"+s)
	}
	shortTexts(func(s string) {
		if checkHeaderRead(t, s) {
			t.Errorf("%x is read", s)
		}
		want := len(s) > 0 && int(s[0]) == len(s)-1
		if got := checkHeaderRead(t, "\x01\x01\x00\x08abcdefgh\x08ABCDEFGH"+s); got != want {
			t.Errorf("a header that ends with %x is read: %v", s, got)
		}
	})
}

// Two headers that are unlike in any field have unlike texts and names.
func TestHeadersThatAreUnlike(t *testing.T) {
	byText, byId := map[string]impl.Header{}, map[string]impl.Header{}
	for _, h := range append(rightHeaders(), headersToBend()...) {
		s, id := impl.ShowHeader(h), impl.HeadId(h)
		if other, ok := byText[s]; ok && other != h {
			t.Errorf("%#v and %#v have one text", other, h)
		}
		if other, ok := byId[id]; ok && other != h {
			t.Errorf("%#v and %#v have one name", other, h)
		}
		byText[s], byId[id] = h, h
	}
}

func TestHeadIdIsShortOfTheText(t *testing.T) {
	for _, h := range rightHeaders() {
		sum := sha256.Sum256([]byte(wantHeaderText(h)))
		got := impl.HeadId(h)
		if got != string(sum[:8]) || got != impl.Short(impl.ShowHeader(h)) {
			t.Errorf("HeadId(%#v) is %x, want %x", h, got, sum[:8])
		}
	}
}

// What is wanted here was worked out outside Go, with no part of the program.
func TestHeadIdKnown(t *testing.T) {
	known := map[string]impl.Header{
		"27e7d12788c3a169": {Height: 1, Vals: "abcdefgh", Next: "ABCDEFGH"},
		"1cc475070e3dca75": {Height: 2, Time: 300, Last: "01234567", Vals: "abcdefgh", Next: "ABCDEFGH", Data: "hi"},
		"73625c057b5eff90": {Height: 1000000, Time: 1000000, Last: strings.Repeat("\xff", 8), Vals: strings.Repeat("\x00", 8), Next: strings.Repeat("\x80", 8), Data: bytesFrom(0, 20)},
	}
	for want, h := range known {
		if got := impl.Hex(impl.HeadId(h)); got != want {
			t.Errorf("HeadId(%#v) is %s, want %s", h, got, want)
		}
	}
}

// A chain of headers by their names: each Last is a HeadId, and no first header names one.
func TestHeadersHangOnEachOther(t *testing.T) {
	h := firstHeader()
	for height := 2; height <= 50; height++ {
		next := impl.Header{Height: height, Time: h.Time + height, Last: impl.HeadId(h), Vals: h.Next, Next: impl.Short(impl.Dec(height)), Data: impl.Dec(height)}
		if got, ok := impl.ReadHeader(impl.ShowHeader(next)); !impl.HeaderOk(next) || !ok || got != next {
			t.Errorf("the header of Height %d is %#v, %v", height, got, ok)
		}
		next.Height = 1
		if impl.HeaderOk(next) {
			t.Errorf("a first header with the Last of Height %d is right", height)
		}
		next.Height, next.Last = height, ""
		if impl.HeaderOk(next) {
			t.Errorf("a header of Height %d without a Last is right", height)
		}
		next.Last = impl.HeadId(h)
		h = next
	}
}

// sharesMemory tells whether part stands inside the bytes of all.
func sharesMemory(part string, all string) bool {
	if len(part) == 0 || len(all) == 0 {
		return false
	}
	at, from := uintptr(unsafe.Pointer(unsafe.StringData(part))), uintptr(unsafe.Pointer(unsafe.StringData(all)))
	return at >= from && at < from+uintptr(len(all))
}

func TestHeadersOwnTheirMemory(t *testing.T) {
	for _, h := range headersToBend() {
		s := impl.ShowHeader(h)
		for _, field := range []string{h.Last, h.Vals, h.Next, h.Data} {
			if sharesMemory(s, field) {
				t.Errorf("ShowHeader(%#v) shares the header's memory", h)
			}
		}
		got, _ := impl.ReadHeader(s)
		for _, field := range []string{got.Last, got.Vals, got.Next, got.Data} {
			if sharesMemory(field, s) {
				t.Errorf("ReadHeader(%x) shares the text's memory", s)
			}
		}
	}
}

func TestHeadersFromManyAtOnce(t *testing.T) {
	right, wrong := rightHeaders(), wrongHeaders()
	var wait sync.WaitGroup
	for range 8 {
		wait.Go(func() {
			for _, h := range right {
				if got, ok := impl.ReadHeader(impl.ShowHeader(h)); !ok || got != h || len(impl.HeadId(h)) != 8 {
					t.Errorf("%#v was answered otherwise", h)
				}
			}
			for name, h := range wrong {
				if impl.HeaderOk(h) || impl.ShowHeader(h) != "" {
					t.Errorf("%s was answered otherwise", name)
				}
			}
		})
	}
	wait.Wait()
}
