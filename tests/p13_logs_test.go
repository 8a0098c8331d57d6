package tests

import (
	"fmt"
	"math"
	"slices"
	"strconv"
	"strings"
	"sync"
	"testing"

	"loop.example/g00946/impl"
)

// P13: a log cut anywhere is read as records that were written first.

// withSum is any bytes with their sum ahead, whether a record is made of them or not.
func withSum(summed string) string {
	return wantFixed(wantCrc(summed), 4) + summed
}

// wantRec is a record by the words of the document. A count of at most 60 is a Var of one byte.
func wantRec(s string) string {
	if len(s) > 60 {
		return ""
	}
	return withSum(string([]byte{byte(len(s))}) + s)
}

// recsOf is the log of these texts, by the words of the document.
func recsOf(texts ...string) string {
	log := ""
	for _, s := range texts {
		log += wantRec(s)
	}
	return log
}

// wantAhead is the text with whose record a log begins, if there is one. It is looked for with each length that a text can have.
func wantAhead(log string) (string, bool) {
	for n := 0; n <= 60 && 5+n <= len(log); n++ {
		if s := log[5 : 5+n]; log[:5+n] == wantRec(s) {
			return s, true
		}
	}
	return "", false
}

func wantScan(log string) ([]string, int) {
	var texts []string
	at := 0
	for {
		s, ok := wantAhead(log[at:])
		if !ok {
			return texts, at
		}
		texts, at = append(texts, s), at+5+len(s)
	}
}

// checkTold holds WalScan and WalTrim against the texts that are wanted, and the place where they end.
func checkTold(t *testing.T, name string, log string, want []string, wantAt int) {
	t.Helper()
	given := strings.Clone(log)
	got, at := impl.WalScan(log)
	if !slices.Equal(got, want) || at != wantAt {
		t.Errorf("%s: WalScan tells %s up to %d, want %s up to %d, of %s", name, inShort(got), at, inShort(want), wantAt, inShort(log))
	}
	if trimmed := impl.WalTrim(log); trimmed != given[:wantAt] {
		t.Errorf("%s: WalTrim is %s, want %s", name, inShort(trimmed), inShort(given[:wantAt]))
	}
	if log != given {
		t.Errorf("%s: the log was written into", name)
	}
}

// checkScan holds them against the document's words, and against the sense of these: the log begins with the records
// of what is told, and behind them stands none.
func checkScan(t *testing.T, name string, log string) ([]string, int) {
	t.Helper()
	want, wantAt := wantScan(log)
	checkTold(t, name, log, want, wantAt)
	if recsOf(want...) != log[:wantAt] {
		t.Errorf("%s: the log does not begin with the records of %s", name, inShort(want))
	}
	return want, wantAt
}

func TestLogNumbers(t *testing.T) {
	if impl.MaxWal != 2000 || impl.MaxWalRec != 60 {
		t.Errorf("MaxWal is %d, MaxWalRec is %d", impl.MaxWal, impl.MaxWalRec)
	}
}

// What is wanted here was worked out outside Go, with no part of the program.
func TestRecordsKnown(t *testing.T) {
	known := []struct{ s, rec string }{
		{"", "\x52\x7d\x53\x51\x00"},
		{"\x00", "\xe2\xc3\xef\xa5\x01\x00"},
		{"\xff", "\x4f\xbe\xbc\xf4\x01\xff"},
		{"a", "\x71\x6e\xff\xc4\x01a"},
		{"hi", "\x2b\xf7\x5f\x67\x02hi"},
		{"ho", "\x0d\x56\xb8\x8f\x02ho"},
		{"123456789", "\x36\xb2\x9a\xe0\x09123456789"},
		{"é", "\xc5\xc1\x0b\x79\x02é"},
		{strings.Repeat("x", 60), "\x8d\xa2\xbf\xc3\x3c" + strings.Repeat("x", 60)},
		{strings.Repeat("\x00", 60), "\x3d\x64\x6b\xe6\x3c" + strings.Repeat("\x00", 60)},
		{bytesFrom(0, 60), "\x58\x06\x7a\x5c\x3c" + bytesFrom(0, 60)},
	}
	whole := ""
	var texts []string
	for _, k := range known {
		if got := impl.WalRec(k.s); got != k.rec {
			t.Errorf("WalRec(%q) is %q, want %q", k.s, got, k.rec)
		}
		checkTold(t, "one known", k.rec, []string{k.s}, len(k.rec))
		whole, texts = whole+k.rec, append(texts, k.s)
	}
	checkTold(t, "all known", whole, texts, len(whole))
	// The sums are right here too, but no WalRec is like this.
	checkTold(t, "2 with a byte more than it needs", "\xa1\x5c\x0f\x69\x82\x00hi", nil, 0)
	checkTold(t, "0 with a byte more than it needs", "\x0a\xa2\x8d\x2b\x80\x00", nil, 0)
	checkTold(t, "61 bytes", "\x75\x9c\x23\xba\x3d"+strings.Repeat("x", 61), nil, 0)
}

// recTexts are texts of every length around the limit, and of all kinds of bytes.
func recTexts() []string {
	l := sumTexts()
	for n := range 200 {
		l = append(l, strings.Repeat("\x00", n), strings.Repeat("\xff", n), bytesFrom(byte(n), n), mixedBytes(uint32(n), n))
	}
	for b := range 256 {
		l = append(l, string([]byte{byte(b)}), string([]byte{byte(b), 0}), string([]byte{0, byte(b)}))
	}
	return l
}

func TestRecordIsSumCountAndText(t *testing.T) {
	made := map[string]string{}
	for _, s := range recTexts() {
		got := impl.WalRec(s)
		if want := wantRec(s); got != want {
			t.Fatalf("WalRec of %d bytes %q is %q, want %q", len(s), s, got, want)
		}
		if (got == "") != (len(s) > impl.MaxWalRec) {
			t.Errorf("WalRec of %d bytes has %d", len(s), len(got))
		}
		if got == "" {
			continue
		}
		if summed := impl.Var(len(s)) + s; got != impl.Fixed(impl.Crc(summed), 4)+summed {
			t.Errorf("WalRec(%q) is not what Crc, Fixed and Var tell: %q", s, got)
		}
		if other, there := made[got]; there && other != s {
			t.Errorf("%q and %q have one record", s, other)
		}
		made[got] = s
		checkTold(t, "one record", got, []string{s}, len(got))
	}
}

func TestRecordEdges(t *testing.T) {
	for _, n := range []int{0, 1, 58, 59, 60} {
		if got := impl.WalRec(strings.Repeat("r", n)); len(got) != 5+n {
			t.Errorf("WalRec of %d bytes has %d", n, len(got))
		}
	}
	for _, n := range []int{61, 62, 120, 127, 128, 255, 256, 256 + 1, 256 + 60, 65536, 65536 + 60, 1 << 22} {
		if got := impl.WalRec(strings.Repeat("r", n)); got != "" {
			t.Errorf("WalRec of %d bytes is not empty: %.60q", n, got)
		}
	}
}

// written is the log that WalAdd makes of these texts; all of them must find room.
func written(t *testing.T, texts []string) string {
	t.Helper()
	log := ""
	for _, s := range texts {
		more, ok := impl.WalAdd(log, s)
		if !ok || more != log+wantRec(s) {
			t.Fatalf("WalAdd of %q behind %s is %s, %v", s, inShort(log), inShort(more), ok)
		}
		log = more
	}
	return log
}

// logTexts are what logs are written of: empty texts, short ones, such as are just as long as may be, alike ones, any bytes.
func logTexts() map[string][]string {
	sixty := strings.Repeat("s", 60)
	lists := map[string][]string{
		"none":            nil,
		"one empty":       {""},
		"empty ones":      {"", "", "", ""},
		"one byte":        {"a"},
		"bytes":           {"a", "b", "\x00", "\xff", "\x80", "\x01"},
		"noughts":         {"\x00", "", "\x00\x00", "", "\x00\x00\x00\x00"},
		"just so long":    {sixty, sixty, strings.Repeat("t", 60)},
		"almost so long":  {sixty[:59], sixty, sixty[:58]},
		"alike ones":      {"alike", "alike", "alike"},
		"every length":    {"", "1", "22", "333", "4444", "55555", "666666", "7777777"},
		"long, then none": {sixty, "", sixty, ""},
		"words":           {"one", "two", "three", "", "four and more", "é€\U0001f600", "\xff\xfe"},
		// What was written is told whole, also where it looks like a record itself, or like a piece of one.
		"a record inside one":   {wantRec("inner"), "outer"},
		"a log inside one":      {recsOf("a", "", "b"), recsOf("", "", "")},
		"pieces of records":     {wantRec("inner")[:4], wantRec("inner")[4:], wantRec("")[:4], "\x00"},
		"a torn one inside one": {wantRec("inner")[:7], wantRec("inner")[1:]},
		"counts":                {"\x3c", "\x3d", "\x7f", "\x80\x00", "\xff\xff\xff\xff\xff\xff\x7f"},
	}
	for start := range 12 {
		var mixed []string
		for i := range 10 {
			b := mixedBytes(uint32(start*10+i)*2654435761, 61)
			mixed = append(mixed, b[1:1+int(b[0])%61])
		}
		lists["mixed "+strconv.Itoa(start)] = mixed
	}
	return lists
}

// A log is cut at every place from none to all of its bytes.
func TestLogCutAnywhere(t *testing.T) {
	for name, texts := range logTexts() {
		log := written(t, texts)
		if log != recsOf(texts...) {
			t.Fatalf("%s: the log is %s", name, inShort(log))
		}
		whole, end := 0, 0
		for cut := range len(log) + 1 {
			for whole < len(texts) && end+5+len(texts[whole]) <= cut {
				end += 5 + len(texts[whole])
				whole++
			}
			at := fmt.Sprintf("%s, cut at %d", name, cut)
			checkTold(t, at, log[:cut], texts[:whole], end)
			checkAddedBehind(t, at, impl.WalTrim(log[:cut]), texts[:whole])
		}
		if whole != len(texts) || end != len(log) {
			t.Errorf("%s: only %d of %d records were looked for", name, whole, len(texts))
		}
	}
}

// checkAddedBehind writes more behind a log that was trimmed, and cuts that one too.
func checkAddedBehind(t *testing.T, name string, log string, texts []string) {
	t.Helper()
	for _, s := range []string{"", "n", "new", strings.Repeat("n", 60)} {
		more, ok := impl.WalAdd(log, s)
		if !ok {
			t.Errorf("%s: WalAdd refuses %q", name, s)
		}
		all := append(slices.Clone(texts), s)
		checkTold(t, name+", and more behind it", more, all, len(log)+5+len(s))
		checkTold(t, name+", and less than that behind it", more[:len(more)-1], texts, len(log))
	}
}

// A log that is not trimmed is torn for ever: what is put behind it is not told.
func TestLogAddedBehindATornOne(t *testing.T) {
	log := written(t, []string{"one", "", "three"})
	for cut := range len(log) + 1 {
		texts, at := checkScan(t, "torn", log[:cut])
		if at == cut {
			continue
		}
		more, ok := impl.WalAdd(log[:cut], "new")
		if !ok || more != log[:cut]+wantRec("new") {
			t.Errorf("WalAdd behind %d bytes is %q, %v", cut, more, ok)
		}
		checkTold(t, "behind a torn one", more, texts, at)
	}
}

// checkAdd holds WalAdd against the document's words.
func checkAdd(t *testing.T, name string, log string, s string) bool {
	t.Helper()
	givenLog, givenText := strings.Clone(log), strings.Clone(s)
	wantOk := len(s) <= 60 && len(log)+5+len(s) <= 2000
	want := log
	if wantOk {
		want = log + wantRec(s)
	}
	got, ok := impl.WalAdd(log, s)
	if got != want || ok != wantOk {
		t.Errorf("%s: WalAdd of %d bytes %.70q behind %d is %d bytes %s, %v, want %d bytes, %v", name, len(s), s, len(log), len(got), inShort(got), ok, len(want), wantOk)
	}
	if log != givenLog || s != givenText {
		t.Errorf("%s: WalAdd wrote into what it was given", name)
	}
	return ok
}

func TestLogAdd(t *testing.T) {
	logs := map[string]string{"nothing": "", "no record": "x", "noughts": strings.Repeat("\x00", 70), "any bytes": mixedBytes(5, 300), "a torn one": recsOf("a", "b")[:11]}
	for name, texts := range logTexts() {
		logs[name] = recsOf(texts...)
	}
	for name, log := range logs {
		for _, s := range []string{"", "a", "\x00", "\xff", "hi", wantRec("hi"), strings.Repeat("x", 59), strings.Repeat("x", 60)} {
			if !checkAdd(t, name, log, s) {
				t.Errorf("%s: WalAdd refuses %q", name, s)
			}
		}
		for _, n := range []int{61, 62, 128, 256, 316, 1 << 16} {
			if checkAdd(t, name, log, strings.Repeat("x", n)) {
				t.Errorf("%s: WalAdd takes %d bytes", name, n)
			}
		}
	}
}

// Each length of a log around the limit goes with each length of a text around its own.
func TestLogAddAtTheLimit(t *testing.T) {
	all := strings.Repeat(recsOf("one", "", "three"), 200)
	none := strings.Repeat("\x00", 3000)
	taken := 0
	for n := 1925; n <= 2075; n++ {
		for size := range 63 {
			s := strings.Repeat("l", size)
			if checkAdd(t, "at the limit", all[:n], s) {
				taken++
			}
			checkAdd(t, "at the limit, no records", none[:n], s)
		}
	}
	// From 1935 on a text of each length finds one place less; below that all of them do.
	if want := 10*61 + 61*62/2; taken != want {
		t.Errorf("%d were taken, want %d", taken, want)
	}
}

func TestLogAddByHand(t *testing.T) {
	cases := []struct {
		log  int
		text int
		ok   bool
	}{
		{1995, 0, true}, {1996, 0, false}, {1999, 0, false}, {2000, 0, false}, {2001, 0, false}, {5000, 0, false}, {1 << 20, 0, false},
		{1994, 1, true}, {1995, 1, false},
		{1935, 60, true}, {1936, 60, false}, {2000, 60, false},
		{1935, 61, false}, {0, 61, false}, {0, 60, true}, {1934, 61, false},
	}
	for _, c := range cases {
		if got := checkAdd(t, "by hand", strings.Repeat("b", c.log), strings.Repeat("t", c.text)); got != c.ok {
			t.Errorf("WalAdd of %d bytes behind %d is %v", c.text, c.log, got)
		}
	}
}

// A log is filled until no record is taken any more, by texts of each length; it is told whole, and cut at every place near its end.
func TestLogFilled(t *testing.T) {
	for size := range 61 {
		s := mixedBytes(uint32(size), size)
		log := ""
		count := 0
		for {
			more, ok := impl.WalAdd(log, s)
			if !ok {
				if more != log {
					t.Errorf("%d bytes each: a log that takes no more is not as it is", size)
				}
				break
			}
			log = more
			count++
		}
		if count != 2000/(5+size) {
			t.Errorf("%d bytes each: %d were taken", size, count)
		}
		checkTold(t, "filled", log, slices.Repeat([]string{s}, count), count*(5+size))
		checkTold(t, "filled, and cut", log[:len(log)-1], slices.Repeat([]string{s}, count-1), (count-1)*(5+size))
	}
	exact := written(t, append(slices.Repeat([]string{strings.Repeat("s", 60)}, 30), strings.Repeat("t", 40), ""))
	if len(exact) != 2000 {
		t.Fatalf("the log has %d bytes", len(exact))
	}
	for _, s := range []string{"", "a", strings.Repeat("a", 60), strings.Repeat("a", 61)} {
		if checkAdd(t, "just full", exact, s) {
			t.Errorf("behind a log that is full %q is taken", s)
		}
	}
	checkAddedBehind(t, "full, and trimmed", impl.WalTrim(exact[:1934]), slices.Repeat([]string{strings.Repeat("s", 60)}, 29))
}

// One byte of each record is made any other one, in the sum, in the count and in the text.
func TestLogWithOneByteChanged(t *testing.T) {
	for _, texts := range [][]string{{"one", "", "three", "z"}, {"", "", ""}, {"\x00", "\x00\x00", "\x00\x00\x00"}, {"alike", "alike"}, {strings.Repeat("s", 60), "x"}} {
		log := recsOf(texts...)
		hit, end := 0, 0
		for at := range len(log) {
			if at == end+5+len(texts[hit]) {
				hit, end = hit+1, at
			}
			for by := 1; by < 256; by++ {
				name := fmt.Sprintf("byte %d turned by %d", at, by)
				checkTold(t, name, turnedAt(log, at, byte(by)), texts[:hit], end)
			}
		}
	}
}

// Bytes that go missing, come in or stand twice, at every place.
func TestLogWithBytesMoved(t *testing.T) {
	log := recsOf("one", "", "three", "\x00", "", "é")
	for at := range len(log) + 1 {
		for _, n := range []int{1, 2, 4, 5, 8} {
			checkScan(t, "bytes are missing", log[:at]+log[min(at+n, len(log)):])
			checkScan(t, "noughts came in", log[:at]+strings.Repeat("\x00", n)+log[at:])
			checkScan(t, "bytes stand twice", log[:at]+log[max(at-n, 0):])
		}
		checkScan(t, "it begins later", log[at:])
		checkScan(t, "a record came in", log[:at]+wantRec("in")+log[at:])
		checkScan(t, "turned round", log[at:]+log[:at])
	}
}

// A record that is whole is not told where it stands behind one that is torn.
func TestLogWholeBehindTorn(t *testing.T) {
	for _, torn := range []string{"", "t", "torn", strings.Repeat("t", 60)} {
		rec := wantRec(torn)
		for cut := 1; cut < len(rec); cut++ {
			name := fmt.Sprintf("torn at %d", cut)
			checkTold(t, name, wantRec("ahead")+rec[:cut]+recsOf("whole", "more"), []string{"ahead"}, 10)
			checkTold(t, name, rec[:cut]+recsOf("whole", "more"), nil, 0)
		}
		for at := range len(rec) {
			name := fmt.Sprintf("bent at %d", at)
			checkTold(t, name, recsOf("ahead", "", "a")+turnedAt(rec, at, 1)+recsOf("whole", "more"), []string{"ahead", "", "a"}, 21)
		}
	}
	checkTold(t, "one stray byte", wantRec("a")+"\x00"+wantRec("b"), []string{"a"}, 6)
	checkTold(t, "a stray byte ahead", "\x00"+recsOf("a", "b"), nil, 0)
}

// A sum is cut after each of its bytes, and nothing stands behind it, or what may be taken for the rest.
func TestLogSumCut(t *testing.T) {
	for cut := range 5 {
		for _, s := range []string{"", "a", "hi", strings.Repeat("s", 60)} {
			rec := wantRec(s)
			log := wantRec("ahead") + rec[:cut]
			checkTold(t, "a sum that is cut", log, []string{"ahead"}, 10)
			checkTold(t, "a sum that is cut", rec[:cut], nil, 0)
			for _, more := range []string{"\x00", "\x00\x00", strings.Repeat("\x00", 70), "\xff", "\x02hi", rec[4:]} {
				if cut < 4 {
					checkTold(t, "a sum that is cut, and more", log+more, []string{"ahead"}, 10)
				}
			}
		}
	}
}

// Sums that are right for other bytes than those behind them.
func TestLogSumOfOther(t *testing.T) {
	fixed := func(summed string) string { return wantFixed(wantCrc(summed), 4) }
	reversed := []byte(fixed("\x02hi"))
	slices.Reverse(reversed)
	for name, sum := range map[string]string{
		"of the text alone":        fixed("hi"),
		"of the count alone":       fixed("\x02"),
		"of nothing":               fixed(""),
		"of the text, then count":  fixed("hi\x02"),
		"of another text":          fixed("\x02ho"),
		"of another count":         fixed("\x03hi"),
		"of a count in two bytes":  fixed("\x82\x00hi"),
		"of a count in four":       fixed("\x00\x00\x00\x02hi"),
		"of more than is there":    fixed("\x02hi\x00"),
		"the lowest byte first":    string(reversed),
		"noughts":                  "\x00\x00\x00\x00",
		"all bits":                 "\xff\xff\xff\xff",
		"without the last turning": wantFixed(4294967295-wantCrc("\x02hi"), 4),
	} {
		checkTold(t, name, sum+"\x02hi", nil, 0)
		checkTold(t, name, wantRec("a")+sum+"\x02hi"+wantRec("b"), []string{"a"}, 6)
	}
	checkTold(t, "its own", fixed("\x02hi")+"\x02hi", []string{"hi"}, 7)
}

// A count that is written with more bytes than it needs is none, though the sum is right.
func TestLogNeedlessBytes(t *testing.T) {
	for n := range 61 {
		s := mixedBytes(uint32(n), n)
		for needless := 1; needless <= 8; needless++ {
			count := string([]byte{byte(n) | 128}) + strings.Repeat("\x80", needless-1) + "\x00"
			log := withSum(count + s)
			checkTold(t, "a needless byte", log, nil, 0)
			checkTold(t, "a needless byte, among others", wantRec("a")+log+wantRec("b"), []string{"a"}, 6)
		}
		checkTold(t, "no needless byte", withSum(string([]byte{byte(n)})+s), []string{s}, 5+n)
	}
}

// Texts that are longer than MaxWalRec have no record, though the count and the sum are right.
func TestLogTextsTooLong(t *testing.T) {
	for n := 61; n <= 400; n++ {
		log := withSum(impl.Var(n) + mixedBytes(uint32(n), n))
		checkTold(t, "too long", log, nil, 0)
		checkTold(t, "too long, among others", wantRec("a")+log+wantRec("b"), []string{"a"}, 6)
	}
	for _, n := range []int{16383, 16384, 1 << 20} {
		checkTold(t, "much too long", withSum(impl.Var(n)+strings.Repeat("x", n)), nil, 0)
	}
}

// Counts that are more than what is left, up to the greatest that a Var can hold, and bytes that are no count.
func TestLogCountsTooGreat(t *testing.T) {
	counts := []int{1, 3, 59, 60, 61, 62, 63, 64, 127, 128, 129, 255, 256, 258, 316, 16383, 16384, 65536, 65538, 2097151, 2097152,
		math.MaxInt32 - 4, math.MaxInt32, math.MaxInt32 + 1, math.MaxUint32, math.MaxUint32 + 1, math.MaxUint32 + 3, 1 << 40, 1<<48 + 2,
		impl.MaxVar - 61, impl.MaxVar - 5, impl.MaxVar - 1, impl.MaxVar}
	for _, n := range counts {
		for size := range 12 {
			if size == n {
				continue
			}
			s := strings.Repeat("c", size)
			log := withSum(impl.Var(n) + s)
			if size < n {
				checkTold(t, "a count too great", log, nil, 0)
				checkTold(t, "a count too great, behind one", wantRec("a")+log, []string{"a"}, 6)
			}
			checkTold(t, "a count that is not the text's", log+recsOf("b", "c"), nil, 0)
		}
	}
	for _, count := range []string{"", "\x80", "\xff", "\x80\x80", "\xff\xff\xff", "\xff\xff\xff\xff\xff\xff\xff", "\xff\xff\xff\xff\xff\xff\xff\x7f",
		"\xff\xff\xff\xff\xff\xff\xff\xff\x01", "\xff\xff\xff\xff\xff\xff\xff\xff\xff\x01", strings.Repeat("\xff", 70), strings.Repeat("\x80", 70), "\x80\x80\x80\x80\x80\x80\x01"} {
		checkTold(t, "no count", withSum(count), nil, 0)
		checkTold(t, "no count", wantRec("a")+withSum(count)+wantRec("b"), []string{"a"}, 6)
	}
	// Each count of one byte ahead of texts of each length: a record is there where they fit alone.
	for n := range 128 {
		for size := range 70 {
			var want []string
			end := 0
			if size == n && n <= 60 {
				want, end = []string{strings.Repeat("f", n)}, 5+n
			}
			checkTold(t, "each count", withSum(string([]byte{byte(n)})+strings.Repeat("f", size)), want, end)
		}
	}
}

func TestLogsBehindEachOther(t *testing.T) {
	for _, first := range logTexts() {
		for _, second := range logTexts() {
			a, b := recsOf(first...), recsOf(second...)
			checkTold(t, "two logs", a+b, slices.Concat(first, second), len(a)+len(b))
			if len(first) == 0 || len(second) == 0 {
				continue
			}
			last := len(first) - 1
			end := len(a) - 5 - len(first[last])
			checkTold(t, "two logs, the last byte of the first one another", a[:len(a)-1]+string([]byte{^a[len(a)-1]})+b, first[:last], end)
			// Where the second one begins with just the byte that is missing, the record is whole.
			if b[0] != a[len(a)-1] {
				checkTold(t, "two logs, the first one cut", a[:len(a)-1]+b, first[:last], end)
			}
		}
	}
}

// MaxWal bounds what is written, not what is read.
func TestLogOfMoreThanMaxWal(t *testing.T) {
	s := "a long log's text"
	rec := wantRec(s)
	for _, count := range []int{90, 91, 92, 100, 1000, 50000} {
		log := strings.Repeat(rec, count)
		checkTold(t, "a long log", log, slices.Repeat([]string{s}, count), len(log))
		checkTold(t, "a long log, cut", log[:len(log)-1], slices.Repeat([]string{s}, count-1), len(log)-len(rec))
		bent := turnedAt(log, 89*len(rec)+1, 4)
		checkTold(t, "a long log, torn at one", bent, slices.Repeat([]string{s}, 89), 89*len(rec))
	}
	checkTold(t, "many empty ones", strings.Repeat(wantRec(""), 100000), slices.Repeat([]string{""}, 100000), 500000)
	checkTold(t, "many bytes that are none", strings.Repeat("\x00", 1<<22), nil, 0)
	checkTold(t, "many bytes that are none", strings.Repeat("\xff", 1<<22), nil, 0)
	checkTold(t, "one record, then many bytes", rec+strings.Repeat("\x80", 1<<22), []string{s}, len(rec))
}

func TestLogsByHand(t *testing.T) {
	a, none, hi := "\x71\x6e\xff\xc4\x01a", "\x52\x7d\x53\x51\x00", "\x2b\xf7\x5f\x67\x02hi"
	cases := []struct {
		log  string
		want []string
		at   int
	}{
		{"", nil, 0}, {"\x00", nil, 0}, {"\x00\x00\x00\x00", nil, 0}, {"\x00\x00\x00\x00\x00", nil, 0}, {"\xff\xff\xff\xff\x00", nil, 0},
		{a, []string{"a"}, 6}, {a[:5], nil, 0}, {a[1:], nil, 0}, {a + "b", []string{"a"}, 6},
		{none, []string{""}, 5}, {none[:4], nil, 0}, {none + none, []string{"", ""}, 10}, {none + none[:4], []string{""}, 5}, {none + "\x00", []string{""}, 5},
		{a + none + hi, []string{"a", "", "hi"}, 18}, {hi + none + a, []string{"hi", "", "a"}, 18}, {hi + hi, []string{"hi", "hi"}, 14},
		{a + hi[:6] + none, []string{"a"}, 6}, {a + hi[:4] + a[4:], []string{"a"}, 6}, {hi[:4] + a[4:] + hi, nil, 0},
		{none[:4] + a[4:], nil, 0}, {a[:4] + none[4:], nil, 0}, {a[:4] + "\x01b", nil, 0},
	}
	for _, c := range cases {
		checkTold(t, "by hand", c.log, c.want, c.at)
		checkScan(t, "by hand", c.log)
	}
}

// All short texts, of which none is a record but that of an empty text, and all rows of at most five pieces.
func TestLogsOfEachPiece(t *testing.T) {
	shortTexts(func(s string) { checkTold(t, "a short text", s, nil, 0) })
	pieces := []string{wantRec(""), wantRec("a"), wantRec("bc"), wantRec("")[:4], wantRec("a")[:5], turnedAt(wantRec("a"), 5, 2), "\x00"}
	counts := map[int]int{}
	var rows func(log string, left int)
	rows = func(log string, left int) {
		texts, _ := checkScan(t, "a row of pieces", log)
		counts[len(texts)]++
		if left == 0 {
			return
		}
		for _, p := range pieces {
			rows(log+p, left-1)
		}
	}
	rows("", 5)
	for n := range 6 {
		if counts[n] < 200 {
			t.Errorf("only %d rows tell %d", counts[n], n)
		}
	}
}

// Logs of mixed texts, each torn in one of many ways.
func TestLogsTornInMixedWays(t *testing.T) {
	whole, torn := 0, 0
	for start := range 3000 {
		b := mixedBytes(uint32(start), 700)
		var texts []string
		at := 8
		for range int(b[0]) % 10 {
			n := int(b[at]) % 61
			texts = append(texts, b[at+1:at+1+n])
			at += 1 + n
		}
		log := recsOf(texts...)
		if place := len(log) * int(b[1]) / 256; place < len(log) {
			switch b[2] % 6 {
			case 0:
				log = log[:place]
			case 1:
				log = turnedAt(log, place, b[3]|1)
			case 2:
				log = log[:place] + b[600:600+int(b[3])%100] + log[place:]
			case 3:
				log = log[:place] + log[min(place+int(b[3])%70, len(log)):]
			case 4:
				log += b[600 : 600+int(b[3])%100]
			}
		}
		told, end := checkScan(t, "mixed", log)
		if len(told) == len(texts) && end == len(log) {
			whole++
		} else {
			torn++
		}
		checkAdd(t, "mixed", log, b[100:100+int(b[4])%70])
	}
	if whole < 300 || torn < 1500 {
		t.Errorf("%d whole and %d torn", whole, torn)
	}
}

// What was trimmed is trimmed, tells the same, and is no longer than it was.
func TestLogTrimmedTwice(t *testing.T) {
	log := recsOf("one", "", "three", "four")
	for at := range len(log) {
		for _, bent := range []string{log[:at], log[at:], turnedAt(log, at, 16), log[:at] + "\x00" + log[at:]} {
			once := impl.WalTrim(bent)
			texts, end := impl.WalScan(bent)
			checkTold(t, "trimmed", once, texts, end)
			if end != len(once) || !strings.HasPrefix(bent, once) || impl.WalTrim(once) != once {
				t.Errorf("%q is trimmed to %q, then to %q", bent, once, impl.WalTrim(once))
			}
		}
	}
}

// What was answered is written over: neither another answer changes with it, nor the log.
func TestLogsOwnTheirMemory(t *testing.T) {
	for name, texts := range logTexts() {
		log := recsOf(texts...) + "torn"
		kept, _ := impl.WalScan(log)
		over, _ := impl.WalScan(log)
		if !slices.Equal(kept, texts) {
			t.Errorf("%s: WalScan tells %s", name, inShort(kept))
		}
		for i := range over[:cap(over)] {
			over[:cap(over)][i] = "over"
		}
		again, _ := impl.WalScan(log)
		if !slices.Equal(kept, texts) || !slices.Equal(again, texts) {
			t.Errorf("%s: WalScan changed with another answer, to %s and %s", name, inShort(kept), inShort(again))
		}
		for i, s := range kept {
			if sharesMemory(s, log) {
				t.Errorf("%s: text %d shares memory with the log", name, i)
			}
			for j, other := range append(slices.Clone(again), kept[:i]...) {
				if sharesMemory(s, other) {
					t.Errorf("%s: texts %d and %d share memory", name, i, j)
				}
			}
		}
	}
}

func TestLogTextsOwnTheirMemory(t *testing.T) {
	log, s := recsOf("one", "", "three"), "added"
	for _, n := range []int{0, 1, 60, 61} {
		text := strings.Repeat("r", n)
		if rec := impl.WalRec(text); sharesMemory(rec, text) || sharesMemory(text, rec) {
			t.Errorf("WalRec of %d bytes shares memory with them", n)
		}
	}
	full := strings.Repeat("\x00", 1996)
	for name, l := range map[string]string{"nothing": "", "records": log, "records, and a torn one": log + "torn", "a full one": full, "too full a one": full + full} {
		for _, more := range []string{s, "", strings.Repeat("x", 61)} {
			got, _ := impl.WalAdd(l, more)
			if sharesMemory(got, l) || sharesMemory(got, more) || sharesMemory(more, got) {
				t.Errorf("%s: what WalAdd answers of %q shares memory with what it was given", name, more)
			}
		}
		if sharesMemory(impl.WalTrim(l), l) {
			t.Errorf("%s: WalTrim shares memory with the log", name)
		}
	}
}

// No call hangs on one ahead of it.
func TestLogsKeepNothing(t *testing.T) {
	a, b := recsOf("a", "b"), recsOf("b")
	for range 3 {
		checkTold(t, "two", a, []string{"a", "b"}, 12)
		checkTold(t, "the second alone", b, []string{"b"}, 6)
		checkTold(t, "none", "", nil, 0)
		checkAdd(t, "two", a, "c")
		checkTold(t, "two, cut", a[:11], []string{"a"}, 6)
		checkAdd(t, "none", "", "c")
	}
}

func TestLogsFromManyAtOnce(t *testing.T) {
	tell := func(texts []string) string {
		log := ""
		told := ""
		for _, s := range texts {
			more, ok := impl.WalAdd(log, s)
			told += strconv.FormatBool(ok)
			log = more
		}
		for cut := 0; cut <= len(log); cut += 3 {
			got, at := impl.WalScan(log[:cut])
			told += fmt.Sprintf("%q %d %d ", got, at, len(impl.WalTrim(log[:cut])))
		}
		return told + log
	}
	lists := logTexts()
	shown := map[string]string{}
	for name, texts := range lists {
		shown[name] = tell(texts)
	}
	var wait sync.WaitGroup
	for range 8 {
		wait.Go(func() {
			for name, texts := range lists {
				if tell(texts) != shown[name] {
					t.Errorf("%s was answered otherwise", name)
				}
			}
		})
	}
	wait.Wait()
}
