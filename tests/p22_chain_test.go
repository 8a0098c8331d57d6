package tests

import (
	"crypto/sha256"
	"math"
	"runtime"
	"slices"
	"strconv"
	"strings"
	"sync"
	"testing"

	"loop.example/g00946/impl"
)

// P22, as far as it is of ChainOf: it begins alike however long it is, and each block hangs on the one ahead.

// shortOf is the first 8 bytes of the library's sum.
func shortOf(s string) string {
	sum := sha256.Sum256([]byte(s))
	return string(sum[:8])
}

// wantBlock is the block behind another one by the words of the document, with no part of the program.
func wantBlock(ahead impl.Block, seed string) impl.Block {
	i := ahead.Head.Height + 1
	b := sha256.Sum256([]byte(seed + strconv.Itoa(i)))
	vals, last := ahead.Next, shortOf(wantHeaderText(ahead.Head))
	if i == 1 {
		vals, last = nil, ""
		for place := range 4 {
			vals = append(vals, impl.Val{Id: place + 1, Power: int(b[place]%5) + 1})
		}
	}
	next, _ := wantChanged(vals, []impl.Val{{Id: int(b[4]%6) + 1, Power: int(b[5] % 4)}})
	h := impl.Header{Height: i, Time: ahead.Head.Time + int(b[6]%5) + 1, Last: last, Vals: shortOf(wantShown(vals)), Next: shortOf(wantShown(next)), Data: strconv.Itoa(int(b[7]))}
	c := impl.Commit{Height: i, Id: shortOf(wantHeaderText(h))}
	for _, v := range vals {
		c.Sigs = append(c.Sigs, impl.CSig{Val: v.Id, Sig: wantSign(v.Id, wantDigest(committed(c, v.Id)))})
	}
	return impl.Block{Head: h, Vals: vals, Next: next, Commit: c}
}

func wantChain(seed string, n int) []impl.Block {
	var l []impl.Block
	var b impl.Block
	for range n {
		b = wantBlock(b, seed)
		l = append(l, b)
	}
	return l
}

func sameBlock(a impl.Block, b impl.Block) bool {
	return a.Head == b.Head && slices.Equal(a.Vals, b.Vals) && slices.Equal(a.Next, b.Next) && sameCommit(a.Commit, b.Commit)
}

func sameChain(a []impl.Block, b []impl.Block) bool {
	return slices.EqualFunc(a, b, sameBlock)
}

// chainSeeds are of no byte, of every byte, of digits that could be a Height's, and long ones.
func chainSeeds() []string {
	l := []string{"", "seed", "v", "1", "11", "x1", "-", "\x00", "\xff\x00", "\u00e4\u20ac", allBytes(), strings.Repeat("long", 50000), "79", "509", "1315"}
	for size := 50; size < 70; size++ {
		l = append(l, bytesFrom(byte(size), size))
	}
	for i := range 300 {
		l = append(l, "s"+strconv.Itoa(i))
	}
	return l
}

func TestChainNumbers(t *testing.T) {
	if impl.MaxChain != 12 {
		t.Errorf("MaxChain is %d", impl.MaxChain)
	}
}

// What is wanted here was worked out outside Go, with no part of the program.
func TestChainOfKnown(t *testing.T) {
	for _, k := range []struct {
		seed                     string
		height                   int
		head, vals, next, commit string
	}{
		{"v", 1, "01010008434368604f5390a008f985f97254a38f5903313436", "040105020303040405", "0501050203030404050503",
			"01000863b8653cbfd32dc50401086888b002bf3ed18602087b18c49da7680dc40308a0a5ecdf62452bd00408db58b02e4b8c8ad1"},
		{"v", 2, "02030863b8653cbfd32dc508f985f97254a38f59087f391841647a5f2d023631", "0501050203030404050503", "0501050202030404050503",
			"02000846ff731463c53d0e050108436d9325886e8bca0208ea0c7b95fa0f523c030878ecbcaeca2336460408e10d64572d97a0ea0508674b62a17d5d50e0"},
		{"v", 3, "03050846ff731463c53d0e087f391841647a5f2d087f391841647a5f2d03313832", "0501050202030404050503", "0501050202030404050503",
			"030008b1f3033a388b11d3050108fbe95f5ef0be4fc40208e2815b5a1f3793ae0308047bc4c7a33eb32704082005fc2d02fc794e0508d9f909680f1bd6d9"},
		{"v", 4, "040908b1f3033a388b11d3087f391841647a5f2d08354b2a8acf7954bd03313432", "0501050202030404050503", "040105020204050503",
			"040008e877cb0950843fee05010813142295ba68e4ec0208eac62500cf7e5da8030858ee055f2fd659e004082ce9afbc81f7f64f050886c3fa0c997b1109"},
		{"", 1, "01030008399fbb53912e14c0087a50c9cc87a96d6903323235", "040103020503040401", "03010302050304",
			"01000833b79e334b9f2d170401088dcc5924af64cf1b0208833d19b385f877b203089a019f9a8386451704083f9abf3c61cfed1d"},
		{"", 2, "02060833b79e334b9f2d17087a50c9cc87a96d6908a5a8ffa86694ce3103323338", "03010302050304", "03010302050302",
			"02000867096bbdf15acf2b030108fc49835909db063a020888da3ec8d6f092710308bca21719272cdb40"},
		{"", 3, "030b0867096bbdf15acf2b08a5a8ffa86694ce3108a5a8ffa86694ce3103313339", "03010302050302", "03010302050302",
			"0300088544307a4c89ceca03010817074c8d7881894f02087ee0ab8f1153906203083cb603cab4ea7e51"},
		{"\xff\x00", 1, "010500083d7af5af0999455e083d7af5af0999455e03313332", "040103020503030401", "040103020503030401",
			"010008a404fab474f925ee040108703afe24c75831720208aaec1451d263f00a0308b010e229da546ae90408bfbe6e6ebcf2055f"},
		{"\xff\x00", 2, "020a08a404fab474f925ee083d7af5af0999455e08bf0534036f16939803323235", "040103020503030401", "0501030205030304010503",
			"020008de75bc3e77128e5304010832c1fed3458640820208dd3ab255df2251c9030811948efa043425f0040880b187cd6a618a1a"},
		{"seed", 1, "01040008097920ac2b300556087292757039c10a1d03313139", "040104020403030402", "040104020103030402",
			"010008c842246a09f8ea780401089eb668942bec7ba5020889596fd8a1d86df40308257d52a32d33851c0408b43f7bb253f7d185"},
		{"seed", 2, "020608c842246a09f8ea78087292757039c10a1d087b5c27a21b797f4003313239", "040104020103030402", "03010403030402",
			"020008e66b5f2163c8c1d004010891a0f9f02f72b6680208daf6b5694b497199030890c3a9a63bc022000408d8ed087e81a815ff"},
		{"seed", 8, "081a0810c55f28b457dfc10895933fa07904d973084cd280a668cd96ce03313836", "03010403010401", "0201040301",
			"080008ac2d4a49de59fdf2030108209b6b7dbfa9dab70308829c863f854224c60408437bd4a11cf69a3f"},
		{"seed", 11, "0b1d082424ee767415be75084cd280a668cd96ce08e2477400e38f230a023836", "0201040301", "03010403010501",
			"0b00085843b9be4571801d0201088a02de969a2d898c0308f41bb98544d99192"},
		{"seed", 12, "0c22085843b9be4571801d08e2477400e38f230a08a1b26900cb9fe84203313933", "03010403010501", "0201040501",
			"0c000883884fe590db084c030108561df630a8af90ce0308ecb7720cf9c1e6000508bb384ad31ae7ddd0"},
		{"79", 10, "0a1f083a787a66609905fd0865055bd45990e2e80845c04f355207740c03313733", "0201030403", "010103",
			"0a00084b5b797924903596020108890db7aba3801d4f0408f965730d6a4fefc4"},
		{"79", 11, "0b22084b5b7979249035960845c04f355207740c0845c04f355207740c03313036", "010103", "010103",
			"0b000826fda82ad411ce0d010108da554b42eaeeabc1"},
		{"79", 12, "0c250826fda82ad411ce0d0845c04f355207740c0845c04f355207740c023538", "010103", "010103",
			"0c000892e66c0d4fd6f2340101084143e8c1d9219366"},
	} {
		b := impl.ChainOf(k.seed, 12)[k.height-1]
		head, vals, next, commit := impl.Hex(impl.ShowHeader(b.Head)), impl.Hex(impl.ShowVals(b.Vals)), impl.Hex(impl.ShowVals(b.Next)), impl.Hex(impl.ShowCommit(b.Commit))
		if head != k.head || vals != k.vals || next != k.next || commit != k.commit {
			t.Errorf("the block of Height %d of %q is %s, %s, %s, %s", k.height, k.seed, head, vals, next, commit)
		}
	}
}

func TestChainOfAsTheDocumentSays(t *testing.T) {
	for _, seed := range chainSeeds() {
		want := wantChain(seed, 12)
		for n := 1; n <= 12; n++ {
			if got := impl.ChainOf(seed, n); !sameChain(got, want[:n]) {
				t.Errorf("ChainOf(%.40q, %d) is %#v, want %#v", seed, n, got, want[:n])
			}
		}
	}
}

func TestChainOfNoSuchLength(t *testing.T) {
	lengths := []int{13, 14, 40, 268, 1<<16 + 1, -12}
	for _, n := range edgeNumbers() {
		if n < 1 || n > 12 {
			lengths = append(lengths, n)
		}
	}
	for _, n := range lengths {
		for _, seed := range []string{"", "seed", "v"} {
			if got := impl.ChainOf(seed, n); len(got) != 0 {
				t.Errorf("ChainOf(%q, %d) has %d blocks", seed, n, len(got))
			}
		}
	}
}

func TestChainOfBeginsAlike(t *testing.T) {
	for _, seed := range chainSeeds() {
		long := impl.ChainOf(seed, 12)
		for n := 1; n <= 12; n++ {
			if got := impl.ChainOf(seed, n); len(got) != n || !sameChain(got, long[:n]) {
				t.Errorf("ChainOf(%.40q, %d) is not how the longest one begins", seed, n)
			}
		}
	}
}

// checkHangs asks by the program's own names and sums whether a block hangs on the one ahead.
func checkHangs(t *testing.T, ahead impl.Block, b impl.Block) {
	t.Helper()
	if b.Head.Height != ahead.Head.Height+1 || b.Head.Last != impl.HeadId(ahead.Head) {
		t.Errorf("%#v does not name %#v", b.Head, ahead.Head)
	}
	if d := b.Head.Time - ahead.Head.Time; d < 1 || d > 5 {
		t.Errorf("%#v is %d behind the one ahead", b.Head, d)
	}
	if b.Head.Height > 1 && (!slices.Equal(b.Vals, ahead.Next) || b.Head.Vals != ahead.Head.Next) {
		t.Errorf("of Height %d are %v, and %v were next", b.Head.Height, b.Vals, ahead.Next)
	}
	if n, ok := impl.ReadDec(b.Head.Data); !ok || n < 0 || n > 255 {
		t.Errorf("the Data is %q", b.Head.Data)
	}
	if !impl.HeaderOk(b.Head) || b.Head.Vals != impl.ValsHash(b.Vals) || b.Head.Next != impl.ValsHash(b.Next) {
		t.Errorf("%#v is not right", b)
	}
	var signed []int
	for _, s := range b.Commit.Sigs {
		signed = append(signed, s.Val)
	}
	if b.Commit.Round != 0 || !slices.Equal(signed, idsOf(b.Vals)) || !slices.Equal(impl.CommitVals(b.Commit), signed) || !impl.CommitOk(b.Vals, b.Head, b.Commit) {
		t.Errorf("%#v is not what all of %v sign", b.Commit, b.Vals)
	}
}

func TestChainOfHangsTogether(t *testing.T) {
	for _, seed := range chainSeeds() {
		var ahead impl.Block
		for _, b := range impl.ChainOf(seed, 12) {
			checkHangs(t, ahead, b)
			ahead = b
		}
	}
}

// changeKind is what becomes of validators by the change that a seed's bytes name at a height.
func changeKind(seed string, b impl.Block) string {
	sum := sha256.Sum256([]byte(seed + strconv.Itoa(b.Head.Height)))
	id, power := int(sum[4]%6)+1, int(sum[5]%4)
	there := slices.Contains(idsOf(b.Vals), id)
	switch {
	case power == 0 && !there:
		return "none to take away"
	case power == 0 && len(b.Vals) == 1:
		return "the last one stays"
	case power == 0:
		return "one goes"
	case !there:
		return "one comes"
	case slices.Contains(b.Vals, impl.Val{Id: id, Power: power}):
		return "one has the same"
	}
	return "one has another Power"
}

// Each kind of change is met, and validators are as many behind it as they should be.
func TestChainOfChanges(t *testing.T) {
	more := map[string]int{"none to take away": 0, "the last one stays": 0, "one goes": -1, "one comes": 1, "one has the same": 0, "one has another Power": 0}
	kept := map[string]bool{"none to take away": true, "the last one stays": true, "one has the same": true}
	met := map[string]int{}
	for _, seed := range chainSeeds() {
		for _, b := range impl.ChainOf(seed, 12) {
			kind := changeKind(seed, b)
			met[kind]++
			if len(b.Next) != len(b.Vals)+more[kind] || slices.Equal(b.Next, b.Vals) != kept[kind] {
				t.Errorf("%s: at Height %d of %.40q, behind %v come %v", kind, b.Head.Height, seed, b.Vals, b.Next)
			}
		}
	}
	for kind := range more {
		if met[kind] == 0 {
			t.Errorf("%s was not met", kind)
		}
	}
}

// Unlike seeds make unlike chains; and a seed that ends in a digit shares a block's bytes with another one, but nothing that hangs on what is ahead.
func TestChainOfHangsOnTheSeed(t *testing.T) {
	tips := map[string]string{}
	for _, seed := range chainSeeds() {
		l := impl.ChainOf(seed, 12)
		tip := impl.HeadId(l[11].Head)
		if other, ok := tips[tip]; ok {
			t.Errorf("%.40q and %.40q end alike", seed, other)
		}
		tips[tip] = seed
	}
	a, b := impl.ChainOf("x1", 2)[1], impl.ChainOf("x", 12)[11]
	if a.Head.Data != b.Head.Data || a.Head.Last == b.Head.Last {
		t.Errorf("of the same bytes are %#v and %#v", a.Head, b.Head)
	}
}

func writeOverBlocks(l []impl.Block) {
	for i, b := range l {
		writeOver(b.Vals)
		writeOver(b.Next)
		sigs := b.Commit.Sigs[:cap(b.Commit.Sigs)]
		for j := range sigs {
			sigs[j] = impl.CSig{Val: -7, Sig: "written"}
		}
		l[i] = impl.Block{}
	}
}

func TestChainOfOwnsItsMemory(t *testing.T) {
	for _, seed := range []string{"", "v", "seed", "79", "s11"} {
		want := wantChain(seed, 12)
		kept, over := impl.ChainOf(seed, 12), impl.ChainOf(seed, 12)
		writeOverBlocks(over[:cap(over)])
		if again := impl.ChainOf(seed, 12); !sameChain(kept, want) || !sameChain(again, want) {
			t.Errorf("ChainOf(%q, 12) changed with another answer", seed)
		}
	}
}

// Each list of a chain is written over in turn, up to the end of its room: no other one changes.
func TestChainOfSharesNoLists(t *testing.T) {
	for _, seed := range []string{"", "v", "seed", "79", "509", "s10", "s29"} {
		for height := 1; height <= 12; height++ {
			for part, over := range map[string]func(b *impl.Block){
				"Vals": func(b *impl.Block) { writeOver(b.Vals); b.Vals = nil },
				"Next": func(b *impl.Block) { writeOver(b.Next); b.Next = nil },
			} {
				got, want := impl.ChainOf(seed, 12), wantChain(seed, 12)
				over(&got[height-1])
				wanted := &want[height-1]
				if part == "Vals" {
					wanted.Vals = nil
				} else {
					wanted.Next = nil
				}
				if !sameChain(got, want) {
					t.Errorf("with %s of Height %d of %q another list changed", part, height, seed)
				}
			}
		}
	}
}

// Whoever makes the blocks is gone when they are told.
func TestChainOfLeavesNobodyBehind(t *testing.T) {
	before := runtime.NumGoroutine()
	for i := range 2000 {
		impl.ChainOf("seed", i%15-1)
	}
	// One that has closed its channel may need a moment to end.
	for range 100000 {
		if runtime.NumGoroutine() <= before {
			return
		}
		runtime.Gosched()
	}
	t.Errorf("there were %d, and now there are %d", before, runtime.NumGoroutine())
}

func TestChainOfFromManyAtOnce(t *testing.T) {
	want := map[string][]impl.Block{}
	seeds := chainSeeds()[:40]
	for _, seed := range seeds {
		want[seed] = wantChain(seed, 12)
	}
	var wait sync.WaitGroup
	for i := range 8 {
		wait.Go(func() {
			for j := range 80 {
				seed, n := seeds[(i+j)%len(seeds)], 1+(i*5+j)%12
				got := impl.ChainOf(seed, n)
				if !sameChain(got, want[seed][:n]) || len(impl.ChainOf(seed, math.MaxInt-j)) != 0 {
					t.Errorf("ChainOf(%.40q, %d) was answered otherwise", seed, n)
				}
				writeOverBlocks(got)
			}
		})
	}
	wait.Wait()
}
