package tests

import (
	"crypto/sha256"
	"encoding/hex"
	"math"
	"slices"
	"strconv"
	"strings"
	"sync"
	"testing"
	"unsafe"

	"loop.example/g00946/impl"
)

// P4: Includes says true of each leaf with its TreePath, and of nothing else in its place (hashes that meet aside).

// wantMarked is SHA-256 of a byte and the parts behind it, by the library.
func wantMarked(mark byte, parts ...string) string {
	sum := sha256.Sum256([]byte(string([]byte{mark}) + strings.Join(parts, "")))
	return string(sum[:])
}

// unlikeLeaves are n texts, no two alike, of lengths from 1 byte to several blocks of the hash.
func unlikeLeaves(n int) []string {
	var leaves []string
	for i := range n {
		leaves = append(leaves, strconv.Itoa(i)+strings.Repeat("\xfe", i*i%150))
	}
	return leaves
}

// leafSets are lists of n leaves of several kinds.
func leafSets(n int) map[string][]string {
	sets := map[string][]string{
		"unlike": unlikeLeaves(n),
		"alike":  slices.Repeat([]string{"same"}, n),
		"empty":  make([]string, n),
		"pairs":  nil,
		"hashes": nil,
	}
	for i := range n {
		sets["pairs"] = append(sets["pairs"], strconv.Itoa(i/2))
		sets["hashes"] = append(sets["hashes"], impl.LeafHash(strconv.Itoa(i)))
	}
	return sets
}

// wantTree is the root of one leaf or more and the path of each of them, worked out a level at a time from below:
// two by two are put together, and one that is left over goes up as it is.
func wantTree(leaves []string) (string, [][]string) {
	var level []string
	for _, data := range leaves {
		level = append(level, wantMarked(0, data))
	}
	paths := make([][]string, len(leaves))
	for height := 0; len(level) > 1; height++ {
		for i := range leaves {
			if beside := i>>height ^ 1; beside < len(level) {
				paths[i] = append(paths[i], level[beside])
			}
		}
		var above []string
		for pair := range slices.Chunk(level, 2) {
			if len(pair) == 2 {
				above = append(above, wantMarked(1, pair[0], pair[1]))
			} else {
				above = append(above, pair[0])
			}
		}
		level = above
	}
	return level[0], paths
}

// wantPathRoot is PathRoot, worked out a level at a time from below.
func wantPathRoot(leaf string, i int, n int, path []string) (string, bool) {
	if n > 40 || i < 0 || i >= n {
		return "", false
	}
	for ; n > 1; i, n = i/2, (n+1)/2 {
		if i == n-1 && i%2 == 0 {
			continue
		}
		if len(path) == 0 {
			return "", false
		}
		if i%2 == 1 {
			leaf = wantMarked(1, path[0], leaf)
		} else {
			leaf = wantMarked(1, leaf, path[0])
		}
		path = path[1:]
	}
	if len(path) > 0 {
		return "", false
	}
	return leaf, true
}

// bentTexts are texts that differ from s a little: in each byte, and in length.
func bentTexts(s string) []string {
	bent := []string{"", s + "\x00", s + s, "\x00" + s, strings.Repeat("\x00", len(s))}
	for at := range len(s) {
		b := []byte(s)
		b[at] ^= 1 << (at % 8)
		bent = append(bent, string(b))
	}
	if len(s) > 0 {
		bent = append(bent, s[1:], s[:len(s)-1])
	}
	return slices.DeleteFunc(bent, func(other string) bool { return other == s })
}

// oddNumbers are numbers around 0, n and MaxLeaves, and the ends of all numbers.
func oddNumbers(n int) []int {
	return []int{math.MinInt, math.MinInt + 1, math.MinInt32, -n, -2, -1, 0, 1, n - 1, n, n + 1, 2 * n,
		39, 40, 41, 42, 64, 1 << 32, 1<<32 + 1, math.MaxInt - 1, math.MaxInt}
}

func TestMaxLeaves(t *testing.T) {
	if impl.MaxLeaves != 40 {
		t.Errorf("MaxLeaves is %d", impl.MaxLeaves)
	}
}

func TestLeafHashAndNodeHash(t *testing.T) {
	texts := append(sumTexts(), "", "\x00", "\x01", "\x00\x00", mixedBytes(1, 32), mixedBytes(2, 64), mixedBytes(3, 200))
	for _, a := range texts {
		if got, want := impl.LeafHash(a), wantMarked(0, a); got != want {
			t.Fatalf("LeafHash(%.40q) is %x, want %x", a, got, want)
		}
		for _, b := range texts {
			if got, want := impl.NodeHash(a, b), wantMarked(1, a, b); got != want {
				t.Fatalf("NodeHash(%.40q, %.40q) is %x, want %x", a, b, got, want)
			}
			if impl.NodeHash(a, b) == impl.LeafHash(a+b) {
				t.Fatalf("node %.40q, %.40q has the hash of a leaf", a, b)
			}
		}
	}
}

func TestTreeRootByHand(t *testing.T) {
	n := impl.NodeHash
	l := func(i int) string { return impl.LeafHash(unlikeLeaves(8)[i]) }
	four := n(n(l(0), l(1)), n(l(2), l(3)))
	cases := map[int]string{
		2: n(l(0), l(1)),
		3: n(n(l(0), l(1)), l(2)),
		4: four,
		5: n(four, l(4)),
		6: n(four, n(l(4), l(5))),
		7: n(four, n(n(l(4), l(5)), l(6))),
		8: n(four, n(n(l(4), l(5)), n(l(6), l(7)))),
	}
	for count, want := range cases {
		if got := impl.TreeRoot(unlikeLeaves(8)[:count]); got != want {
			t.Errorf("TreeRoot of %d leaves is %x, want %x", count, got, want)
		}
	}
}

func TestTreePathByHand(t *testing.T) {
	n := impl.NodeHash
	leaves := unlikeLeaves(7)
	l := func(i int) string { return impl.LeafHash(leaves[i]) }
	four := n(n(l(0), l(1)), n(l(2), l(3)))
	three := n(n(l(4), l(5)), l(6))
	cases := [][]string{
		{l(1), n(l(2), l(3)), three},
		{l(0), n(l(2), l(3)), three},
		{l(3), n(l(0), l(1)), three},
		{l(2), n(l(0), l(1)), three},
		{l(5), l(6), four},
		{l(4), l(6), four},
		{n(l(4), l(5)), four},
	}
	for i, want := range cases {
		if got := impl.TreePath(leaves, i); !slices.Equal(got, want) {
			t.Errorf("TreePath of leaf %d of 7 is %x, want %x", i, got, want)
		}
	}
}

// The roots of the test data that logs of certificates (RFC 6962), whose trees are built alike, are held against.
func TestTreeRootKnown(t *testing.T) {
	data := []string{"", "00", "10", "2021", "3031", "40414243", "5051525354555657", "606162636465666768696a6b6c6d6e6f"}
	roots := []string{
		"e3b0c44298fc1c149afbf4c8996fb92427ae41e4649b934ca495991b7852b855",
		"6e340b9cffb37a989ca544e6bb780a2c78901d3fb33738768511a30617afa01d",
		"fac54203e7cc696cf0dfcb42c92a1d9dbaf70ad9e621f4bd8d98662f00e3c125",
		"aeb6bcfe274b70a14fb067a5e5578264db0fa9b51af5e0ba159158f329e06e77",
		"d37ee418976dd95753c1c73862b9398fa2a2cf9b4ff0fdfe8b30cd95209614b7",
		"4e3bbb1f7b478dcfe71fb631631519a3bca12c9aefca1612bfce4c13a86264d4",
		"76e67dadbcdf1e10e1b74ddc608abd2f98dfb16fbce75277b5232a127f2087ef",
		"ddb89be403809e325750d3d263cd78929c2942b7942a34b77e122c9594a74c8c",
		"5dc9da79a70659a9ad559cb701ded9a2ab9d823aad2f4960cfe370eff4604328",
	}
	var leaves []string
	for n, want := range roots {
		if n > 0 {
			leaf, _ := hex.DecodeString(data[n-1])
			leaves = append(leaves, string(leaf))
		}
		if got := hex.EncodeToString([]byte(impl.TreeRoot(leaves))); got != want {
			t.Errorf("TreeRoot of %d leaves is %s, want %s", n, got, want)
		}
	}
}

func TestTreeOfNoLeaf(t *testing.T) {
	for _, leaves := range [][]string{nil, {}, make([]string, 0, 5)} {
		if got, want := impl.TreeRoot(leaves), impl.Sha(""); got != want {
			t.Errorf("TreeRoot of no leaf is %x, want %x", got, want)
		}
		for _, i := range oddNumbers(0) {
			if got := impl.TreePath(leaves, i); len(got) != 0 {
				t.Errorf("TreePath of leaf %d of none is %x", i, got)
			}
			if impl.Includes(impl.Sha(""), "", i, 0, nil) {
				t.Errorf("leaf %d of none is included", i)
			}
		}
	}
}

func TestTreeOfOneLeaf(t *testing.T) {
	for _, data := range []string{"", "a", "\x00", "\x01", mixedBytes(4, 32), mixedBytes(5, 64), mixedBytes(6, 500)} {
		root := impl.TreeRoot([]string{data})
		if root != impl.LeafHash(data) {
			t.Errorf("TreeRoot of %.40q alone is %x", data, root)
		}
		if got := impl.TreePath([]string{data}, 0); len(got) != 0 {
			t.Errorf("TreePath of %.40q alone is %x", data, got)
		}
		if got, ok := impl.PathRoot(impl.LeafHash(data), 0, 1, nil); got != root || !ok {
			t.Errorf("PathRoot of %.40q alone is %x, %v", data, got, ok)
		}
		for _, path := range [][]string{nil, {}} {
			if !impl.Includes(root, data, 0, 1, path) {
				t.Errorf("%.40q alone is not included", data)
			}
		}
		for _, path := range [][]string{{""}, {root}, {impl.Sha("")}, {root, root}} {
			if impl.Includes(root, data, 0, 1, path) || impl.Includes(impl.NodeHash(root, path[0]), data, 0, 1, path) {
				t.Errorf("%.40q alone is included with the path %x", data, path)
			}
		}
	}
}

func TestTreesUpToMaxLeaves(t *testing.T) {
	for n := 1; n <= impl.MaxLeaves; n++ {
		for kind, leaves := range leafSets(n) {
			root, paths := wantTree(leaves)
			if got := impl.TreeRoot(leaves); got != root {
				t.Fatalf("TreeRoot of %d %s leaves is %x, want %x", n, kind, got, root)
			}
			for i := range leaves {
				if got := impl.TreePath(leaves, i); !slices.Equal(got, paths[i]) {
					t.Fatalf("TreePath of leaf %d of %d %s leaves is %x, want %x", i, n, kind, got, paths[i])
				}
			}
		}
	}
}

func TestTreesAboveMaxLeaves(t *testing.T) {
	for _, n := range []int{41, 42, 48, 63, 64, 65, 80, 1000} {
		for kind, leaves := range leafSets(n) {
			if got := impl.TreeRoot(leaves); got != "" {
				t.Errorf("TreeRoot of %d %s leaves is %x", n, kind, got)
			}
			_, paths := wantTree(leaves)
			for i := -1; i <= n; i++ {
				if got := impl.TreePath(leaves, i); len(got) != 0 {
					t.Errorf("TreePath of leaf %d of %d %s leaves is %x", i, n, kind, got)
				}
			}
			for i, path := range paths {
				if got, ok := impl.PathRoot(impl.LeafHash(leaves[i]), i, n, path); got != "" || ok {
					t.Errorf("PathRoot of leaf %d of %d %s leaves is %x, %v", i, n, kind, got, ok)
				}
			}
		}
	}
	if impl.TreeRoot(unlikeLeaves(41)[:40]) == "" || impl.TreePath(unlikeLeaves(41)[:40], 39) == nil {
		t.Error("40 leaves, with another one behind them, are too many")
	}
}

// A last leaf that stands alone goes up as it is: it is neither doubled nor hashed again on its way.
func TestLastLeafAlone(t *testing.T) {
	for _, n := range []int{3, 5, 9, 17, 33} {
		leaves := unlikeLeaves(n)
		last := impl.LeafHash(leaves[n-1])
		others := impl.TreeRoot(leaves[:n-1])
		root := impl.TreeRoot(leaves)
		if root != impl.NodeHash(others, last) {
			t.Errorf("TreeRoot of %d leaves is %x", n, root)
		}
		if got := impl.TreePath(leaves, n-1); !slices.Equal(got, []string{others}) {
			t.Errorf("TreePath of the last of %d leaves is %x", n, got)
		}
		if got := impl.TreePath(leaves, 0); got[len(got)-1] != last {
			t.Errorf("TreePath of the first of %d leaves ends with %x", n, got[len(got)-1])
		}
		if !impl.Includes(root, leaves[n-1], n-1, n, []string{others}) {
			t.Errorf("the last of %d leaves is not included", n)
		}
		if root == impl.TreeRoot(append(slices.Clone(leaves), leaves[n-1])) {
			t.Errorf("%d leaves have the root that they have with the last one doubled", n)
		}
		for _, path := range [][]string{nil, {last}, {last, others}, {others, last}, {others, others}, {impl.Sha(""), others}} {
			if impl.Includes(root, leaves[n-1], n-1, n, path) {
				t.Errorf("the last of %d leaves is included with the path %x", n, path)
			}
		}
	}
}

func TestTreeRootHangsOnEachLeaf(t *testing.T) {
	for n := 1; n <= impl.MaxLeaves; n++ {
		seen := map[string]int{}
		leaves := unlikeLeaves(n)
		seen[impl.TreeRoot(leaves)]++
		for i := range n {
			other := slices.Clone(leaves)
			other[i] += "\x00"
			seen[impl.TreeRoot(other)]++
			if i > 0 {
				swapped := slices.Clone(leaves)
				swapped[0], swapped[i] = swapped[i], swapped[0]
				seen[impl.TreeRoot(swapped)]++
			}
		}
		if len(seen) != 2*n {
			t.Errorf("%d lists of %d leaves have %d roots", 2*n, n, len(seen))
		}
	}
}

func TestTreeRootOfAlikeLeavesHangsOnTheirCount(t *testing.T) {
	for _, data := range []string{"", "same", mixedBytes(7, 32)} {
		seen := map[string]int{}
		for n := 0; n <= impl.MaxLeaves; n++ {
			seen[impl.TreeRoot(slices.Repeat([]string{data}, n))]++
		}
		if len(seen) != impl.MaxLeaves+1 {
			t.Errorf("%d counts of %.40q have %d roots", impl.MaxLeaves+1, data, len(seen))
		}
	}
}

func TestIncludesEachLeaf(t *testing.T) {
	for n := 1; n <= impl.MaxLeaves; n++ {
		for kind, leaves := range leafSets(n) {
			root := impl.TreeRoot(leaves)
			for i, data := range leaves {
				path := impl.TreePath(leaves, i)
				if !impl.Includes(root, data, i, n, path) {
					t.Fatalf("leaf %d of %d %s leaves is not included", i, n, kind)
				}
				if got, ok := impl.PathRoot(impl.LeafHash(data), i, n, path); got != root || !ok {
					t.Fatalf("PathRoot of leaf %d of %d %s leaves is %x, %v", i, n, kind, got, ok)
				}
			}
		}
	}
}

func TestIncludesNoOtherData(t *testing.T) {
	for n := 1; n <= impl.MaxLeaves; n++ {
		leaves := unlikeLeaves(n)
		root := impl.TreeRoot(leaves)
		for i, data := range leaves {
			path := impl.TreePath(leaves, i)
			others := append(bentTexts(data), root, impl.LeafHash(data))
			others = append(others, leaves[:i]...)
			others = append(others, leaves[i+1:]...)
			others = append(others, path...)
			for _, other := range others {
				if impl.Includes(root, other, i, n, path) {
					t.Fatalf("%.40q is included in the place of leaf %d of %d", other, i, n)
				}
			}
		}
	}
}

func TestIncludesAtNoOtherNumber(t *testing.T) {
	for n := 1; n <= impl.MaxLeaves; n++ {
		leaves := unlikeLeaves(n)
		root := impl.TreeRoot(leaves)
		_, paths := wantTree(leaves)
		for i, data := range leaves {
			for j := -n; j <= 2*n; j++ {
				if j != i && impl.Includes(root, data, j, n, paths[i]) {
					t.Fatalf("leaf %d of %d is included at %d with its own path", i, n, j)
				}
				if j >= 0 && j < n && j != i && impl.Includes(root, data, j, n, paths[j]) {
					t.Fatalf("leaf %d of %d is included at %d with that path", i, n, j)
				}
			}
		}
	}
}

func TestIncludesWithNoOtherLength(t *testing.T) {
	for n := 1; n <= impl.MaxLeaves; n++ {
		leaves := unlikeLeaves(n)
		root := impl.TreeRoot(leaves)
		for i, data := range leaves {
			path := impl.TreePath(leaves, i)
			var others [][]string
			for _, more := range []string{"", root, impl.LeafHash(data), impl.Sha("")} {
				others = append(others, append(slices.Clone(path), more), append([]string{more}, path...))
			}
			for at := range path {
				others = append(others, slices.Delete(slices.Clone(path), at, at+1))
			}
			for _, other := range others {
				if impl.Includes(root, data, i, n, other) {
					t.Fatalf("leaf %d of %d is included with %d hashes in place of %d", i, n, len(other), len(path))
				}
				if got, ok := impl.PathRoot(impl.LeafHash(data), i, n, other); got != "" || ok {
					t.Fatalf("PathRoot of leaf %d of %d with %d hashes in place of %d is %x, %v", i, n, len(other), len(path), got, ok)
				}
			}
		}
	}
}

func TestIncludesWithNoBentPath(t *testing.T) {
	for n := 2; n <= impl.MaxLeaves; n++ {
		leaves := unlikeLeaves(n)
		root := impl.TreeRoot(leaves)
		for i, data := range leaves {
			path := impl.TreePath(leaves, i)
			for at := range path {
				for _, bent := range bentTexts(path[at]) {
					other := slices.Clone(path)
					other[at] = bent
					if impl.Includes(root, data, i, n, other) {
						t.Fatalf("leaf %d of %d is included with hash %d bent to %x", i, n, at, bent)
					}
				}
				if at > 0 {
					other := slices.Clone(path)
					other[at-1], other[at] = other[at], other[at-1]
					if impl.Includes(root, data, i, n, other) {
						t.Fatalf("leaf %d of %d is included with hashes %d and %d swapped", i, n, at-1, at)
					}
				}
			}
		}
	}
}

func TestIncludesUnderNoOtherRoot(t *testing.T) {
	roots := []string{"", impl.Sha("")}
	for n := 1; n <= impl.MaxLeaves; n++ {
		roots = append(roots, impl.TreeRoot(unlikeLeaves(n)))
	}
	for n := 1; n <= impl.MaxLeaves; n++ {
		leaves := unlikeLeaves(n)
		root := impl.TreeRoot(leaves)
		for i, data := range leaves {
			path := impl.TreePath(leaves, i)
			others := slices.Concat(roots, bentTexts(root), path)
			if n > 1 {
				others = append(others, impl.LeafHash(data))
			}
			for _, other := range others {
				if other != root && impl.Includes(other, data, i, n, path) {
					t.Fatalf("leaf %d of %d is included under %x", i, n, other)
				}
			}
		}
	}
}

// Where PathRoot says false its text is empty: an empty root is not met by that.
func TestIncludesUnderAnEmptyRoot(t *testing.T) {
	for _, n := range oddNumbers(5) {
		for _, i := range oddNumbers(5) {
			for length := range 9 {
				if impl.Includes("", "a", i, n, make([]string, length)) {
					t.Errorf("leaf %d of %d is included under an empty root with %d hashes", i, n, length)
				}
			}
		}
	}
}

// Two hashes that are put together are no leaf, nor is a leaf's data a node.
func TestNodeIsNoLeaf(t *testing.T) {
	leaves := unlikeLeaves(4)
	first := impl.LeafHash(leaves[0]) + impl.LeafHash(leaves[1])
	second := impl.TreePath(leaves, 0)[1]
	root := impl.TreeRoot(leaves)
	for _, data := range []string{first, "\x01" + first, first[1:]} {
		if impl.Includes(root, data, 0, 2, []string{second}) || impl.TreeRoot([]string{data, leaves[2] + leaves[3]}) == root {
			t.Errorf("%x is taken for a leaf", data)
		}
	}
}

func TestTreePathOfNoSuchLeaf(t *testing.T) {
	for _, n := range []int{0, 1, 2, 3, 5, 8, 31, 32, 33, 39, 40, 41, 64} {
		leaves := unlikeLeaves(n)
		for _, i := range oddNumbers(n) {
			got := impl.TreePath(leaves, i)
			if (i < 0 || i >= n || n > 40) && len(got) != 0 {
				t.Errorf("TreePath of leaf %d of %d is %x", i, n, got)
			}
		}
	}
}

func TestPathRootAtEveryNumber(t *testing.T) {
	hashes := []string{"", "a", mixedBytes(8, 31), mixedBytes(9, 32), mixedBytes(10, 33), impl.Sha("x"), "\x01", mixedBytes(11, 100)}
	for n := -2; n <= 70; n++ {
		for i := -2; i <= n+2; i++ {
			for length := range len(hashes) + 1 {
				for _, leaf := range []string{"", "b", impl.LeafHash("b")} {
					want, wantOk := wantPathRoot(leaf, i, n, hashes[:length])
					if got, ok := impl.PathRoot(leaf, i, n, hashes[:length]); got != want || ok != wantOk {
						t.Fatalf("PathRoot(%x, %d, %d) with %d hashes is %x, %v, want %x, %v", leaf, i, n, length, got, ok, want, wantOk)
					}
				}
			}
		}
	}
}

func TestPathRootFalse(t *testing.T) {
	leaf := impl.LeafHash("a")
	cases := []struct {
		name    string
		i, n    int
		lengths []int
	}{
		{"below 0", -1, 5, []int{0, 1, 2, 3}},
		{"the count", 5, 5, []int{0, 1, 2, 3}},
		{"above the count", 6, 5, []int{0, 1, 2, 3}},
		{"none of none", 0, 0, []int{0, 1}},
		{"none of fewer than none", 0, -1, []int{0, 1}},
		{"below 0 of fewer than none", -3, -2, []int{0, 1}},
		{"the least of all", math.MinInt, 8, []int{0, 1, 3}},
		{"the greatest of all", math.MaxInt, 8, []int{0, 1, 3}},
		{"of the least count", 0, math.MinInt, []int{0, 1}},
		{"of 41", 0, 41, []int{0, 1, 5, 6, 7}},
		{"the last of 41", 40, 41, []int{0, 1, 2, 3}},
		{"of 64", 0, 64, []int{0, 6}},
		{"of the greatest count", 0, math.MaxInt, []int{0, 1, 62, 63, 64}},
		{"the last of the greatest count", math.MaxInt - 1, math.MaxInt, []int{0, 1, 62, 63, 64}},
		{"one too few, one too many", 0, 5, []int{0, 2, 4}},
		{"the last of 5", 4, 5, []int{0, 2, 3}},
		{"the last of 33", 32, 33, []int{0, 2, 5, 6}},
		{"the last of 40", 39, 40, []int{0, 3, 5, 6}},
		{"the first of 40", 0, 40, []int{0, 5, 7}},
		{"one alone", 0, 1, []int{1, 2}},
	}
	for _, c := range cases {
		for _, length := range c.lengths {
			if got, ok := impl.PathRoot(leaf, c.i, c.n, slices.Repeat([]string{leaf}, length)); got != "" || ok {
				t.Errorf("%s: PathRoot at %d of %d with %d hashes is %x, %v", c.name, c.i, c.n, length, got, ok)
			}
		}
	}
}

// roomy is a copy of a list with spare room behind it, and all of that room.
func roomy(l []string) ([]string, []string) {
	all := append(slices.Clone(l), "spare 1", "spare 2", "spare 3", "spare 4", "spare 5", "spare 6", "spare 7")
	return all[:len(l)], all
}

func TestTreesWriteIntoNoArgument(t *testing.T) {
	for _, n := range []int{0, 1, 2, 3, 5, 8, 33, 40, 41} {
		leaves, all := roomy(unlikeLeaves(n))
		want := slices.Clone(all)
		impl.TreeRoot(leaves)
		for i := -1; i <= n; i++ {
			given := impl.TreePath(leaves, i)
			path, allPath := roomy(given)
			wantPath := slices.Clone(allPath)
			impl.PathRoot("leaf", i, n, path)
			impl.Includes(impl.TreeRoot(leaves), "data", i, n, path)
			if !slices.Equal(allPath, wantPath) {
				t.Errorf("the path of leaf %d of %d was written into", i, n)
			}
		}
		if !slices.Equal(all, want) {
			t.Errorf("a list of %d leaves was written into", n)
		}
	}
}

// What TreePath answered is written over, up to the end of its room: neither the leaves nor any other answer changes.
func TestTreePathOwnsItsMemory(t *testing.T) {
	for _, n := range []int{2, 3, 5, 8, 33, 40} {
		leaves, all := roomy(unlikeLeaves(n))
		want := slices.Clone(all)
		root, paths := wantTree(leaves)
		var kept [][]string
		for i := range n {
			kept = append(kept, impl.TreePath(leaves, i))
		}
		for i := range n {
			path := impl.TreePath(leaves, i)
			path = path[:cap(path)]
			for at := range path {
				path[at] = "over"
			}
		}
		for i := range n {
			if !slices.Equal(kept[i], paths[i]) || !slices.Equal(impl.TreePath(leaves, i), paths[i]) {
				t.Errorf("TreePath of leaf %d of %d changed with another answer", i, n)
			}
		}
		for i := range n {
			leaves[i] = "over"
		}
		for i := range n {
			if !slices.Equal(kept[i], paths[i]) {
				t.Errorf("TreePath of leaf %d of %d changed with the leaves", i, n)
			}
		}
		copy(leaves, want)
		if !slices.Equal(all, want) || impl.TreeRoot(leaves) != root {
			t.Errorf("a list of %d leaves was written into", n)
		}
	}
}

func TestPathRootOwnsItsMemory(t *testing.T) {
	leaf := impl.LeafHash("a")
	if got, _ := impl.PathRoot(leaf, 0, 1, nil); got != leaf || unsafe.StringData(got) == unsafe.StringData(leaf) {
		t.Errorf("PathRoot of a leaf alone is %x, and shares its memory", got)
	}
}

func TestTreesFromManyAtOnce(t *testing.T) {
	leaves := unlikeLeaves(impl.MaxLeaves)
	var wait sync.WaitGroup
	for range 8 {
		wait.Go(func() {
			for n := 1; n <= impl.MaxLeaves; n++ {
				root := impl.TreeRoot(leaves[:n])
				for i := range n {
					if !impl.Includes(root, leaves[i], i, n, impl.TreePath(leaves[:n], i)) {
						t.Errorf("leaf %d of %d is not included", i, n)
					}
				}
			}
		})
	}
	wait.Wait()
}
