package tests

import (
	"math"
	"slices"
	"testing"

	"loop.example/g03002/impl"
)

// Promise 6: every element has a path to the root.

// digests returns n digests that are all different: 11, 12, 13 and so on.
func digests(n int) []int {
	l := []int{}
	for i := range n {
		l = append(l, 11+i)
	}
	return l
}

// digestLists are lists of many lengths, also with equal, zero, negative and very large digests.
func digestLists() [][]int {
	lists := [][]int{
		{0}, {-1}, {math.MinInt}, {math.MaxInt}, {impl.Modulus}, {0, 0}, {0, 1}, {-1, -2}, {7, 7, 7}, {0, 0, 0}, {-1, -2, -3}, {7, 7, 7, 7}, {0, 0, 0, 0, 0}, {math.MinInt, math.MaxInt, 0},
		{5, 5, 6, 6, 5, 5}, {1, 2, 1, 2, 1, 2, 1}, {-5, 0, 5, -5, 0, 5, -5, 0, 5}, {math.MaxInt, math.MaxInt, math.MaxInt, math.MinInt, math.MinInt},
	}
	for _, n := range []int{1, 2, 3, 4, 5, 6, 7, 8, 9, 10, 15, 16, 17, 31, 32, 33, 63, 64, 65, 100, 511, 512, 513, 999, 1000} {
		lists = append(lists, digests(n))
	}
	return append(lists, make([]int, 33), slices.Repeat([]int{-9}, 17))
}

// wantedRoot returns the root of a list by the words of the document.
func wantedRoot(l []int) int {
	if len(l) == 0 {
		return 0
	}
	if len(l) == 1 {
		return l[0]
	}
	half := len(l)/2 + len(l)%2
	return impl.Hash([]int{wantedRoot(l[:half]), wantedRoot(l[half:])})
}

// wantedPath returns the path to the element i, which is in the list, by going down from the root.
func wantedPath(l []int, i int) []int {
	path := []int{}
	for len(l) > 1 {
		half := len(l)/2 + len(l)%2
		if i < half {
			path = append(path, wantedRoot(l[half:]))
			l = l[:half]
		} else {
			path = append(path, wantedRoot(l[:half]))
			l = l[half:]
			i -= half
		}
	}
	slices.Reverse(path)
	return path
}

func TestDigestOf(t *testing.T) {
	cases := []struct {
		r    impl.Resource
		want int
	}{
		{page(), 986430772},
		{resource(impl.RsPage, []int{}, impl.Address{}), 986430772},
		{page(4), 3944768},
		{page(0, 1, 2, 3, 4, 255), 799211209},
		{data(), 443513981},
		{data(4), 1957377994},
		{moveTo(address(1, 2, 3)), 1657883621},
		{nothing(), 1505164046},
		{impl.Resource{}, 1529347563},
		{resource(-5, []int{-1, 256}, address(-1, 100, -2)), 1426348088},
	}
	for _, c := range cases {
		if got := impl.DigestOf(c.r); got != c.want {
			t.Errorf("DigestOf(%v) = %d, want %d", c.r, got, c.want)
		}
	}
}

func TestDigestOfAnyResource(t *testing.T) {
	resources := mixedResources()
	for _, c := range validResources() {
		resources = append(resources, c.r)
	}
	for _, c := range invalidResources() {
		resources = append(resources, c.r)
	}
	for _, r := range resources {
		numbers := append([]int{r.Kind, r.To.Host, r.To.Path, r.To.Query, len(r.Body)}, r.Body...)
		if got, want := impl.DigestOf(r), impl.Hash(numbers); got != want {
			t.Errorf("DigestOf(%v) = %d, want %d", r, got, want)
		}
	}
}

func TestValidResourcesHaveDifferentDigests(t *testing.T) {
	known := map[int]impl.Resource{}
	for _, c := range validResources() {
		digest := impl.DigestOf(c.r)
		if other, isKnown := known[digest]; isKnown && !impl.EqualResources(other, c.r) {
			t.Errorf("%v and %v have the digest %d", other, c.r, digest)
		}
		known[digest] = c.r
	}
}

func TestRootOf(t *testing.T) {
	cases := []struct {
		l    []int
		want int
	}{
		{nil, 0},
		{[]int{}, 0},
		{[]int{0}, 0},
		{[]int{11}, 11},
		{[]int{-1}, -1},
		{[]int{impl.Modulus}, impl.Modulus},
		{[]int{math.MinInt}, math.MinInt},
		{[]int{math.MaxInt}, math.MaxInt},
		{[]int{0, 0}, 667760217},
		{[]int{0, 1}, 667760218},
		{[]int{impl.Modulus, impl.Modulus + 1}, 667760218},
		{[]int{0, 0, 0}, 700522571},
		{[]int{-1, -2, -3}, 1419902055},
		{[]int{7, 7, 7, 7}, 627593680},
		{digests(2), 678760262},
		{digests(3), 1367282785},
		{digests(4), 2048043042},
		{digests(5), 430709475},
		{digests(6), 1102577166},
		{digests(7), 1775444860},
		{digests(8), 312721482},
		{digests(9), 1975857346},
		{digests(16), 86839988},
		{digests(17), 1790898899},
		{digests(1000), 2003748296},
		{digests(1001), 807166302},
		{digests(1024), 1389061933},
		{digests(1025), 1379824201},
	}
	for _, c := range cases {
		if got := impl.RootOf(c.l); got != c.want {
			t.Errorf("RootOf of %d digests = %d, want %d", len(c.l), got, c.want)
		}
	}
}

func TestRootOfEveryLength(t *testing.T) {
	for n := range 300 {
		if got, want := impl.RootOf(digests(n)), wantedRoot(digests(n)); got != want {
			t.Errorf("RootOf of %d digests = %d, want %d", n, got, want)
		}
	}
	for _, l := range digestLists() {
		if got, want := impl.RootOf(l), wantedRoot(l); got != want {
			t.Errorf("RootOf(%v) = %d, want %d", l, got, want)
		}
	}
}

func TestRootOfDependsOnEveryDigest(t *testing.T) {
	for _, n := range []int{1, 2, 3, 4, 5, 8, 9, 17, 1000, 1001} {
		root := impl.RootOf(digests(n))
		for i := range n {
			other := digests(n)
			other[i] = 5
			if impl.RootOf(other) == root {
				t.Errorf("the root of %d digests does not depend on the one at %d", n, i)
			}
		}
	}
}

func TestPathTo(t *testing.T) {
	cases := []struct {
		n    int
		i    int
		want []int
	}{
		{1, 0, nil},
		{2, 0, []int{12}},
		{2, 1, []int{11}},
		{3, 0, []int{12, 13}},
		{3, 1, []int{11, 13}},
		{3, 2, []int{678760262}},
		{4, 0, []int{12, 680760270}},
		{4, 1, []int{11, 680760270}},
		{4, 2, []int{14, 678760262}},
		{4, 3, []int{13, 678760262}},
		{5, 0, []int{12, 13, 681760274}},
		{5, 1, []int{11, 13, 681760274}},
		{5, 2, []int{678760262, 681760274}},
		{5, 3, []int{15, 1367282785}},
		{5, 4, []int{14, 1367282785}},
		{8, 3, []int{13, 678760262, 1318008745}},
		{8, 4, []int{16, 684760286, 2048043042}},
		{9, 0, []int{12, 13, 681760274, 598629259}},
		{9, 4, []int{14, 1367282785, 598629259}},
		{9, 5, []int{17, 685760290, 430709475}},
		{9, 8, []int{18, 683760282, 430709475}},
		{1000, 0, []int{12, 680760270, 1318008745, 10042406, 121111151, 1717521514, 2000359803, 1177921049, 631618199, 136097518}},
		{1000, 499, []int{1175762250, 1728758199, 216413499, 2030937549, 237155632, 1610624204, 906840297, 1992808007, 136097518}},
		{1000, 500, []int{512, 1180762270, 258034794, 419952979, 655214083, 1333119078, 1894530353, 93598041, 56722230, 1999993965}},
		{1000, 999, []int{1675764250, 668784248, 626324072, 417556834, 2000236843, 1592300950, 1970000936, 1417912038, 1999993965}},
		{1001, 0, []int{12, 680760270, 1318008745, 10042406, 121111151, 1717521514, 402287203, 591636851, 746432524, 1854651610}},
		{1001, 1000, []int{1676764254, 2096888409, 1662231011, 1896093789, 229941513, 226464704, 1383716738, 1532726363, 1276332034}},
	}
	for _, c := range cases {
		if got := impl.PathTo(digests(c.n), c.i); !slices.Equal(got, c.want) {
			t.Errorf("PathTo the element %d of %d = %v, want %v", c.i, c.n, got, c.want)
		}
	}
}

func TestPathToRejects(t *testing.T) {
	for _, l := range append(digestLists(), nil, []int{}, digests(1001)) {
		n := len(l)
		for _, i := range []int{-1, -2, -n, -n - 1, n, n + 1, 2 * n, 1 << 32, math.MinInt, math.MinInt + 1, math.MaxInt, math.MaxInt - 1} {
			if isThere := i >= 0 && i < n; isThere {
				continue
			}
			if got := impl.PathTo(l, i); len(got) != 0 {
				t.Errorf("PathTo the element %d of %d = %v", i, n, got)
			}
		}
	}
}

func TestPathToEveryElement(t *testing.T) {
	for n := range 70 {
		for i := range n {
			if got, want := impl.PathTo(digests(n), i), wantedPath(digests(n), i); !slices.Equal(got, want) {
				t.Errorf("PathTo the element %d of %d = %v, want %v", i, n, got, want)
			}
		}
	}
}

func TestEveryElementHasAPathToTheRoot(t *testing.T) {
	for _, l := range digestLists() {
		root := impl.RootOf(l)
		for i, digest := range l {
			path := impl.PathTo(l, i)
			if !impl.CheckPath(root, len(l), i, digest, path) {
				t.Errorf("the path %v to the element %d of %d does not lead to the root", path, i, len(l))
			}
			if got := impl.DepthOf(len(l), i); got != len(path) {
				t.Errorf("the path to the element %d of %d has %d steps, and its depth is %d", i, len(l), len(path), got)
			}
		}
	}
}

func TestNoOtherElementHasThePath(t *testing.T) {
	for _, n := range []int{1, 2, 3, 4, 5, 6, 7, 8, 9, 17, 33, 100} {
		l := digests(n)
		root := impl.RootOf(l)
		for i := range n {
			path := impl.PathTo(l, i)
			for at := -1; at <= n+1; at++ {
				for _, digest := range l {
					want := at == i && digest == l[i]
					if impl.CheckPath(root, n, at, digest, path) != want {
						t.Fatalf("CheckPath of the digest %d at %d of %d, with the path to %d, is not %v", digest, at, n, i, want)
					}
				}
			}
		}
	}
}

func TestCheckPath(t *testing.T) {
	cases := []struct {
		name   string
		root   int
		n      int
		i      int
		digest int
		path   []int
		want   bool
	}{
		{"a list of one", 11, 1, 0, 11, nil, true},
		{"an empty path", 11, 1, 0, 11, []int{}, true},
		{"a digest of zero", 0, 1, 0, 0, nil, true},
		{"a negative digest", -1, 1, 0, -1, nil, true},
		{"another digest in a list of one", 11, 1, 0, 12, nil, false},
		{"a digest beyond the modulus in a list of one", 11, 1, 0, 11 + impl.Modulus, nil, false},
		{"a path in a list of one", 11, 1, 0, 11, []int{12}, false},
		{"a path of zero in a list of one", 11, 1, 0, 11, []int{0}, false},
		{"the element after a list of one", 11, 1, 1, 11, nil, false},
		{"no list", 0, 0, 0, 0, nil, false},
		{"no list and no element", 0, 0, -1, 0, nil, false},
		{"a negative length", 11, -1, 0, 11, nil, false},
		{"a negative length and element", 11, -1, -1, 11, nil, false},
		{"the least length", 11, math.MinInt, 0, 11, nil, false},
		{"the greatest length", 11, math.MaxInt, 0, 11, nil, false},
		{"the first of two", 678760262, 2, 0, 11, []int{12}, true},
		{"the last of two", 678760262, 2, 1, 12, []int{11}, true},
		{"the halves of two in the other order", 678760262, 2, 0, 12, []int{11}, false},
		{"the other index of two", 678760262, 2, 1, 11, []int{12}, false},
		{"another root of two", 678760263, 2, 0, 11, []int{12}, false},
		{"a root beyond the modulus", 678760262 + impl.Modulus, 2, 0, 11, []int{12}, false},
		{"two without a path", 678760262, 2, 0, 11, nil, false},
		{"two with a longer path", 678760262, 2, 0, 11, []int{12, 13}, false},
		{"the last of three", 1367282785, 3, 2, 13, []int{678760262}, true},
		{"the middle of three", 1367282785, 3, 1, 12, []int{11, 13}, true},
		{"the path of three in another order", 1367282785, 3, 1, 12, []int{13, 11}, false},
		{"a half in place of the last digest", 1367282785, 2, 0, 678760262, []int{13}, true},
		{"the index -1 with no path", 11, 5, -1, 11, nil, false},
		{"the index n with no path", 11, 5, 5, 11, nil, false},
	}
	for _, c := range cases {
		if got := impl.CheckPath(c.root, c.n, c.i, c.digest, c.path); got != c.want {
			t.Errorf("%s: CheckPath(%d, %d, %d, %d, %v) = %v", c.name, c.root, c.n, c.i, c.digest, c.path, got)
		}
	}
}

func TestCheckPathAtTheLimitOfLengths(t *testing.T) {
	for _, n := range []int{999, 1000, 1001, 1002, 1024, 2000} {
		l := digests(n)
		root := impl.RootOf(l)
		for _, i := range []int{0, 1, n/2 - 1, n / 2, n - 2, n - 1} {
			want := n <= 1000
			if got := impl.CheckPath(root, n, i, l[i], impl.PathTo(l, i)); got != want {
				t.Errorf("CheckPath of the element %d of %d = %v", i, n, got)
			}
		}
	}
}

func TestCheckPathRejectsWhatIsChanged(t *testing.T) {
	for _, n := range []int{1, 2, 3, 4, 5, 8, 9, 1000} {
		l := digests(n)
		root := impl.RootOf(l)
		for i, digest := range l {
			path := impl.PathTo(l, i)
			for name, isTaken := range map[string]bool{
				"the next root":              impl.CheckPath(root+1, n, i, digest, path),
				"the negative root":          impl.CheckPath(-root, n, i, digest, path),
				"the root 0":                 impl.CheckPath(0, n, i, digest, path),
				"the next digest":            impl.CheckPath(root, n, i, digest+1, path),
				"the digest 0":               impl.CheckPath(root, n, i, 0, path),
				"the index -1":               impl.CheckPath(root, n, -1, digest, path),
				"the index n":                impl.CheckPath(root, n, n, digest, path),
				"the negative length":        impl.CheckPath(root, -n, i, digest, path),
				"the least index":            impl.CheckPath(root, n, math.MinInt, digest, path),
				"the greatest index":         impl.CheckPath(root, n, math.MaxInt, digest, path),
				"a path with a zero more":    impl.CheckPath(root, n, i, digest, append(slices.Clone(path), 0)),
				"a path with a zero before":  impl.CheckPath(root, n, i, digest, append([]int{0}, path...)),
				"a path that is twice there": impl.CheckPath(root, n, i, digest, append(slices.Clone(path), append(path, 0)...)),
			} {
				if isTaken {
					t.Errorf("CheckPath of the element %d of %d takes %s", i, n, name)
				}
			}
		}
	}
}

func TestCheckPathRejectsAChangedPath(t *testing.T) {
	for _, n := range []int{2, 3, 4, 5, 8, 9, 1000} {
		l := digests(n)
		root := impl.RootOf(l)
		for i, digest := range l {
			path := impl.PathTo(l, i)
			if impl.CheckPath(root, n, i, digest, nil) || impl.CheckPath(root, n, i, digest, path[1:]) || impl.CheckPath(root, n, i, digest, path[:len(path)-1]) {
				t.Errorf("CheckPath of the element %d of %d takes a shorter path", i, n)
			}
			for at := range path {
				changed := slices.Clone(path)
				changed[at]++
				if impl.CheckPath(root, n, i, digest, changed) {
					t.Errorf("CheckPath of the element %d of %d takes a path changed at %d", i, n, at)
				}
			}
		}
	}
}

// halvesBefore tells for each step of the path to the element i of n whether the other half comes first, the step nearest to the element first.
func halvesBefore(n int, i int) []bool {
	before := []bool{}
	for n > 1 {
		half := n/2 + n%2
		before = append(before, i >= half)
		if i < half {
			n = half
		} else {
			n -= half
			i -= half
		}
	}
	slices.Reverse(before)
	return before
}

func TestCheckPathOfASwappedPath(t *testing.T) {
	for _, n := range []int{3, 4, 5, 8, 9, 1000} {
		l := digests(n)
		root := impl.RootOf(l)
		for i, digest := range l {
			path, before := impl.PathTo(l, i), halvesBefore(n, i)
			for at := 1; at < len(path); at++ {
				swapped := slices.Clone(path)
				swapped[at-1], swapped[at] = path[at], path[at-1]
				// Where both other halves come first, Hash collides: it takes their sum times its factor.
				want := before[at-1] && before[at]
				if got := impl.CheckPath(root, n, i, digest, swapped); got != want {
					t.Fatalf("CheckPath of the element %d of %d with a path swapped at %d = %v", i, n, at, got)
				}
			}
		}
	}
}

func TestDepthOf(t *testing.T) {
	cases := []struct {
		n    int
		want []int
	}{
		{1, []int{0}},
		{2, []int{1, 1}},
		{3, []int{2, 2, 1}},
		{4, []int{2, 2, 2, 2}},
		{5, []int{3, 3, 2, 2, 2}},
		{6, []int{3, 3, 2, 3, 3, 2}},
		{7, []int{3, 3, 3, 3, 3, 3, 2}},
		{8, []int{3, 3, 3, 3, 3, 3, 3, 3}},
		{9, []int{4, 4, 3, 3, 3, 3, 3, 3, 3}},
		{11, []int{4, 4, 3, 4, 4, 3, 4, 4, 3, 3, 3}},
		{16, slices.Repeat([]int{4}, 16)},
		{17, append([]int{5, 5}, slices.Repeat([]int{4}, 15)...)},
	}
	for _, c := range cases {
		for i, want := range c.want {
			if got := impl.DepthOf(c.n, i); got != want {
				t.Errorf("DepthOf(%d, %d) = %d, want %d", c.n, i, got, want)
			}
		}
	}
}

func TestDepthOfLongLists(t *testing.T) {
	cases := []struct {
		n    int
		i    int
		want int
	}{
		{511, 0, 9}, {511, 510, 8}, {512, 0, 9}, {512, 511, 9}, {513, 0, 10}, {513, 512, 9},
		{999, 0, 10}, {999, 998, 9}, {1000, 0, 10}, {1000, 499, 9}, {1000, 500, 10}, {1000, 999, 9},
	}
	for _, c := range cases {
		if got := impl.DepthOf(c.n, c.i); got != c.want {
			t.Errorf("DepthOf(%d, %d) = %d, want %d", c.n, c.i, got, c.want)
		}
	}
}

func TestDepthOfRejects(t *testing.T) {
	ends := []int{math.MinInt, math.MinInt + 1, -1 << 32, -1001, -1, 0, 1, 2, 3, 5, 999, 1000, 1001, 1002, 1 << 32, 1<<32 + 5, math.MaxInt - 1, math.MaxInt}
	for _, n := range ends {
		for _, i := range append([]int{n - 1, n, n + 1}, ends...) {
			isThere := 0 <= i && i < n && n <= 1000
			if got := impl.DepthOf(n, i); (got != -1) != isThere {
				t.Errorf("DepthOf(%d, %d) = %d", n, i, got)
			}
			if !isThere && (impl.CheckPath(7, n, i, 7, nil) || impl.CheckPath(7, n, i, 7, []int{7})) {
				t.Errorf("CheckPath takes the element %d of %d", i, n)
			}
		}
	}
}

func TestDigestsLeaveTheirArguments(t *testing.T) {
	for _, n := range []int{0, 1, 2, 3, 4, 5, 8, 9, 1000} {
		l, whole := roomyInts(digests(n))
		path, wholePath := roomyInts(impl.PathTo(l, n-1))
		body, wholeBody := roomyInts(digests(n))
		was, wasPath, wasBody := slices.Clone(whole), slices.Clone(wholePath), slices.Clone(wholeBody)
		impl.RootOf(l)
		impl.DigestOf(resource(impl.RsPage, body, impl.Address{}))
		for _, i := range []int{-1, 0, n / 2, n - 1, n} {
			impl.PathTo(l, i)
			impl.CheckPath(impl.RootOf(l), n, i, 11, path)
			impl.CheckPath(5, n, i, 11, path[:0])
		}
		if !slices.Equal(whole, was) || !slices.Equal(wholePath, wasPath) || !slices.Equal(wholeBody, wasBody) {
			t.Errorf("an argument of %d digests was changed", n)
		}
	}
}

func TestPathToHasItsOwnMemory(t *testing.T) {
	for _, n := range []int{1, 2, 3, 4, 5, 8, 9, 1000} {
		for _, i := range []int{-1, 0, n / 2, n - 1, n} {
			l, whole := roomyInts(digests(n))
			was := slices.Clone(whole)
			first, second := impl.PathTo(l, i), impl.PathTo(l, i)
			want := slices.Clone(second)
			// What a caller writes into a result, or behind it, shows nowhere else.
			for at := range first {
				first[at] = -99
			}
			_ = append(first, -99, -99)
			clear(l)
			if !slices.Equal(second, want) || !slices.Equal(whole[n:], was[n:]) {
				t.Errorf("the path to the element %d of %d shares memory with the list or with another path", i, n)
			}
		}
	}
}

func TestWritingIntoAPathLeavesTheList(t *testing.T) {
	for _, n := range []int{2, 3, 5, 9} {
		for i := range n {
			l := digests(n)
			path := impl.PathTo(l, i)
			clear(path)
			if !slices.Equal(l, digests(n)) {
				t.Errorf("the path to the element %d of %d shares memory with the list", i, n)
			}
		}
	}
}
