package tests

import (
	"math/big"
	"math/rand"
	"strings"
	"testing"

	"loop.example/g00142/impl"
)

func char(c byte) impl.Rx { return impl.Rx{Kind: impl.RxChar, N: int(c)} }

func cat(kids ...impl.Rx) impl.Rx { return impl.Rx{Kind: impl.RxCat, Kids: kids} }

func alt(kids ...impl.Rx) impl.Rx { return impl.Rx{Kind: impl.RxAlt, Kids: kids} }

func group(n int, kid impl.Rx) impl.Rx {
	return impl.Rx{Kind: impl.RxGroup, N: n, Kids: []impl.Rx{kid}}
}

func repeat(least, most int, kid impl.Rx) impl.Rx {
	return impl.Rx{Kind: impl.RxRepeat, N: least, M: most, Kids: []impl.Rx{kid}}
}

func many(n int, kid impl.Rx) []impl.Rx {
	var out []impl.Rx
	for range n {
		out = append(out, kid)
	}
	return out
}

// wantTree asks RxOK and Groups of a tree: how many groups, or -1 if it is not right.
func wantTree(t *testing.T, r impl.Rx, groups int) {
	t.Helper()
	code := impl.OK
	if groups < 0 {
		code = impl.ErrBad
	}
	n, got := impl.Groups(r)
	if impl.RxOK(r) != (groups >= 0) || n != max(groups, 0) || got != code {
		t.Errorf("RxOK %t, Groups %d with code %d, want %d groups with code %d: kind %d", impl.RxOK(r), n, got, groups, code, r.Kind)
	}
}

// Every Kind, right and with each of its cells wrong: all cells with all values.
func TestTreeCells(t *testing.T) {
	ns := []int{least, -256, -2, -1, 0, 1, 2, 9, 19, 20, 21, 97, 146, 255, 256, greatest}
	all := between(0, 255)
	sets := map[string]bool{"": false, "a": true, "ab": true, "\x00\xff": true, all: true, all[1:]: true, "ba": false, "aa": false, "aba": false, "abb": false, "\xff\x00": false, all + all: false, all + "\xff": false, long(70000): false}
	for kind := -1; kind <= 11; kind++ {
		for _, n := range ns {
			for _, m := range ns {
				for set, setRight := range sets {
					for kids := range 4 {
						r := impl.Rx{Kind: kind, N: n, M: m, Set: set, Kids: many(kids, impl.Rx{Kind: impl.RxAny})}
						noN, noM, noSet, noKids := n == 0, m == 0, set == "", kids == 0
						right, groups := false, 0
						switch kind {
						case 1:
							right = n >= 0 && n <= 255 && noM && noSet && noKids
						case 2, 4, 5:
							right = noN && noM && noSet && noKids
						case 3:
							right = noN && noM && setRight && noKids
						case 6:
							right, groups = n == 1 && noM && noSet && kids == 1, 1
						case 7:
							right = noN && noM && noSet
						case 8:
							right = noN && noM && noSet && kids >= 2
						case 9:
							right = n >= 0 && n <= 20 && (m == -1 || m >= n && m <= 146) && noSet && kids == 1
						}
						if !right {
							groups = -1
						}
						wantTree(t, r, groups)
						wantTree(t, cat(char('x'), r), groups)
					}
				}
			}
		}
	}
}

func TestTreeEachByte(t *testing.T) {
	for c := -300; c <= 600; c++ {
		want := -1
		if 0 <= c && c <= 255 {
			want = 0
		}
		wantTree(t, impl.Rx{Kind: impl.RxChar, N: c}, want)
	}
}

func TestTreeSets(t *testing.T) {
	r := rand.New(rand.NewSource(8))
	for range 4000 {
		b := make([]byte, 1+r.Intn(4))
		right := 0
		for i := range b {
			b[i] = byte(r.Intn(5) + r.Intn(2)*251)
			if i > 0 && b[i] <= b[i-1] {
				right = -1
			}
		}
		wantTree(t, impl.Rx{Kind: impl.RxSet, Set: string(b)}, right)
	}
}

// A repeat: N up to MaxTimes, M not below N, or -1; M has no bound but the weight.
func TestTreeRepeats(t *testing.T) {
	for n := -3; n <= 23; n++ {
		for m := -4; m <= 160; m++ {
			want := -1
			if 0 <= n && n <= impl.MaxTimes && (m == -1 || m >= n && m <= 149) {
				want = 0
			}
			wantTree(t, repeat(n, m, char('a')), want)
		}
	}
}

// Groups have their numbers in the order in which they open.
func TestTreeGroups(t *testing.T) {
	a := char('a')
	for _, c := range []struct {
		tree impl.Rx
		want int
	}{
		{a, 0},
		{cat(), 0},
		{group(1, a), 1},
		{group(0, a), -1},
		{group(2, a), -1},
		{group(-1, a), -1},
		{group(least, a), -1},
		{group(greatest, a), -1},
		{group(1, group(2, a)), 2},
		{group(2, group(1, a)), -1},
		{group(1, group(1, a)), -1},
		{group(1, group(3, a)), -1},
		{cat(group(1, a), group(2, a)), 2},
		{cat(group(2, a), group(1, a)), -1},
		{cat(group(1, a), group(1, a)), -1},
		{cat(group(1, a), group(3, a)), -1},
		{cat(group(1, group(2, a)), group(3, a)), 3},
		{cat(group(1, group(3, a)), group(2, a)), -1},
		{alt(group(1, a), group(2, a)), 2},
		{alt(group(1, a), group(1, a)), -1},
		{repeat(2, 2, group(1, a)), 1},
		{cat(repeat(0, -1, group(1, a)), group(2, a)), 2},
		{cat(a, group(1, cat(a, group(2, cat()), a, group(3, alt(a, group(4, a)))))), 4},
		{group(1, cat(group(2, a), impl.Rx{})), -1},
		{impl.Rx{Kind: impl.RxGroup, N: 1}, -1},
		{impl.Rx{Kind: impl.RxGroup, N: 1, Kids: []impl.Rx{a, a}}, -1},
		{impl.Rx{}, -1},
		{cat(impl.Rx{}), -1},
		{cat(cat(cat(a, char('b'), impl.Rx{Kind: 10}))), -1},
		{alt(a), -1},
		{alt(), -1},
		{alt(a, a), 0},
		{alt(cat(), cat()), 0},
		{cat(a, alt(a)), -1},
	} {
		wantTree(t, c.tree, c.want)
	}
}

func TestTreeMaxGroups(t *testing.T) {
	for n := 0; n <= 12; n++ {
		deep := cat()
		for i := n; i >= 1; i-- {
			deep = group(i, deep)
		}
		var row []impl.Rx
		for i := range n {
			row = append(row, group(i+1, cat()))
		}
		want := n
		if n > impl.MaxGroups {
			want = -1
		}
		wantTree(t, deep, want)
		wantTree(t, cat(row...), want)
	}
}

func chain(n int) impl.Rx {
	r := cat()
	for range n - 1 {
		r = cat(r)
	}
	return r
}

func TestTreeMaxNodes(t *testing.T) {
	for n := 1; n <= 130; n++ {
		want := 0
		if n > impl.MaxNodes {
			want = -1
		}
		wantTree(t, chain(n), want)
		wantTree(t, cat(many(n-1, char('a'))...), want)
		if n > 2 {
			wantTree(t, alt(many(n-1, cat())...), want)
			wantTree(t, cat(chain(n/2), chain(n-1-n/2)), want)
		}
	}
}

func TestTreeMaxWeight(t *testing.T) {
	a := char('a')
	pad := func(n int, kids ...impl.Rx) impl.Rx { return cat(append(kids, many(n, a)...)...) }
	for _, c := range []struct{ right, wrong impl.Rx }{
		{repeat(0, 149, a), repeat(0, 150, a)},
		{repeat(20, 149, a), repeat(20, 150, a)},
		{pad(1, repeat(0, 148, a)), pad(2, repeat(0, 148, a))},
		{pad(99, repeat(20, 99, a)), pad(100, repeat(20, 99, a))},
		{repeat(0, 1, repeat(0, 73, a)), repeat(0, 1, repeat(0, 74, a))},
		{repeat(0, 99, cat(a)), repeat(0, 100, cat(a))},
		{repeat(0, 2, pad(98)), repeat(0, 2, pad(99))},
		{repeat(2, -1, pad(98)), repeat(2, -1, pad(99))},
		{repeat(2, 2, pad(98)), repeat(2, 2, pad(99))},
		{repeat(1, -1, repeat(1, -1, pad(72))), repeat(1, -1, repeat(1, -1, pad(73)))},
		{repeat(20, -1, repeat(5, -1, a)), repeat(20, -1, repeat(6, -1, a))},
		{repeat(0, -1, pad(117)), repeat(0, -1, pad(119))},
		{repeat(4, 4, repeat(9, 9, cat(a, a))), repeat(5, 5, repeat(9, 9, repeat(0, 2, a)))},
		{cat(repeat(0, 99, a), repeat(0, 48, a), a), cat(repeat(0, 99, a), repeat(0, 48, a), a, a)},
	} {
		for want, tree := range map[int]impl.Rx{0: c.right, -1: c.wrong} {
			if w := weightOf(tree); (w.Cmp(big.NewInt(impl.MaxWeight)) > 0 || countNodes(tree) > impl.MaxNodes) != (want < 0) {
				t.Errorf("a row of the test is wrong: weight %s, wanted %d", w, want)
			}
			wantTree(t, tree, want)
		}
	}
}

// Nothing wraps, however great the numbers of repeats are.
func TestTreeWeightsDoNotWrap(t *testing.T) {
	greats := []int{150, 299, 300, 301, 1 << 16, 1<<31 - 1, 1<<32 - 1, 1 << 32, 1<<61 - 1, 1<<62 - 1, 1 << 62, greatest - 1, greatest, 1<<63 - 301}
	for _, m := range greats {
		for _, n := range []int{0, 1, 20} {
			wantTree(t, repeat(n, m, char('a')), -1)
			wantTree(t, repeat(n, m, cat()), -1)
			wantTree(t, repeat(n, m, cat(many(3, char('a'))...)), -1)
			for _, m2 := range greats {
				wantTree(t, repeat(n, m2, repeat(n, m, char('a'))), -1)
			}
			wantTree(t, cat(repeat(n, m, cat()), repeat(n, m, cat())), -1)
		}
	}
	deep := char('a')
	for range 110 {
		deep = repeat(20, 149, deep)
	}
	wantTree(t, deep, -1)
}

// A random tree, mostly right, and the model's word on it.
func TestTreeRandom(t *testing.T) {
	r := rand.New(rand.NewSource(9))
	rights := 0
	for range 30000 {
		next := 0
		tree := randomTree(r, 4, &next)
		want := countGroups(tree)
		if !modelRight(tree, new(int)) || want > impl.MaxGroups || countNodes(tree) > impl.MaxNodes || weightOf(tree).Cmp(big.NewInt(impl.MaxWeight)) > 0 {
			want = -1
		} else {
			rights++
		}
		wantTree(t, tree, want)
	}
	if rights < 3000 {
		t.Error("too few right trees to tell anything:", rights)
	}
}

func randomTree(r *rand.Rand, depth int, groups *int) impl.Rx {
	out := impl.Rx{Kind: 1 + r.Intn(5)}
	if depth > 0 && r.Intn(4) > 0 {
		out.Kind = 6 + r.Intn(4)
	}
	kids := 0
	switch out.Kind {
	case impl.RxChar:
		out.N = r.Intn(256)
	case impl.RxSet:
		out.Set = "abc"[r.Intn(3):]
	case impl.RxGroup:
		*groups++
		out.N, kids = *groups, 1
	case impl.RxCat:
		kids = r.Intn(5)
	case impl.RxAlt:
		kids = 2 + r.Intn(3)
	case impl.RxRepeat:
		out.N, kids = r.Intn(3), 1
		out.M = []int{-1, out.N, out.N + r.Intn(5)}[r.Intn(3)]
	}
	if r.Intn(60) == 0 {
		kids += 1 - r.Intn(3)
	}
	if r.Intn(60) == 0 {
		out.N += 1 - r.Intn(3)
	}
	if r.Intn(60) == 0 {
		out.M += 1 - r.Intn(3)
	}
	if r.Intn(60) == 0 {
		out.Set += "c"
	}
	for range kids {
		out.Kids = append(out.Kids, randomTree(r, depth-1, groups))
	}
	return out
}

// modelRight tells whether a tree is as the table says, its limits left out.
func modelRight(r impl.Rx, groups *int) bool {
	n, m, kids := r.N == 0, r.M == 0, len(r.Kids) == 0
	set := r.Set == ""
	switch r.Kind {
	case impl.RxChar:
		n = r.N >= 0 && r.N <= 255
	case impl.RxAny, impl.RxBegin, impl.RxEnd:
	case impl.RxSet:
		set = r.Set != "" && r.Set == union(r.Set)
	case impl.RxGroup:
		*groups++
		n, kids = r.N == *groups, len(r.Kids) == 1
	case impl.RxCat:
		kids = true
	case impl.RxAlt:
		kids = len(r.Kids) > 1
	case impl.RxRepeat:
		n, m, kids = r.N >= 0 && r.N <= 20, r.M == -1 || r.M >= r.N, len(r.Kids) == 1
	default:
		return false
	}
	for _, kid := range r.Kids {
		if !modelRight(kid, groups) {
			return false
		}
	}
	return n && m && kids && set
}

// Trees that are very deep, very wide, or hold themselves have an end, too.
func TestTreeGreat(t *testing.T) {
	deep := cat()
	for range 1000000 {
		deep = cat(deep)
	}
	wantTree(t, deep, -1)
	nested := char('a')
	for range 1000000 {
		nested = repeat(0, -1, nested)
	}
	wantTree(t, nested, -1)
	wantTree(t, cat(many(1000000, char('a'))...), -1)
	wantTree(t, alt(many(impl.MaxList+1, cat())...), -1)
	round := []impl.Rx{{Kind: impl.RxCat}, {Kind: impl.RxCat}}
	round[0].Kids = round
	wantTree(t, cat(round...), -1)
	ring := []impl.Rx{{Kind: impl.RxRepeat, M: -1}}
	ring[0].Kids = ring
	wantTree(t, ring[0], -1)
	wantTree(t, impl.Rx{Kind: impl.RxSet, Set: strings.Repeat(between(0, 255), 4096)}, -1)
	wantTree(t, impl.Rx{Kind: impl.RxCat, Set: long(1 << 20)}, -1)
}
