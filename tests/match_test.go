package tests

import (
	"math/rand"
	"slices"
	"strings"
	"testing"

	"loop.example/g00142/impl"
)

var (
	anyByte = impl.Rx{Kind: impl.RxAny}
	begin   = impl.Rx{Kind: impl.RxBegin}
	end     = impl.Rx{Kind: impl.RxEnd}
)

func setOf(bytes string) impl.Rx { return impl.Rx{Kind: impl.RxSet, Set: bytes} }

func star(kid impl.Rx) impl.Rx { return repeat(0, -1, kid) }

// treeOf is the tree of an extended pattern.
func treeOf(t *testing.T, pattern string) impl.Rx {
	t.Helper()
	r, code, at := impl.Compile(pattern, true)
	if code != impl.OK {
		t.Fatalf("Compile(%q): code %d at %d", pattern, code, at)
	}
	return r
}

func wantFind(t *testing.T, r impl.Rx, text string, from int, want ...int) {
	t.Helper()
	got, code := impl.Find(r, text, from)
	if !slices.Equal(got, want) || code != impl.OK {
		t.Errorf("Find(%s, %q, %d): %v with code %d, want %v", shown(r), text, from, got, code, want)
	}
}

func wantFindCode(t *testing.T, r impl.Rx, text string, from, want int) {
	t.Helper()
	got, code := impl.Find(r, text, from)
	if len(got) != 0 || code != want {
		t.Errorf("Find of %d bytes from %d: %v with code %d, want code %d", len(text), from, got, code, want)
	}
}

func wantAll(t *testing.T, r impl.Rx, text string, want ...[]int) {
	t.Helper()
	got, code := impl.MatchAll(r, text)
	if !sameSpans(got, want) || code != impl.OK {
		t.Errorf("MatchAll(%s, %q): %v with code %d, want %v", shown(r), text, got, code, want)
	}
}

func wantAllCode(t *testing.T, r impl.Rx, text string, want int) {
	t.Helper()
	got, code := impl.MatchAll(r, text)
	if len(got) != 0 || code != want {
		t.Errorf("MatchAll of %d bytes: %v with code %d, want code %d", len(text), got, code, want)
	}
}

func wantMatchesCode(t *testing.T, r impl.Rx, text string, from, to, want int) {
	t.Helper()
	got, code := impl.Matches(r, text, from, to)
	if got || code != want {
		t.Errorf("Matches of %d bytes from %d to %d: %t with code %d, want code %d", len(text), from, to, got, code, want)
	}
}

// wantPairs asks of each pair of places whether a tree matches just there.
func wantPairs(t *testing.T, r impl.Rx, text string, pairs ...[2]int) {
	t.Helper()
	for i := 0; i <= len(text); i++ {
		for j := i; j <= len(text); j++ {
			want := slices.Contains(pairs, [2]int{i, j})
			if got, code := impl.Matches(r, text, i, j); got != want || code != impl.OK {
				t.Errorf("Matches(%s, %q, %d, %d): %t with code %d, want %t", shown(r), text, i, j, got, code, want)
			}
		}
	}
}

func TestMatchConstant(t *testing.T) {
	if impl.MaxLine != 120 {
		t.Error("MaxLine", impl.MaxLine)
	}
}

// Each Kind, where it matches and where it does not.
func TestMatchKinds(t *testing.T) {
	type pairs = [][2]int
	empties := pairs{{0, 0}, {1, 1}, {2, 2}, {3, 3}}
	for _, c := range []struct {
		tree impl.Rx
		text string
		want pairs
	}{
		{char('a'), "aba", pairs{{0, 1}, {2, 3}}},
		{char('a'), "bAb", nil},
		{char('a'), "", nil},
		{char(0), "a\x00", pairs{{1, 2}}},
		{char(255), "\x7f\xff\xfe", pairs{{1, 2}}},
		{char(10), "a\nb", pairs{{1, 2}}},
		{anyByte, "a\n\xff", pairs{{0, 1}, {1, 2}, {2, 3}}},
		{anyByte, "\x00", pairs{{0, 1}}},
		{anyByte, "é", pairs{{0, 1}, {1, 2}}},
		{anyByte, "", nil},
		{setOf("ac"), "abc", pairs{{0, 1}, {2, 3}}},
		{setOf("\x00\x80\xff"), "\x80a\xff\x00", pairs{{0, 1}, {2, 3}, {3, 4}}},
		{setOf(others("a")), "a\nb", pairs{{1, 2}, {2, 3}}},
		{setOf("\n"), "a\n", pairs{{1, 2}}},
		{setOf("a"), "", nil},
		{begin, "abc", pairs{{0, 0}}},
		{begin, "a\nb", pairs{{0, 0}}},
		{begin, "", pairs{{0, 0}}},
		{end, "abc", pairs{{3, 3}}},
		{end, "a\nb\n", pairs{{4, 4}}},
		{end, "", pairs{{0, 0}}},
		{cat(begin, end), "", pairs{{0, 0}}},
		{cat(end, begin), "", pairs{{0, 0}}},
		{cat(begin, end), "a", nil},
		{cat(begin, begin, anyByte, end, end), "a", pairs{{0, 1}}},
		{cat(anyByte, begin), "aa", nil},
		{cat(end, anyByte), "aa", nil},
		{cat(), "abc", empties},
		{cat(), "", pairs{{0, 0}}},
		{cat(char('a')), "aba", pairs{{0, 1}, {2, 3}}},
		{cat(char('a'), char('b')), "abab", pairs{{0, 2}, {2, 4}}},
		{cat(char('b'), char('a')), "abab", pairs{{1, 3}}},
		{cat(char('a'), cat(), char('b')), "aab", pairs{{1, 3}}},
		{group(1, char('b')), "abb", pairs{{1, 2}, {2, 3}}},
		{group(1, cat()), "abb", empties},
		{alt(char('a'), char('b')), "acb", pairs{{0, 1}, {2, 3}}},
		{alt(char('a'), cat(char('a'), char('b'))), "ab", pairs{{0, 1}, {0, 2}}},
		{alt(char('x'), char('y'), cat()), "axy", append(pairs{{1, 2}, {2, 3}}, empties...)},
		{alt(begin, end), "abc", pairs{{0, 0}, {3, 3}}},
		{repeat(0, 0, char('a')), "aaa", empties},
		{repeat(0, 1, char('a')), "aba", append(pairs{{0, 1}, {2, 3}}, empties...)},
		{repeat(1, 1, char('a')), "aba", pairs{{0, 1}, {2, 3}}},
		{repeat(2, 2, char('a')), "aaa", pairs{{0, 2}, {1, 3}}},
		{repeat(1, 2, char('a')), "aaa", pairs{{0, 1}, {1, 2}, {2, 3}, {0, 2}, {1, 3}}},
		{repeat(2, -1, char('a')), "aaa", pairs{{0, 2}, {1, 3}, {0, 3}}},
		{repeat(4, -1, char('a')), "aaa", nil},
		{repeat(4, 9, char('a')), "aaa", nil},
		{repeat(20, -1, cat()), "abc", empties},
		{repeat(20, 20, repeat(0, 1, char('a'))), "aab", pairs{{0, 0}, {1, 1}, {2, 2}, {3, 3}, {0, 1}, {1, 2}, {0, 2}}},
		{repeat(2, 3, begin), "abc", pairs{{0, 0}}},
		{repeat(2, -1, end), "abc", pairs{{3, 3}}},
		{star(alt(begin, char('a'))), "aab", append(pairs{{0, 1}, {1, 2}, {0, 2}}, empties...)},
		{star(star(char('a'))), "aab", append(pairs{{0, 1}, {1, 2}, {0, 2}}, empties...)},
		{repeat(2, 2, repeat(2, 2, char('a'))), "aaaaa", pairs{{0, 4}, {1, 5}}},
		{repeat(1, 2, repeat(2, 3, char('a'))), "aaaaaaa", pairs{{0, 2}, {1, 3}, {2, 4}, {3, 5}, {4, 6}, {5, 7}, {0, 3}, {1, 4}, {2, 5}, {3, 6}, {4, 7}, {0, 4}, {1, 5}, {2, 6}, {3, 7}, {0, 5}, {1, 6}, {2, 7}, {0, 6}, {1, 7}}},
	} {
		wantPairs(t, c.tree, c.text, c.want...)
		wantSlow(t, c.tree, c.text)
	}
}

// Every byte by every RxChar, by sets of one byte and of all other bytes, by RxAny.
func TestMatchEachByte(t *testing.T) {
	for c := range 256 {
		text := string([]byte{byte(c)})
		for d := range 256 {
			one := string([]byte{byte(d)})
			for _, k := range []struct {
				tree impl.Rx
				want bool
			}{{char(byte(d)), c == d}, {setOf(one), c == d}, {setOf(others(one)), c != d}, {anyByte, true}} {
				if got, code := impl.Matches(k.tree, text, 0, 1); got != k.want || code != impl.OK {
					t.Fatalf("Matches(%s, %q): %t with code %d", shown(k.tree), text, got, code)
				}
			}
		}
	}
}

// P7: of several matches that with the least i, of these that with the greatest j.
func TestFindFirstAndLongest(t *testing.T) {
	for _, c := range []struct {
		pattern, text string
		from          int
		want          []int
	}{
		{"a|abc|ab", "xabcd", 0, []int{1, 4}},
		{"abc|a", "xabcd", 0, []int{1, 4}},
		{"a|b|bcd", "xbcda", 0, []int{1, 4}},
		{"bcd|a", "xabcd", 0, []int{1, 2}},
		{"b*", "abb", 0, []int{0, 0}},
		{"b*", "abb", 1, []int{1, 3}},
		{"b+", "abb", 0, []int{1, 3}},
		{"b+", "abb", 2, []int{2, 3}},
		{"b?", "bb", 0, []int{0, 1}},
		{"x|xy|xyz", "xyxyz", 0, []int{0, 2}},
		{"x|xy|xyz", "xyxyz", 1, []int{2, 5}},
		{"x{2}$", "xxxx", 0, []int{2, 4}},
		{"^x", "xx", 0, []int{0, 1}},
		{"x$", "xx", 0, []int{1, 2}},
		{"$", "xx", 0, []int{2, 2}},
		{"^", "xx", 0, []int{0, 0}},
		{"^$", "", 0, []int{0, 0}},
		{".*", "ab\ncd", 0, []int{0, 5}},
		{".*", "ab", 2, []int{2, 2}},
		{"a.*b|a", "axbxb", 0, []int{0, 5}},
		{"a{0,2}", "aaa", 0, []int{0, 2}},
		{"a{2,3}", "aaaa", 0, []int{0, 3}},
		{"a{2,3}", "aaaa", 1, []int{1, 4}},
		{"a{2,3}", "aaaa", 2, []int{2, 4}},
		{"a{2,}", "xaaaa", 0, []int{1, 5}},
	} {
		wantFind(t, treeOf(t, c.pattern), c.text, c.from, c.want...)
	}
	for _, c := range []struct {
		pattern, text string
		from          int
	}{{"a", "", 0}, {"a", "b", 0}, {"a", "ab", 1}, {"a", "ab", 2}, {"^", "ab", 1}, {"^a", "aa", 1}, {"^", "ab", 2}, {"a{2,3}", "aaaa", 3}, {"(a)(b)", "ba", 0}, {"a$", "ab", 0}, {"$a", "a", 0}, {"a^", "a", 0}} {
		wantFindCode(t, treeOf(t, c.pattern), c.text, c.from, impl.ErrNone)
	}
}

// What is matched is parted among the groups, sentence by sentence.
func TestFindParts(t *testing.T) {
	for _, c := range []struct {
		pattern, text string
		want          []int
	}{
		// An RxCat: the first takes as much as can be while the others can match the rest.
		{"(a*)(a*)", "aaa", []int{0, 3, 0, 3, 3, 3}},
		{"(a*)(a+)", "aaa", []int{0, 3, 0, 2, 2, 3}},
		{"(a*)(a{2})(a*)", "aaaa", []int{0, 4, 0, 2, 2, 4, 4, 4}},
		{"(a|ab)(c|bcd)(d*)", "abcd", []int{0, 4, 0, 2, 2, 3, 3, 4}},
		{"(ab|a)(c|bcd)(d*)", "abcd", []int{0, 4, 0, 2, 2, 3, 3, 4}},
		{"(a|ab)(bcd|c)", "abcd", []int{0, 4, 0, 1, 1, 4}},
		{"(a*)(ab)*(b*)", "abb", []int{0, 3, 0, 1, -1, -1, 1, 3}},
		{"(a*)(b|abc)(c*)", "abc", []int{0, 3, 0, 1, 1, 2, 2, 3}},
		{"(.*)(b)(.*)", "abab", []int{0, 4, 0, 3, 3, 4, 4, 4}},
		{"(a?)(ab)?", "ab", []int{0, 2, 0, 0, 0, 2}},
		{"(a?)(b?)(ab)?", "abab", []int{0, 4, 0, 1, 1, 2, 2, 4}},
		{"(a.?)(.?)(.?)", "abc", []int{0, 3, 0, 2, 2, 3, 3, 3}},
		{"(x*)(y*)(x*)", "xxyx", []int{0, 4, 0, 2, 2, 3, 3, 4}},
		// An RxAlt: the first Kid that matches the part.
		{"((a)|(a))", "a", []int{0, 1, 0, 1, 0, 1, -1, -1}},
		{"(ab)|(a)(b)", "ab", []int{0, 2, 0, 2, -1, -1, -1, -1}},
		{"(a)(b)|(ab)", "ab", []int{0, 2, 0, 1, 1, 2, -1, -1}},
		{"(a)|(ab)|(a)b", "ab", []int{0, 2, -1, -1, 0, 2, -1, -1}},
		{"(a)|(b)", "b", []int{0, 1, -1, -1, 0, 1}},
		{"((a)|(.))((b)|(.))", "xb", []int{0, 2, 0, 1, -1, -1, 0, 1, 1, 2, 1, 2, -1, -1}},
		{"(^)|($)", "", []int{0, 0, 0, 0, -1, -1}},
		// An RxRepeat: the times that must be first, then more that are not empty.
		{"(a|b)*", "abac", []int{0, 3, 2, 3}},
		{"(a*)*", "aa", []int{0, 2, 0, 2}},
		{"(a*)*", "b", []int{0, 0, -1, -1}},
		{"(a*)+", "b", []int{0, 0, 0, 0}},
		{"(a*)+", "aab", []int{0, 2, 0, 2}},
		{"(a*){2}", "aa", []int{0, 2, 2, 2}},
		{"(a*){2,}", "aa", []int{0, 2, 2, 2}},
		{"(a*){3}", "", []int{0, 0, 0, 0}},
		{"(a|ab|b)*", "abab", []int{0, 4, 2, 4}},
		{"(a|ab){2}", "abab", []int{0, 4, 2, 4}},
		{"(a|ab|bab){2}", "abab", []int{0, 4, 2, 4}},
		{"(a|abab|b)*", "abab", []int{0, 4, 0, 4}},
		{"(a{1,2}){2}", "aaa", []int{0, 3, 2, 3}},
		{"(a{1,2}){2}", "aa", []int{0, 2, 1, 2}},
		{"(a{1,3}){2,3}", "aaaaaaaa", []int{0, 8, 6, 8}},
		{"(a{2,3}){1,2}", "aaaa", []int{0, 4, 2, 4}},
		{"(a{2,3}){1,2}", "aaaaa", []int{0, 5, 3, 5}},
		{"(a{1,2}){0,2}", "aaaa", []int{0, 4, 2, 4}},
		{"(aa|aaa)*", "aaaaaaa", []int{0, 7, 5, 7}},
		{"(aa|aaa){0,2}", "aaaaa", []int{0, 5, 3, 5}},
		{"(a{4}|a{3}|a){0,2}", "aaaaaa", []int{0, 6, 3, 6}},
		{"(a{4}|a{3}|a){1,2}", "aaaaaa", []int{0, 6, 3, 6}},
		{"(a{4}|a{3}|a){2}", "aaaaaa", []int{0, 6, 3, 6}},
		{"(a{4}|a{3}|a){0,3}", "aaaaaaaaaa", []int{0, 10, 7, 10}},
		{"(a{4}|a{3}|a){1,3}", "aaaaaaaaaa", []int{0, 10, 7, 10}},
		{"(a{4}|a{3}|a){0,3}", "aaaaaa", []int{0, 6, 5, 6}},
		{"(a{4}|a{3}|a)*", "aaaaaa", []int{0, 6, 5, 6}},
		{"((aaaa)|aaa|a){0,2}", "aaaaaa", []int{0, 6, 3, 6, -1, -1}},
		{"((aaaa)|aaa|a)*", "aaaaaa", []int{0, 6, 5, 6, 0, 4}},
		{"(a){0}", "a", []int{0, 0, -1, -1}},
		{"(a){0,0}b", "ab", []int{1, 2, -1, -1}},
		{"(a)?b", "b", []int{0, 1, -1, -1}},
		{"(a)?b", "ab", []int{0, 2, 0, 1}},
		{"(a){2,2}", "aaa", []int{0, 2, 1, 2}},
		{"(a){2,3}", "aaaa", []int{0, 3, 2, 3}},
		{"(^)*a", "a", []int{0, 1, -1, -1}},
		{"(^)+a", "a", []int{0, 1, 0, 0}},
		{"(^|a)*", "aa", []int{0, 2, 1, 2}},
		{"(^|a){3}", "aa", []int{0, 2, 1, 2}},
		{"(b{0}){20}", "a", []int{0, 0, 0, 0}},
		// Repeats within repeats.
		{"((a)*b)*", "aabb", []int{0, 4, 3, 4, 1, 2}},
		{"((a|b)*)*", "ab", []int{0, 2, 0, 2, 1, 2}},
		{"((a|b){2})*", "ababa", []int{0, 4, 2, 4, 3, 4}},
		{"((a*)(b*)){2}", "ab", []int{0, 2, 2, 2, 2, 2, 2, 2}},
		{"((a*)(b*))*", "abab", []int{0, 4, 2, 4, 2, 3, 3, 4}},
		{"(((a)))*", "aa", []int{0, 2, 1, 2, 1, 2, 1, 2}},
		// Groups: the last one counts, also where the last time goes another way.
		{"((a)|b)*", "ab", []int{0, 2, 1, 2, 0, 1}},
		{"((a)|(b))*", "ab", []int{0, 2, 1, 2, 0, 1, 1, 2}},
		{"((a)|(b))*", "aba", []int{0, 3, 2, 3, 2, 3, 1, 2}},
		{"((a)?b)*", "abb", []int{0, 3, 2, 3, 0, 1}},
		{"((a)*b)*", "abb", []int{0, 3, 2, 3, 0, 1}},
		{"((a)|(b)|c){3}", "abc", []int{0, 3, 2, 3, 0, 1, 1, 2}},
		{"((a*)|b)*", "ab", []int{0, 2, 1, 2, 0, 1}},
	} {
		r := treeOf(t, c.pattern)
		wantFind(t, r, c.text, 0, c.want...)
		wantSlow(t, r, c.text)
	}
}

// The same where no pattern leads: rows within rows, rows of none, nine groups.
func TestFindPartsOfTrees(t *testing.T) {
	a, as := char('a'), star(char('a'))
	wantFind(t, cat(), "a", 0, 0, 0)
	wantFind(t, cat(), "a", 1, 1, 1)
	wantFind(t, group(1, cat()), "a", 0, 0, 0, 0, 0)
	wantFind(t, cat(cat(group(1, as), cat()), group(2, as)), "aa", 0, 0, 2, 0, 2, 2, 2)
	wantFind(t, cat(group(1, as), cat(group(2, a), group(3, as))), "aaa", 0, 0, 3, 0, 2, 2, 3, 3, 3)
	wantFind(t, cat(cat(group(1, as), group(2, a)), group(3, as)), "aaa", 0, 0, 3, 0, 2, 2, 3, 3, 3)
	wantFind(t, repeat(0, 149, a), "aaa", 0, 0, 3)
	wantFind(t, repeat(2, 74, group(1, a)), "xaaa", 0, 1, 4, 3, 4)
	wantFind(t, repeat(0, -1, group(1, cat())), "", 0, 0, 0, -1, -1)
	wantFind(t, repeat(3, 3, group(1, cat())), "b", 1, 1, 1, 1, 1)
	wantFind(t, repeat(1, 1, repeat(0, 0, group(1, a))), "a", 0, 0, 0, -1, -1)
	wantFind(t, alt(group(1, cat()), group(2, cat())), "", 0, 0, 0, 0, 0, -1, -1)
	var row []impl.Rx
	for n := range impl.MaxGroups {
		row = append(row, group(n+1, repeat(0, 1, char(byte('a'+n)))))
	}
	wantFind(t, cat(row...), "abdefi", 0, 0, 6, 0, 1, 1, 2, 2, 2, 2, 3, 3, 4, 4, 5, 5, 5, 5, 5, 5, 6)
	deep := star(anyByte)
	for n := impl.MaxGroups; n > 0; n-- {
		deep = group(n, deep)
	}
	wantFind(t, deep, "xyz", 1, 1, 3, 1, 3, 1, 3, 1, 3, 1, 3, 1, 3, 1, 3, 1, 3, 1, 3, 1, 3)
}

func TestFindPlaces(t *testing.T) {
	a := treeOf(t, "a")
	for from, want := range []int{1, 1, 3, 3} {
		wantFind(t, a, "xaxax", from, want, want+1)
	}
	wantFindCode(t, a, "xaxax", 4, impl.ErrNone)
	wantFindCode(t, a, "xaxax", 5, impl.ErrNone)
	wantFind(t, star(a), "xaxax", 5, 5, 5)
	wantFind(t, star(a), "", 0, 0, 0)
	for _, from := range []int{least, -2, -1, 6, 7, 120, 121, greatest} {
		wantFindCode(t, a, "xaxax", from, impl.ErrRange)
		wantFindCode(t, cat(), "xaxax", from, impl.ErrRange)
	}
	wantFindCode(t, cat(), "", 1, impl.ErrRange)
	wantFindCode(t, cat(), "", -1, impl.ErrRange)
	// The beginning and the end are those of the text, not of the place sought from.
	wantFindCode(t, treeOf(t, "^a"), "aaa", 1, impl.ErrNone)
	wantFind(t, treeOf(t, "a$"), "aaa", 1, 2, 3)
	wantFind(t, treeOf(t, "(^|x)a"), "axa", 1, 1, 3, 1, 2)
}

func TestMatchAllEmptyOnes(t *testing.T) {
	for _, c := range []struct {
		pattern, text string
		want          [][]int
	}{
		{"a*", "baaac", [][]int{{0, 0}, {1, 4}, {5, 5}}},
		{"a*", "aab", [][]int{{0, 2}, {3, 3}}},
		{"a*", "baa", [][]int{{0, 0}, {1, 3}}},
		{"a*", "aa", [][]int{{0, 2}}},
		{"a*", "", [][]int{{0, 0}}},
		{"a*", "bbb", [][]int{{0, 0}, {1, 1}, {2, 2}, {3, 3}}},
		{"a*", "abba", [][]int{{0, 1}, {2, 2}, {3, 4}}},
		{"a?", "aab", [][]int{{0, 1}, {1, 2}, {3, 3}}},
		{"a|b*", "abba", [][]int{{0, 1}, {1, 3}, {3, 4}}},
		{"(a)|b*", "acb", [][]int{{0, 1, 0, 1}, {2, 3, -1, -1}}},
		{"(x*)", "axb", [][]int{{0, 0, 0, 0}, {1, 2, 1, 2}, {3, 3, 3, 3}}},
		{"a", "aaa", [][]int{{0, 1}, {1, 2}, {2, 3}}},
		{"aa", "aaaaa", [][]int{{0, 2}, {2, 4}}},
		{"aba", "ababa", [][]int{{0, 3}}},
		{"a|ab|b", "abbab", [][]int{{0, 2}, {2, 3}, {3, 5}}},
		{"b", "aaa", nil},
		{"b", "", nil},
		{"(a)(b)?", "aab", [][]int{{0, 1, 0, 1, -1, -1}, {1, 3, 1, 2, 2, 3}}},
		{"((a)|b)*", "abcb", [][]int{{0, 2, 1, 2, 0, 1}, {3, 4, 3, 4, -1, -1}}},
		{"^", "aa", [][]int{{0, 0}}},
		{"$", "aa", [][]int{{2, 2}}},
		{"^|$", "aa", [][]int{{0, 0}, {2, 2}}},
		{"^|$", "", [][]int{{0, 0}}},
		{"^a", "aaa", [][]int{{0, 1}}},
		{"^a*", "aab", [][]int{{0, 2}}},
		{"a$", "aaa", [][]int{{2, 3}}},
		{"a*$", "baa", [][]int{{1, 3}}},
		{"a|$", "aa", [][]int{{0, 1}, {1, 2}}},
		{"a|$", "ab", [][]int{{0, 1}, {2, 2}}},
		{"(^|,)a*", "a,,a", [][]int{{0, 1, 0, 0}, {1, 2, 1, 2}, {2, 4, 2, 3}}},
		{".", "a\nb", [][]int{{0, 1}, {1, 2}, {2, 3}}},
		{".*", "a\nb", [][]int{{0, 3}}},
		{"^$", "a", nil},
	} {
		r := treeOf(t, c.pattern)
		wantAll(t, r, c.text, c.want...)
		wantSlow(t, r, c.text)
	}
	wantAll(t, cat(), "ab", []int{0, 0}, []int{1, 1}, []int{2, 2})
}

func TestMatchesPlaces(t *testing.T) {
	r := star(char('a'))
	for from := -3; from <= 6; from++ {
		for to := -3; to <= 6; to++ {
			if from < 0 || to < from || to > 4 {
				wantMatchesCode(t, r, "aaaa", from, to, impl.ErrRange)
				wantMatchesCode(t, char('b'), "aaaa", from, to, impl.ErrRange)
				continue
			}
			if got, code := impl.Matches(r, "aaaa", from, to); !got || code != impl.OK {
				t.Errorf("Matches from %d to %d: %t with code %d", from, to, got, code)
			}
			wantMatchesCode(t, char('b'), "aaaa", from, to, impl.OK)
		}
	}
	for _, n := range []int{least, -121, 121, greatest} {
		wantMatchesCode(t, r, "aaaa", n, n, impl.ErrRange)
		wantMatchesCode(t, r, "aaaa", n, 2, impl.ErrRange)
		wantMatchesCode(t, r, "aaaa", 2, n, impl.ErrRange)
	}
	wantMatchesCode(t, r, "", 0, 1, impl.ErrRange)
	wantMatchesCode(t, r, "", 1, 1, impl.ErrRange)
}

// P6: a text of letters is a pattern that finds itself.
func TestLettersFindThemselves(t *testing.T) {
	r := rand.New(rand.NewSource(64))
	const letters = "abcdefghijklmnopqrstuvwxyzABCDEFGHIJKLMNOPQRSTUVWXYZ"
	for size := 1; size < impl.MaxNodes; size++ {
		for range 6 {
			signs := letters[:1+r.Intn(len(letters))]
			word := randomText(r, signs, size)
			room := impl.MaxLine - size
			text := randomText(r, signs, r.Intn(room+1))
			text += word + randomText(r, signs, r.Intn(impl.MaxLine-size-len(text)+1))
			at := strings.Index(text, word)
			for _, ere := range []bool{false, true} {
				tree, code, _ := impl.Compile(word, ere)
				if code != impl.OK {
					t.Fatalf("Compile(%q): code %d", word, code)
				}
				wantFind(t, tree, word, 0, 0, size)
				wantFind(t, tree, text, 0, at, at+size)
				wantAll(t, tree, word, []int{0, size})
				if all, _ := impl.MatchAll(tree, text); len(all) != strings.Count(text, word) {
					t.Errorf("MatchAll(%q, %q): %v", word, text, all)
				}
				if yes, _ := impl.Matches(tree, text, at, at+size); !yes {
					t.Errorf("Matches(%q, %q) does not", word, text)
				}
			}
		}
	}
}

// P7: nothing ahead of what is found matches, nothing from there on is longer,
// and matches do not overlap.
func TestFoundIsFirstAndLongest(t *testing.T) {
	r := rand.New(rand.NewSource(65))
	for range 600 {
		tree := smallTree(r, 5, new(int))
		if !impl.RxOK(tree) {
			continue
		}
		text := randomText(r, "aabbc", r.Intn(24))
		from := r.Intn(len(text) + 1)
		wantFirstAndLongest(t, tree, text, from)
		behind, ahead := 0, []int{-1, -1}
		all, _ := impl.MatchAll(tree, text)
		for _, spans := range all {
			if spans[0] < behind || spans[1] < spans[0] || spans[1] > len(text) || spans[0] == spans[1] && spans[0] == ahead[1] {
				t.Fatalf("MatchAll(%s, %q): %v", shown(tree), text, all)
			}
			if yes, _ := impl.Matches(tree, text, spans[0], spans[1]); !yes {
				t.Fatalf("MatchAll(%s, %q): %v is no match", shown(tree), text, spans)
			}
			behind, ahead = spans[1], spans
		}
	}
}

func wantFirstAndLongest(t *testing.T, tree impl.Rx, text string, from int) {
	t.Helper()
	spans, code := impl.Find(tree, text, from)
	i, j := len(text)+1, 0
	if code == impl.OK {
		i, j = spans[0], spans[1]
	}
	for a := from; a <= min(i, len(text)); a++ {
		for b := a; b <= len(text); b++ {
			yes, _ := impl.Matches(tree, text, a, b)
			if yes && (a < i || b > j) || a == i && b == j && !yes {
				t.Fatalf("Find(%s, %q, %d): %v, but %d to %d: %t", shown(tree), text, from, spans, a, b, yes)
			}
		}
	}
}
