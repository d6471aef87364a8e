package tests

import (
	"go/ast"
	"go/parser"
	"go/token"
	"slices"
	"strings"
	"sync"
	"testing"
	"time"

	"loop.example/g00142/impl"
)

func wrongTrees() []impl.Rx {
	a := char('a')
	ring := []impl.Rx{{Kind: impl.RxRepeat, M: -1}}
	ring[0].Kids = ring
	deep := cat()
	for range 100000 {
		deep = cat(deep)
	}
	return []impl.Rx{
		{}, {Kind: 10}, {Kind: -1}, {Kind: impl.RxChar, N: 256}, {Kind: impl.RxChar, N: -1}, {Kind: impl.RxSet}, {Kind: impl.RxAny, N: 1}, {Kind: impl.RxBegin, M: 1}, {Kind: impl.RxEnd, Set: "a"},
		setOf("ba"), setOf("aa"), group(2, a), group(0, a), cat(group(1, a), group(1, a)), alt(), alt(a), repeat(-1, 0, a), repeat(21, -1, a), repeat(2, 1, a), repeat(0, -2, a), repeat(0, 150, a), repeat(0, greatest, a),
		{Kind: impl.RxGroup, N: 1}, {Kind: impl.RxRepeat, M: -1}, {Kind: impl.RxRepeat, M: -1, Kids: []impl.Rx{a, a}}, {Kind: impl.RxChar, N: 'a', Kids: []impl.Rx{a}},
		cat(a, impl.Rx{}), cat(many(impl.MaxNodes, a)...), cat(many(impl.MaxList+1, a)...), star(cat(star(impl.Rx{}))), ring[0], deep,
	}
}

// The bounds of a text, and the order of the codes where faults stand together.
func TestMatchCodes(t *testing.T) {
	as := star(char('a'))
	line, text := long(impl.MaxLine), long(impl.MaxText)
	wantFind(t, as, line, 0, 0, 120)
	wantFind(t, as, line, 120, 120, 120)
	wantAll(t, as, line, []int{0, 120})
	if yes, code := impl.Matches(as, line, 0, 120); !yes || code != impl.OK {
		t.Error("Matches of MaxLine bytes:", yes, code)
	}
	wantFindCode(t, as, line, 121, impl.ErrRange)
	wantMatchesCode(t, as, line, 0, 121, impl.ErrRange)
	wantFindCode(t, char('b'), line, 0, impl.ErrNone)
	trees := append(wrongTrees(), as, char('b'))
	for n, r := range trees {
		right := n >= len(trees)-2
		for _, from := range []int{least, -1, 0, 1, impl.MaxText + 2, greatest} {
			for _, c := range []struct {
				text string
				code int
			}{{text + "a", impl.ErrLong}, {text, impl.ErrSize}, {line + "a", impl.ErrSize}, {line, impl.ErrRange}, {"", impl.ErrRange}} {
				want := c.code
				if !right && want != impl.ErrLong {
					want = impl.ErrBad
				}
				if want != impl.ErrRange || from != 0 && from != 1 {
					wantFindCode(t, r, c.text, from, want)
					wantMatchesCode(t, r, c.text, from, 1, want)
					wantMatchesCode(t, r, c.text, 0, from, want)
				}
				if want != impl.ErrRange {
					wantAllCode(t, r, c.text, want)
				}
			}
		}
	}
}

// Every length of a line: the whole of it, and its last place.
func TestMatchEachLength(t *testing.T) {
	for size := range impl.MaxLine + 1 {
		text := long(size)
		wantFind(t, star(anyByte), text, 0, 0, size)
		wantFind(t, cat(group(1, star(anyByte)), end), text, 0, 0, size, 0, size)
		wantFind(t, end, text, 0, size, size)
		wantFind(t, group(1, cat()), text, size, size, size, size, size)
		for _, at := range []int{0, 62, 63, 64, 65, 118, 119} {
			if at < size {
				marked := text[:at] + "b" + text[at+1:]
				wantFind(t, char('b'), marked, 0, at, at+1)
				wantFind(t, cat(star(char('a')), group(1, char('b')), star(char('a'))), marked, 0, 0, size, at, at+1)
				wantAll(t, char('b'), marked, []int{at, at + 1})
			}
		}
		all, code := impl.MatchAll(anyByte, text)
		if len(all) != size || code != impl.OK {
			t.Errorf("MatchAll of %d bytes: %d with code %d", size, len(all), code)
		}
		if all, _ := impl.MatchAll(char('b'), text); len(all) != 0 {
			t.Errorf("MatchAll without a match: %v", all)
		}
		if all, _ := impl.MatchAll(star(char('b')), text); len(all) != size+1 {
			t.Errorf("MatchAll of empty ones in %d bytes: %d", size, len(all))
		}
	}
}

// heavyTrees are right trees near each of the limits, slow where one tries all ways.
func heavyTrees() []impl.Rx {
	a, stars := char('a'), star(char('a'))
	nested, grouped, both := a, stars, a
	for range 118 {
		nested = star(nested)
	}
	for n := impl.MaxGroups; n > 0; n-- {
		grouped = star(group(n, grouped))
	}
	for range 39 {
		both = star(alt(both, a))
	}
	return []impl.Rx{
		nested, grouped, both,
		cat(many(59, stars)...), cat(many(119, a)...), alt(many(119, a)...), alt(many(59, stars)...),
		star(cat(many(58, stars)...)), star(alt(many(58, stars)...)),
		repeat(20, 149, a), repeat(0, 149, a), repeat(20, 99, stars), repeat(20, -1, repeat(5, -1, a)), repeat(3, 4, repeat(2, 3, repeat(0, 3, a))),
		repeat(1, 99, group(1, a)), repeat(20, -1, group(1, star(group(2, stars)))), repeat(2, 2, cat(many(48, stars)...)),
		cat(many(59, repeat(0, 1, a))...), cat(append(many(29, repeat(0, 1, a)), many(29, a)...)...), repeat(2, 20, alt(a, cat(a, a), cat(a, a, a), stars)),
	}
}

// The heaviest trees over the longest lines: all found, and none, in little time.
func TestMatchHeavy(t *testing.T) {
	line := long(impl.MaxLine)
	for _, r := range heavyTrees() {
		if !impl.RxOK(r) {
			t.Error("a row of the test is wrong:", shown(r))
		}
		wantInTime(t, r, line)
		wantInTime(t, r, line[1:]+"b")
		if longer := cat(r, char('b')); impl.RxOK(longer) {
			wantInTime(t, longer, line)
			wantFindCode(t, longer, line, 0, impl.ErrNone)
		}
	}
	wantFind(t, heavyTrees()[0], line, 0, 0, 120)
	wantFind(t, heavyTrees()[2], line, 1, 1, 120)
	wantFind(t, heavyTrees()[3], line, 60, 60, 120)
	wantFind(t, repeat(0, 149, char('a')), line, 0, 0, 120)
	wantFind(t, repeat(1, 98, group(1, char('a'))), line, 0, 0, 98, 97, 98)
	wantFind(t, repeat(20, 99, star(char('a'))), line, 0, 0, 120)
}

func wantInTime(t *testing.T, r impl.Rx, text string) {
	t.Helper()
	began := time.Now()
	impl.Find(r, text, 0)
	impl.MatchAll(r, text)
	impl.Matches(r, text, 0, len(text))
	if took := time.Since(began); took > 3*time.Second {
		t.Errorf("%s took %v", shown(r), took)
	}
}

// matching is all that the three functions say of a tree and a text.
func matching(r impl.Rx, text string, at int) [][]int {
	spans, code := impl.Find(r, text, at)
	all, codeAll := impl.MatchAll(r, text)
	yes, codeYes := impl.Matches(r, text, at, len(text))
	told := []int{code, codeAll, codeYes, 0}
	if yes {
		told[3] = 1
	}
	return append([][]int{spans, told}, all...)
}

var ruleTexts = []string{"", "a", "abab", "aabbccdd", "\x00\xff\n", "xyz xyz", long(120), long(121), long(65537)}

// P1: a tree that is sought stays, and answers hang on the arguments alone.
func TestMatchArgumentsStay(t *testing.T) {
	trees := append(ruleTrees(t), smallTrees(t)...)
	var want [][][]int
	for _, r := range trees {
		for _, text := range ruleTexts {
			for _, at := range []int{-1, 0, 1, len(text)} {
				g := guardRx(r)
				want = append(want, matching(g.tree, text, at))
				if !g.same() {
					t.Fatalf("a tree was changed: %s", shown(r))
				}
			}
		}
	}
	for range 2 {
		next := 0
		for _, r := range trees {
			for _, text := range ruleTexts {
				for _, at := range []int{-1, 0, 1, len(text)} {
					if got := matching(r, strings.Clone(text), at); !sameSpans(got, want[next]) {
						t.Fatalf("an answer hangs on more than its arguments: %s, %q, %d: %v, then %v", shown(r), text, at, want[next], got)
					}
					next++
				}
			}
		}
	}
}

func smallTrees(t *testing.T) []impl.Rx {
	var out []impl.Rx
	for _, p := range []string{"((a)|b)*", "(a*)(b*)", "^|$", "[^a]+", "(x|y|z){2}", "(a|ab)(c|bcd)*"} {
		out = append(out, treeOf(t, p))
	}
	return out
}

// P1: from many sides at once.
func TestMatchFromManySides(t *testing.T) {
	var all sync.WaitGroup
	for _, r := range smallTrees(t) {
		want := matching(r, "ababxyz", 1)
		for range 4 {
			all.Go(func() {
				for range 50 {
					if got := matching(r, "ababxyz", 1); !sameSpans(got, want) {
						t.Errorf("%s: %v, want %v", shown(r), got, want)
					}
				}
			})
		}
	}
	all.Wait()
}

// P1: no two lists of an answer share memory, not even behind their ends, and none is kept.
func TestMatchListsShareNothing(t *testing.T) {
	for _, p := range []string{"(a)(b)?", "a*", "((a)|b)", "."} {
		r := treeOf(t, p)
		want, _ := impl.MatchAll(r, "abaabba")
		for k := range want {
			got, _ := impl.MatchAll(r, "abaabba")
			spans := got[k][:cap(got[k])]
			for i := range spans {
				spans[i] = mark
			}
			for n := range got {
				if n != k && !slices.Equal(got[n], want[n]) {
					t.Fatalf("lists %d and %d of MatchAll(%q) share memory", k, n, p)
				}
			}
		}
		first, _ := impl.Find(r, "abaabba", 0)
		kept := slices.Clone(first)
		for i := range first[:cap(first)] {
			first[:cap(first)][i] = mark
		}
		wantFind(t, r, "abaabba", 0, kept...)
		wantAll(t, r, "abaabba", want...)
	}
}

// An empty list and nil are the same value.
func TestMatchEmptyIsNil(t *testing.T) {
	none := []impl.Rx{}
	wantFind(t, impl.Rx{Kind: impl.RxAny, Kids: none}, "a", 0, 0, 1)
	wantFind(t, impl.Rx{Kind: impl.RxCat, Kids: none}, "a", 0, 0, 0)
	wantFind(t, impl.Rx{Kind: impl.RxChar, N: 'a', Kids: none}, "ba", 0, 1, 2)
	wantFind(t, star(impl.Rx{Kind: impl.RxSet, Set: "a", Kids: none}), "aa", 0, 0, 2)
	wantAll(t, impl.Rx{Kind: impl.RxEnd, Kids: none}, "aa", []int{2, 2})
}

// P1: nothing panics, whatever is handed in, and a code leaves all else zero.
func TestMatchNothingPanics(t *testing.T) {
	trees := append(append(wrongTrees(), ruleTrees(t)...), heavyTrees()[0])
	for _, r := range trees {
		for _, text := range ruleTexts {
			for _, at := range []int{least, -1, 0, 1, len(text) - 1, len(text), len(text) + 1, greatest} {
				spans, code := impl.Find(r, text, at)
				all, codeAll := impl.MatchAll(r, text)
				yes, codeYes := impl.Matches(r, text, at, len(text))
				back, codeBack := impl.Matches(r, text, 0, at)
				if code != impl.OK && spans != nil || codeAll != impl.OK && all != nil || codeYes != impl.OK && yes || codeBack != impl.OK && back {
					t.Fatalf("something beside a code: %v %d, %v %d, %t %d, %t %d", spans, code, all, codeAll, yes, codeYes, back, codeBack)
				}
				if code == impl.OK && len(spans) != 2+2*countGroups(r) {
					t.Fatalf("Find(%s): %v", shown(r), spans)
				}
			}
		}
	}
}

// The chapter 'Ways': closures over what is known, and labelled loops.
func TestWaysOfTheMatching(t *testing.T) {
	f, err := parser.ParseFile(token.NewFileSet(), "../impl/l06_match.go", nil, 0)
	if err != nil {
		t.Fatal(err)
	}
	closures, labels, jumps := 0, 0, 0
	ast.Inspect(f, func(n ast.Node) bool {
		switch x := n.(type) {
		case *ast.FuncLit:
			closures++
		case *ast.LabeledStmt:
			switch x.Stmt.(type) {
			case *ast.ForStmt, *ast.RangeStmt:
				labels++
			}
		case *ast.BranchStmt:
			if x.Label != nil && x.Tok != token.GOTO {
				jumps++
			}
		}
		return true
	})
	if closures == 0 || labels == 0 || jumps == 0 {
		t.Error("closures", closures, "labelled loops", labels, "jumps to them", jumps)
	}
}
