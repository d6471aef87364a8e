package tests

import (
	"go/ast"
	"go/parser"
	"go/token"
	"strings"
	"sync"
	"testing"

	"loop.example/g00142/impl"
)

// guardedRx is a tree whose lists have room behind their end.
type guardedRx struct {
	tree  impl.Rx
	was   impl.Rx
	lists [][]impl.Rx
}

// guardRx copies a tree; each of its lists, and the empty ones, gets room.
func guardRx(r impl.Rx) guardedRx {
	g := guardedRx{was: copyRx(r)}
	g.tree = g.roomy(r)
	return g
}

func (g *guardedRx) roomy(r impl.Rx) impl.Rx {
	all := []impl.Rx{}
	for _, kid := range r.Kids {
		all = append(all, g.roomy(kid))
	}
	all = append(all, impl.Rx{Kind: mark}, impl.Rx{Kind: mark, Set: "z"})
	r.Kids = all[:len(r.Kids)]
	g.lists = append(g.lists, all)
	return r
}

func (g *guardedRx) same() bool {
	for _, all := range g.lists {
		end := all[len(all)-2:]
		if !sameRx(end[0], impl.Rx{Kind: mark}) || !sameRx(end[1], impl.Rx{Kind: mark, Set: "z"}) {
			return false
		}
	}
	return sameRx(g.tree, g.was)
}

func copyRx(r impl.Rx) impl.Rx {
	var kids []impl.Rx
	for _, kid := range r.Kids {
		kids = append(kids, copyRx(kid))
	}
	r.Kids = kids
	return r
}

// listsOf are all lists of a tree.
func listsOf(r impl.Rx) [][]impl.Rx {
	out := [][]impl.Rx{r.Kids}
	for _, kid := range r.Kids {
		out = append(out, listsOf(kid)...)
	}
	return out
}

func ruleTrees(t *testing.T) []impl.Rx {
	var out []impl.Rx
	for _, p := range []string{"a", "(a|b)+c?", "[a-z]*(^x|(y)$){2,3}", "((((a))))", "a**+?{2}", ".|[^a]|(b)"} {
		r, code, _ := impl.Compile(p, true)
		if code != impl.OK {
			t.Fatalf("Compile(%q): %d", p, code)
		}
		out = append(out, r)
	}
	return append(out, impl.Rx{}, group(2, char('a')), cat(many(200, char('a'))...), repeat(0, greatest, char('a')), alt(char('a')), cat(cat(), impl.Rx{Kind: -7}))
}

// P1: a tree that is asked about stays, and its answers are alike.
func TestTreeArgumentStays(t *testing.T) {
	for _, r := range ruleTrees(t) {
		g := guardRx(r)
		n, code := impl.Groups(g.tree)
		right := impl.RxOK(g.tree)
		if !g.same() {
			t.Errorf("a tree was changed: %s", shown(r))
		}
		again, codeAgain := impl.Groups(r)
		if n != again || code != codeAgain || right != impl.RxOK(r) {
			t.Errorf("an answer hangs on more than the tree: %s", shown(r))
		}
	}
}

// An empty list and nil are the same value.
func TestTreeEmptyIsNil(t *testing.T) {
	empty := []impl.Rx{}
	wantTree(t, impl.Rx{Kind: impl.RxAny, Kids: empty}, 0)
	wantTree(t, impl.Rx{Kind: impl.RxChar, N: 1, Kids: empty}, 0)
	wantTree(t, impl.Rx{Kind: impl.RxSet, Set: "a", Kids: empty}, 0)
	wantTree(t, impl.Rx{Kind: impl.RxCat, Kids: empty}, 0)
	wantTree(t, impl.Rx{Kind: impl.RxAlt, Kids: empty}, -1)
	wantTree(t, impl.Rx{Kind: impl.RxGroup, N: 1, Kids: empty}, -1)
	wantTree(t, impl.Rx{Kind: impl.RxRepeat, Kids: empty}, -1)
}

var rulePatterns = []string{"a", `\(a*\(b\)*\)\{2\}[a-c]*`, "(a|b(c|d)+)*[x-z]{2,3}", "^a.*b$", `a**\{2\}`, `\(\)\(\)`, "a|b|c", "a+?*"}

// P1: no two lists of a tree share memory, not even behind their ends.
func TestCompileListsShareNothing(t *testing.T) {
	for _, pattern := range rulePatterns {
		for _, ere := range []bool{false, true} {
			first, code, _ := impl.Compile(pattern, ere)
			if code != impl.OK {
				continue
			}
			for i := range listsOf(first) {
				r, _, _ := impl.Compile(pattern, ere)
				lists := listsOf(r)
				var was [][]impl.Rx
				for _, list := range lists {
					was = append(was, append([]impl.Rx{}, list...))
				}
				written := lists[i][:cap(lists[i])]
				for k := range written {
					written[k] = impl.Rx{Kind: mark, N: mark, Set: "z"}
				}
				for k, list := range lists {
					if k != i && !sameRx(cat(list...), cat(was[k]...)) {
						t.Fatalf("lists %d and %d of Compile(%q, %t) share memory", i, k, pattern, ere)
					}
				}
				if again, _, _ := impl.Compile(pattern, ere); !sameRx(again, first) {
					t.Fatalf("an answer of Compile(%q, %t) was kept", pattern, ere)
				}
			}
		}
	}
}

// P1: alike arguments have alike answers, whatever was called ahead, and from many sides.
func TestCompileHangsOnNothingElse(t *testing.T) {
	patterns := []string{"a", "[a", "(a)", `\(a\)`, `\1`, "[b-a]", "a{21}", long(120), long(300), "", "^*a$", "((((((((((", "[[:none:]]", "a{2}{3}"}
	want := map[string]string{}
	for _, p := range patterns {
		want[p] = outcome(t, p, true)
	}
	for i := range patterns {
		for k := range patterns {
			outcome(t, patterns[k], false)
			wantPattern(t, patterns[i], true, want[patterns[i]])
		}
	}
	var all sync.WaitGroup
	for _, p := range patterns {
		all.Go(func() {
			for range 50 {
				wantPattern(t, p, true, want[p])
			}
		})
	}
	all.Wait()
}

// P1: nothing panics, whatever is handed in, and a code leaves all else zero.
func TestCompileNothingPanics(t *testing.T) {
	heads := []string{"", "a", "(", `\(`, "[", "[^", "[[:", "[[", "[a-", "a{", `a\{`, "a{1", `a\{1`, "a{1,", `a\{1,`, `\`, "^", "$", "a|", "(a|", `\(^`, "[[."}
	for _, head := range heads {
		for c := range 256 {
			for _, tail := range []string{"", "]", ")", `\)`, "}", `\}`, `\`, ":]]", "\xff"} {
				p := head + string([]byte{byte(c)}) + tail
				outcome(t, p, false)
				outcome(t, p, true)
			}
		}
	}
	for _, p := range []string{strings.Repeat("(", 200), strings.Repeat(`\(`, 100), strings.Repeat("[", 200), strings.Repeat("*", 200), strings.Repeat("a*", 100), strings.Repeat("|", 200), strings.Repeat(`\`, 200), strings.Repeat(`\`, 199), strings.Repeat("a{20}", 40), strings.Repeat("{20}", 50)} {
		wantModel(t, p, false)
		wantModel(t, p, true)
	}
}

// The chapter 'Ways': the reader goes by goto; a fault is an error type that
// errors.As finds behind a panic that is recovered in a deferred function literal.
func TestWaysOfThePatterns(t *testing.T) {
	f, err := parser.ParseFile(token.NewFileSet(), "../impl/l05_regex.go", nil, 0)
	if err != nil {
		t.Fatal(err)
	}
	gotos, as, recovered := map[string]int{}, 0, 0
	panics, faults := map[string]int{}, map[string]bool{}
	for _, d := range f.Decls {
		fn, ok := d.(*ast.FuncDecl)
		if !ok {
			continue
		}
		if fn.Name.Name == "Error" && fn.Recv != nil {
			faults[fn.Recv.List[0].Type.(*ast.Ident).Name] = true
		}
		ast.Inspect(fn, func(n ast.Node) bool {
			switch x := n.(type) {
			case *ast.BranchStmt:
				if x.Tok == token.GOTO {
					gotos[fn.Name.Name]++
				}
			case *ast.SelectorExpr:
				if id, ok := x.X.(*ast.Ident); ok && id.Name == "errors" && x.Sel.Name == "As" {
					as++
				}
			case *ast.DeferStmt:
				if lit, ok := x.Call.Fun.(*ast.FuncLit); ok {
					ast.Inspect(lit, func(n ast.Node) bool {
						if id, ok := n.(*ast.Ident); ok && id.Name == "recover" {
							recovered++
						}
						return true
					})
				}
			case *ast.CallExpr:
				if id, ok := x.Fun.(*ast.Ident); ok && id.Name == "panic" {
					if lit, ok := x.Args[0].(*ast.CompositeLit); ok {
						panics[lit.Type.(*ast.Ident).Name]++
					}
				}
			}
			return true
		})
	}
	if gotos["pattern"] == 0 || as == 0 || recovered == 0 || len(panics) != 1 {
		t.Error("gotos", gotos, "errors.As", as, "recovered", recovered, "panics", panics)
	}
	for name := range panics {
		if !faults[name] {
			t.Error("a panic with what is no error type:", name)
		}
	}
}
