package tests

import (
	"go/ast"
	"go/parser"
	"go/token"
	"strings"
	"sync"
	"testing"

	"loop.example/g00142/impl"
)

var ruleScripts = []string{
	"", "p", "1,$!{s/a/b/2gp;t x\n};:x\n# remark\n/a/p", `/\(a\)/,/b*c/{s/\(x\)\(y\)*/\2\1/g;y/abc/\n\\d/};b`, "a\\\n  text\ni one\nc", "/a/,/a/s/a/a/;/a/,/a/s/a/a/", "{{{p};n};/[a-z]/d}", "/(a|b)+/,/(a|b)+/s/(a|b)+/x/",
	strings.Repeat("/a(b)/,/c/s/d/e/;", 60),
	"s/a", "w f", "2b none", "y/ab/c/", "{p", "p p", "0p", `s/a/\1/`, ":a\n:a", "1,p", "}", "1", strings.Repeat("p;", 61), "/[/p", "/\\1/p", strings.Repeat(";", 2001), strings.Repeat(";", 65537),
}

// treesOf are the trees of all commands of a list.
func treesOf(list []impl.Sed) []impl.Rx {
	var out []impl.Rx
	for _, c := range list {
		out = append(out, c.From.Rx, c.To.Rx, c.Rx)
	}
	return out
}

// guardSeds copies a list, with room behind its end and behind that of each list in it.
func guardSeds(list []impl.Sed) ([]impl.Sed, func() bool) {
	var trees []guardedRx
	roomy := func(r impl.Rx) impl.Rx {
		g := guardRx(r)
		trees = append(trees, g)
		return g.tree
	}
	var all []impl.Sed
	for _, c := range list {
		c.From.Rx, c.To.Rx, c.Rx = roomy(c.From.Rx), roomy(c.To.Rx), roomy(c.Rx)
		all = append(all, c)
	}
	room := impl.Sed{Name: "room", Count: mark}
	all = append(all, room, room)
	return all[:len(list)], func() bool {
		for _, g := range trees {
			if !g.same() {
				return false
			}
		}
		return sameSeds(all, append(append([]impl.Sed{}, list...), room, room))
	}
}

// ruleLists are lists that SedOK is asked about: right ones and wrong ones.
func ruleLists() [][]impl.Sed {
	out := [][]impl.Sed{nil, {}, {{}}, {{Name: "s"}}, {{Name: "p", Text: "x"}}, {{Name: "s", Rx: cat(many(200, char('a'))...), Text: `\1`}}, {{Name: "p", From: impl.Addr{Kind: 3, Rx: repeat(0, greatest, char('a'))}}}}
	for _, text := range ruleScripts {
		for _, ere := range []bool{false, true} {
			list, _, _ := impl.ParseSed(text, ere)
			out = append(out, list)
		}
	}
	return out
}

// P1: a list that is asked about stays, and its answers are alike.
func TestSedOKArgumentStays(t *testing.T) {
	for _, list := range ruleLists() {
		guarded, same := guardSeds(list)
		right := impl.SedOK(guarded)
		if !same() {
			t.Errorf("a list was changed: %s", shownList(list))
		}
		if right != impl.SedOK(list) || right != listRight(list) {
			t.Errorf("an answer hangs on more than the list: %s", shownList(list))
		}
	}
}

// An empty list and nil are the same value.
func TestSedOKEmptyIsNil(t *testing.T) {
	empty := impl.Rx{Kids: []impl.Rx{}}
	wantSedOK(t, true)
	if !impl.SedOK(nil) || !impl.SedOK([]impl.Sed{}) {
		t.Error("SedOK of no commands")
	}
	wantSedOK(t, true, impl.Sed{Name: "p", Rx: empty, From: impl.Addr{Rx: empty}, To: impl.Addr{Rx: empty}})
	wantSedOK(t, true, impl.Sed{Name: "p", From: impl.Addr{Kind: 1, N: 1, Rx: empty}, To: impl.Addr{Kind: 2, Rx: empty}})
	wantSedOK(t, true, impl.Sed{Name: "s", Rx: impl.Rx{Kind: impl.RxAny, Kids: []impl.Rx{}}})
	wantSedOK(t, false, impl.Sed{Name: "s", Rx: empty})
}

// P1: no two lists of an answer share memory, not even behind their ends, and
// nothing of an answer is kept.
func TestScriptListsShareNothing(t *testing.T) {
	for _, text := range ruleScripts {
		for _, ere := range []bool{false, true} {
			first, _, _ := impl.ParseSed(text, ere)
			count := 0
			for _, tree := range treesOf(first) {
				count += len(listsOf(tree))
			}
			for i := 0; i < count; i += 1 + count/40 {
				list, _, _ := impl.ParseSed(text, ere)
				var lists [][]impl.Rx
				for _, tree := range treesOf(list) {
					lists = append(lists, listsOf(tree)...)
				}
				var was [][]impl.Rx
				for _, one := range lists {
					was = append(was, append([]impl.Rx{}, one...))
				}
				written := lists[i][:cap(lists[i])]
				for k := range written {
					written[k] = impl.Rx{Kind: mark, N: mark, Set: "z"}
				}
				for k, one := range lists {
					if k != i && !sameRx(cat(one...), cat(was[k]...)) {
						t.Fatalf("lists %d and %d of ParseSed(%.60q, %t) share memory", i, k, text, ere)
					}
				}
			}
			list, _, _ := impl.ParseSed(text, ere)
			list = list[:cap(list)]
			for k := range list {
				list[k] = impl.Sed{Name: "z", Jump: mark}
			}
			if again, _, _ := impl.ParseSed(text, ere); !sameSeds(again, first) {
				t.Fatalf("an answer of ParseSed(%.60q, %t) was kept", text, ere)
			}
		}
	}
}

// P1: alike arguments have alike answers, whatever was called ahead, and from many sides.
func TestScriptHangsOnNothingElse(t *testing.T) {
	want := map[string]string{}
	for _, text := range ruleScripts {
		want[text] = scriptOutcome(t, text, true)
	}
	for i := range ruleScripts {
		for k := range ruleScripts {
			impl.ParseSed(ruleScripts[k], false)
			wantScript(t, ruleScripts[i], true, want[ruleScripts[i]])
		}
	}
	var all sync.WaitGroup
	for _, text := range ruleScripts {
		all.Go(func() {
			for range 20 {
				wantScript(t, text, true, want[text])
			}
		})
	}
	all.Wait()
}

// P1: nothing panics, whatever is handed in.
func TestScriptNothingPanics(t *testing.T) {
	heads := []string{"", "1", "1,", "!", "/", "/a", `/\`, "s", "s/", "s/a", `s/a\`, "s/a/", `s/a/\`, "s/a/b/", "y", "y/", `y/\`, "y/a/", ":", "b", "t ", "a", `a\`, "a\\\n", "{", "{}", "#", "p", "p ", "q", "1,2q", "{p;"}
	for _, head := range heads {
		for c := range 256 {
			for _, tail := range []string{"", "/", "//", `\`, "\n", "}", ";p", "\xff", " ", "1"} {
				text := head + string([]byte{byte(c)}) + tail
				wantScriptModel(t, text, c%2 == 0)
			}
		}
	}
	for _, piece := range []string{"{", "}", "{}", "/", `\`, "s", "y", "1", ",", "!", "$", ":", "b", "a", "#", "\n", ";", "p", "1,", "s/a/b/;", "y/a/b/\n", ":a\n", "b a\n", "a\\\n", "/a/", "\xff"} {
		for _, size := range []int{2, 61, 200, 1999, 2000} {
			text := strings.Repeat(piece, size)
			wantScriptModel(t, text[:min(len(text), 2000)], size%2 == 0)
		}
	}
}

// Lists with trees that are very deep, very wide, or hold themselves have an end, too.
func TestSedOKGreat(t *testing.T) {
	deep := cat()
	for range 100000 {
		deep = cat(deep)
	}
	round := cat(char('a'))
	round.Kids[0] = round
	wide := cat(many(100000, char('a'))...)
	for _, r := range []impl.Rx{deep, round, wide, repeat(20, greatest, round)} {
		for _, c := range []impl.Sed{{Name: "s", Rx: r}, {Name: "s", Rx: r, Text: `\1`}, {Name: "p", From: impl.Addr{Kind: 3, Rx: r}}, {Name: "p", From: impl.Addr{Kind: 2}, To: impl.Addr{Kind: 3, Rx: r}}, {Name: "p", Rx: r}, {Name: "p", From: impl.Addr{Kind: 1, N: 1, Rx: r}}, {Name: "p", From: impl.Addr{Rx: r}}} {
			if impl.SedOK([]impl.Sed{c}) {
				t.Error("SedOK of a tree that is not right")
			}
		}
	}
	great := strings.Repeat("ab", 1<<22)
	for _, name := range append(commandNames(), "", "z") {
		for _, text := range []string{great, great + "\n", strings.Repeat(`\1`, 1<<20), strings.Repeat("\n", 1<<20)} {
			if impl.SedOK([]impl.Sed{{Name: name, Rx: cat(char('a')), Text: text}, {Name: great}}) {
				t.Error("SedOK of a great text")
			}
		}
	}
}

// The chapter 'Ways': scripts have a map from names to method expressions, made
// in a function, and a switch that falls through; nothing of them at package level.
func TestWaysOfTheScripts(t *testing.T) {
	f, err := parser.ParseFile(token.NewFileSet(), "../impl/l07_script.go", nil, 0)
	if err != nil {
		t.Fatal(err)
	}
	expressions, falls, literals := 0, 0, 0
	for _, d := range f.Decls {
		if g, ok := d.(*ast.GenDecl); ok && g.Tok == token.VAR {
			t.Error("a variable at package level")
		}
	}
	ast.Inspect(f, func(n ast.Node) bool {
		switch x := n.(type) {
		case *ast.CompositeLit:
			if _, ok := x.Type.(*ast.MapType); ok {
				literals++
			}
		case *ast.SelectorExpr:
			if p, ok := x.X.(*ast.ParenExpr); ok {
				if _, ok := p.X.(*ast.StarExpr); ok {
					expressions++
				}
			}
		case *ast.BranchStmt:
			if x.Tok == token.FALLTHROUGH {
				falls++
			}
		}
		return true
	})
	if expressions < 10 || falls == 0 || literals == 0 {
		t.Error("method expressions", expressions, "fallthrough", falls, "maps", literals)
	}
}
