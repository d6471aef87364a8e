package tests

import (
	"go/ast"
	"go/parser"
	"go/token"
	"math/rand"
	"slices"
	"strings"
	"sync"
	"testing"

	"loop.example/g00142/impl"
)

// Edit is ParseSed, then RunSed: a code of the first has its place, one of the
// second has none.
func TestEditCodes(t *testing.T) {
	text, most := "a\nb\n", strings.Repeat("a\n", 32768)
	for _, c := range []struct {
		script, text string
		ere          bool
		code, at     int
	}{
		{"s/a", text, false, impl.ErrSyntax, 2}, {"p p", text, false, impl.ErrSyntax, 2}, {"{p", text, true, impl.ErrSyntax, 2}, {"w f", text, false, impl.ErrForbid, 0}, {"p;w", text, false, impl.ErrForbid, 2}, {"2b none", text, false, impl.ErrLabel, 1}, {"p\n0p", text, false, impl.ErrRange, 2}, {"s/(/x/", text, true, impl.ErrSyntax, 2}, {`s/(a)/\1/`, text, false, impl.ErrSyntax, 6}, {`p;/\1/d`, text, false, impl.ErrForbid, 3}, {strings.Repeat("p;", 60) + "p", text, false, impl.ErrMany, 120}, {"}", "", false, impl.ErrSyntax, 0}, {"p;}", "", false, impl.ErrSyntax, 2},
		{strings.Repeat(";", 2001), text, false, impl.ErrSize, 0}, {strings.Repeat("p", 2001), text, true, impl.ErrSize, 0}, {strings.Repeat(";", 65536), text, false, impl.ErrSize, 0}, {strings.Repeat(";", 65537), text, false, impl.ErrLong, 0},
		{"p p", most + "a", false, impl.ErrLong, 0}, {"", most + "a", false, impl.ErrLong, 0}, {"q", most + "a", false, impl.ErrLong, 0}, {strings.Repeat(";", 2001), most + "a", false, impl.ErrLong, 0}, {strings.Repeat(";", 65537), most + "a", false, impl.ErrLong, 0}, {"p p", most, false, impl.ErrSyntax, 2},
		{":a;ba", text, false, impl.ErrSteps, 0}, {"p;p;:a;ba", text, false, impl.ErrSteps, 0}, {"", most, false, impl.ErrSize, 0}, {"p;s/x/y/", long(121), false, impl.ErrSize, 0}, {"p;/x/d", long(121), true, impl.ErrSize, 0}, {"p;p;p", long(1001), false, impl.ErrSize, 0}, {"d", most, false, impl.ErrSteps, 0},
	} {
		for _, quiet := range []bool{false, true} {
			want := c.code
			if c.script == "" && quiet && len(c.text) <= impl.MaxText {
				want = impl.OK
			}
			if said, code, at := impl.Edit(c.script, c.text, c.ere, quiet); said != "" || code != want || at != c.at {
				t.Errorf("Edit(%.60q, %d bytes, %t, %t): %d bytes with code %d at %d, want code %d at %d", c.script, len(c.text), c.ere, quiet, len(said), code, at, want, c.at)
			}
		}
	}
	if said, code, at := impl.Edit("q", most, false, false); said != "a\n" || code != impl.OK || at != 0 {
		t.Errorf("Edit of MaxText bytes: %q with code %d at %d", said, code, at)
	}
	script := "p" + strings.Repeat(";", 1999)
	if said, code, at := impl.Edit(script, "a", false, false); said != "a\na\n" || code != impl.OK || at != 0 {
		t.Errorf("Edit by MaxScript bytes: %q with code %d at %d", said, code, at)
	}
}

// Edit reads a script by the patterns that are asked for, and is quiet if asked.
func TestEditKinds(t *testing.T) {
	for _, c := range []struct {
		script, text string
		ere, quiet   bool
		want         string
	}{
		{"s/a+/x/p", "aa+\n", false, false, "ax\nax\n"}, {"s/a+/x/p", "aa+\n", true, false, "x+\nx+\n"}, {"s/a+/x/p", "aa+\n", false, true, "ax\n"}, {"s/a+/x/p", "aa+\n", true, true, "x+\n"}, {`s/(a)/\1\1/`, "a", true, false, "aa\n"}, {`s/\(a\)/\1\1/`, "a", false, false, "aa\n"}, {"/a|b/d", "a|b\na\nb\nc", false, false, "a\nb\nc\n"}, {"/a|b/d", "a|b\na\nb\nc", true, false, "c\n"}, {"/(a)/,/b{2}/!d", "x\na\nb\nbb\ny\n", true, false, "a\nb\nbb\n"},
	} {
		if said, code, at := impl.Edit(c.script, c.text, c.ere, c.quiet); said != c.want || code != impl.OK || at != 0 {
			t.Errorf("Edit(%q, %q, %t, %t): %q with code %d at %d, want %q", c.script, c.text, c.ere, c.quiet, said, code, at, c.want)
		}
	}
}

// RunSed asks that the list is right, behind what is too long, ahead of all else.
func TestRunSedBad(t *testing.T) {
	lists := [][]impl.Sed{
		{{}}, {{Name: "z"}}, {{Name: "p", Text: "x"}}, {{Name: "s"}}, {{Name: "{"}}, {{Name: "b", Jump: 2}}, {{Name: "b", Jump: -1}}, {{Name: "a"}}, {{Name: "a", Text: "x"}}, {{Name: "y", Text: "abc"}}, {{Name: "q", From: impl.Addr{Kind: 1, N: 1}, To: impl.Addr{Kind: 2}}}, {{Name: "p", To: impl.Addr{Kind: 2}}}, {{Name: "p", From: impl.Addr{Kind: 1}}}, {{Name: "p", From: impl.Addr{Kind: 3}}}, {{Name: "p"}, {Name: "q"}, {Name: "}"}}, {{Name: "s", Rx: cat(char('a')), Text: `\1`}}, {{Name: "s", Rx: cat(char('a')), Text: `\`}},
	}
	for _, size := range []int{61, 100, 4096} {
		lists = append(lists, make([]impl.Sed, size), commands(t, "p", size))
	}
	for _, r := range wrongTrees() {
		lists = append(lists, []impl.Sed{{Name: "s", Rx: r}}, []impl.Sed{{Name: "p", From: impl.Addr{Kind: 3, Rx: r}}}, []impl.Sed{{Name: "q"}, {Name: "p", From: impl.Addr{Kind: 2}, To: impl.Addr{Kind: 3, Rx: r}}})
	}
	for _, list := range lists {
		for text, want := range map[string]int{"": impl.ErrBad, "a\n": impl.ErrBad, long(1001): impl.ErrBad, long(65536): impl.ErrBad, long(65537): impl.ErrLong} {
			for _, quiet := range []bool{false, true} {
				if said, code := impl.RunSed(list, text, quiet); said != "" || code != want {
					t.Errorf("RunSed of %d commands over %d bytes: %d bytes with code %d, want %d", len(list), len(text), len(said), code, want)
				}
			}
		}
	}
	for _, list := range [][]impl.Sed{commands(t, "p", 4097), make([]impl.Sed, 4097), make([]impl.Sed, 10000)} {
		for _, text := range []string{"", "a\n", long(1001), long(65537)} {
			if said, code := impl.RunSed(list, text, false); said != "" || code != impl.ErrLong {
				t.Errorf("RunSed of %d commands: %d bytes with code %d", len(list), len(said), code)
			}
		}
	}
	if said, code := impl.RunSed(nil, long(65537), true); said != "" || code != impl.ErrLong {
		t.Errorf("RunSed of MaxText bytes and one: %d bytes with code %d", len(said), code)
	}
	if said, code := impl.RunSed(commands(t, "p", 60), "a\n", true); said != strings.Repeat("a\n", 60) || code != impl.OK {
		t.Errorf("RunSed of MaxCmds commands: %q with code %d", said, code)
	}
}

var runScripts = []string{
	"", "p", "$!N;P;D", "1!G;h;$!d", "s/a/[&]/gp;t x\nd\n:x\ny/ab/ba/", "/a/,/b/{=;p;H};$!d;x", "a x\ni y\n2,3c z", ":a;s/^/xxxxxxxxx/;ba", ":a;ba", "2q", "n;d", `s/\(a\)*\(b\)*/\2\1\n/g`, "/a/!s/x*/-/g;G;G", "N;N;s/.*/&&/", "0p", "s/a",
}

var runTexts = []string{"", "a", "a\n", "\n", "a\nb\nc\n", "b\na\n\nab\nba", "abab\nabab\nabab\n", strings.Repeat("ab\n", 700), long(120), long(121), long(1001), "\x00\xff\n"}

// P1: a list that is run, and an `s` that is asked, stay; their answers are alike.
func TestRunArgumentsStay(t *testing.T) {
	for _, script := range runScripts {
		list, _, _ := impl.ParseSed(script, false)
		for _, text := range runTexts {
			guarded, same := guardSeds(list)
			said, code := impl.RunSed(guarded, text, false)
			if !same() {
				t.Fatalf("a list was changed: %s", shownList(list))
			}
			if again, againCode := impl.RunSed(list, text, false); again != said || againCode != code {
				t.Fatalf("an answer hangs on more than the list: %s", shownList(list))
			}
			for i, c := range guarded {
				impl.Replace(c, text)
				if !same() {
					t.Fatalf("an s was changed: %s", shownSed(list[i]))
				}
			}
		}
	}
}

// An empty list and nil are the same value, also within commands.
func TestRunEmptyIsNil(t *testing.T) {
	empty := impl.Rx{Kids: []impl.Rx{}}
	for _, text := range runTexts[:8] {
		said, code := impl.RunSed(nil, text, false)
		if again, againCode := impl.RunSed([]impl.Sed{}, text, false); again != said || againCode != code {
			t.Errorf("RunSed of nil and of an empty list over %d bytes", len(text))
		}
		for _, addr := range []impl.Addr{{}, {Kind: impl.AdLast}, {Kind: impl.AdLine, N: 2}} {
			bare := impl.Sed{From: addr, Name: "p"}
			full := impl.Sed{From: impl.Addr{Kind: addr.Kind, N: addr.N, Rx: empty}, To: impl.Addr{Rx: empty}, Name: "p", Rx: empty}
			said, code := impl.RunSed([]impl.Sed{bare}, text, true)
			if again, againCode := impl.RunSed([]impl.Sed{full}, text, true); again != said || againCode != code {
				t.Errorf("RunSed of nil and of empty Kids over %d bytes", len(text))
			}
		}
	}
	c := impl.Sed{Name: "s", Rx: impl.Rx{Kind: impl.RxAny, Kids: []impl.Rx{}}, From: impl.Addr{Rx: empty}}
	if got, n, code := impl.Replace(c, "ab"); got != "b" || n != 1 || code != impl.OK {
		t.Errorf("Replace with empty Kids: %q, %d, with code %d", got, n, code)
	}
}

// runOutcome is what all three functions answer, in one text.
func runOutcome(script, text string, quiet bool) string {
	said, code, at := impl.Edit(script, text, false, quiet)
	out := said + "|" + itoa(code) + "|" + itoa(at)
	list, _, _ := impl.ParseSed(script, false)
	said, code = impl.RunSed(list, text, quiet)
	out += "|" + said + "|" + itoa(code)
	for _, c := range list {
		got, n, code := impl.Replace(c, text)
		out += "|" + got + "|" + itoa(n) + "|" + itoa(code)
	}
	return out
}

// P1: alike arguments have alike answers, whatever was called ahead, and from many sides.
func TestRunHangsOnNothingElse(t *testing.T) {
	type pair struct{ script, text string }
	want := map[pair]string{}
	for _, script := range runScripts {
		for _, text := range runTexts {
			want[pair{script, text}] = runOutcome(script, text, false)
		}
	}
	for _, script := range slices.Backward(runScripts) {
		for _, text := range slices.Backward(runTexts) {
			runOutcome(script, text, true)
			if runOutcome(script, text, false) != want[pair{script, text}] {
				t.Fatalf("an answer hangs on what was called ahead: %q over %d bytes", script, len(text))
			}
		}
	}
	var all sync.WaitGroup
	for _, script := range runScripts {
		all.Go(func() {
			for _, text := range runTexts {
				if runOutcome(script, text, false) != want[pair{script, text}] {
					t.Errorf("an answer hangs on what is called beside: %q over %d bytes", script, len(text))
				}
			}
		})
	}
	all.Wait()
}

// P1: nothing panics, and all ends, whatever is handed in.
func TestRunNothingPanics(t *testing.T) {
	r := rand.New(rand.NewSource(85))
	ints := []int{least, -1, 0, 1, 2, 3, 60, 513, greatest}
	some := func() int { return ints[r.Intn(len(ints))] }
	trees := append(wrongTrees(), cat(char('a')), group(1, star(anyByte)), impl.Rx{})
	texts := []string{"", "x\n", "ab", `\`, `\1`, "&", "\n", `\n\9`, long(2001), "abc\n"}
	for range 30000 {
		list := make([]impl.Sed, r.Intn(4))
		for i := range list {
			c := rightCommand(commandNames()[r.Intn(21)])
			switch r.Intn(8) {
			case 0:
				c.Jump = some()
			case 1:
				c.Text = texts[r.Intn(len(texts))]
			case 2:
				c.Rx = trees[r.Intn(len(trees))]
			case 3:
				c.From = impl.Addr{Kind: r.Intn(5), N: some(), Rx: trees[r.Intn(len(trees))]}
			case 4:
				c.From, c.To = impl.Addr{Kind: 2}, impl.Addr{Kind: r.Intn(5), N: some()}
			case 5:
				c.Count, c.Global = some(), true
			}
			list[i] = c
			impl.Replace(c, runTexts[r.Intn(len(runTexts))])
		}
		text := runTexts[r.Intn(len(runTexts))]
		said, code := impl.RunSed(list, text, r.Intn(2) == 0)
		if (code == impl.ErrBad) == impl.SedOK(list) || code != impl.OK && said != "" {
			t.Fatalf("RunSed(%.300s): %d bytes with code %d", shownList(list), len(said), code)
		}
	}
	for _, text := range runTexts {
		for c := range 256 {
			impl.Edit(string([]byte{byte(c)}), text, false, false)
			impl.Edit("s/"+string([]byte{byte(c)})+"/&/g", text, c%2 == 0, true)
		}
	}
}

// P9: a script without commands, or with commands that do nothing, says a text
// as it is, with its last line ended; quietly nothing.
func TestScriptsDoNothing(t *testing.T) {
	r := rand.New(rand.NewSource(86))
	for range 3000 {
		text := randomLines(r, "abx \\&/\x00\xff", 12, 9)
		whole := text
		if text != "" && !strings.HasSuffix(text, "\n") {
			whole += "\n"
		}
		for _, script := range []string{"", "# p", "{}", "!d", "x;x", "h;g", "y/ab/ab/", "n", "N", "9999d", "s/z/y/", "s/x/&/g", `s/x/\0/`, "s/x*/&/g", `s/\(a*\)\(b*\)/\1\2/g`, "b;d", "$!N;P;D", "G;s/\\n$//", "p;d"} {
			wantEdit(t, script, text, false, whole)
		}
		for _, script := range []string{"", "x", "h;H;x", "s/a/b/", "y/a/b/", "d", "n", "N", "D", "q"} {
			wantEdit(t, script, text, true, "")
		}
		wantEdit(t, "p", text, true, whole)
		if t.Failed() {
			return
		}
	}
}

// P9: a `p` says each line twice.
func TestScriptsSayTwice(t *testing.T) {
	r := rand.New(rand.NewSource(87))
	for range 3000 {
		text, twice := randomLines(r, "abx\x00\xff", 12, 9), ""
		for _, line := range modelLines(text) {
			twice += line + "\n" + line + "\n"
		}
		for _, script := range []string{"p", "P", "{p}", "s/^//p", "s/x*/&/gp", "h;p;x", "p;b;p", "p;n;p", "p;9999p"} {
			wantEdit(t, script, text, false, twice)
		}
		wantEdit(t, "p;p", text, true, twice)
		if t.Failed() {
			return
		}
	}
}

// P9: matches are put for themselves, by patterns of both kinds.
func TestScriptsPutMatchesForThemselves(t *testing.T) {
	r := rand.New(rand.NewSource(88))
	tried := 0
	for range 4000 {
		ere := r.Intn(2) == 0
		p := rightPattern(r, ere, 2)
		flags := []string{"", "g", "2", "2g", "3"}[r.Intn(5)]
		for _, self := range []string{"&", `\0`} {
			script := "s/" + strings.ReplaceAll(p, "/", `\/`) + "/" + self + "/" + flags
			if _, code, _ := impl.ParseSed(script, ere); code != impl.OK {
				continue
			}
			tried++
			text := strings.ReplaceAll(randomText(r, p+"abc", r.Intn(60)), "\n", "")
			if said, code, at := impl.Edit(script, text+"\n", ere, false); said != text+"\n" || code != impl.OK || at != 0 {
				t.Fatalf("Edit(%q, %q, %t): %q with code %d at %d", script, text, ere, said, code, at)
			}
			list, _, _ := impl.ParseSed(script, ere)
			got, n, code := impl.Replace(list[0], text)
			all, _ := impl.MatchAll(list[0].Rx, text)
			want := max(0, len(all)-max(list[0].Count-1, 0))
			if !list[0].Global {
				want = min(want, 1)
			}
			if got != text || n != want || code != impl.OK {
				t.Fatalf("Replace(%q, %q): %q, %d, with code %d, want %d", script, text, got, n, code, want)
			}
		}
	}
	if tried < 3000 {
		t.Error("too few scripts to tell anything:", tried)
	}
}

// P9: bytes exchanged, and exchanged again; lines turned round, and turned back.
func TestScriptsTurnRound(t *testing.T) {
	r := rand.New(rand.NewSource(89))
	for range 3000 {
		text, turned, exchanged := randomLines(r, "abcx\x00\xff", 12, 9), "", ""
		for _, line := range modelLines(text) {
			turned = line + "\n" + turned
			exchanged += strings.NewReplacer("a", "b", "b", "a", "c", "\xff", "\xff", "c").Replace(line) + "\n"
		}
		whole := strings.Join(append(modelLines(text), ""), "\n")
		swap := "y/abc\xff/ba\xffc/"
		wantEdit(t, swap, text, false, exchanged)
		wantEdit(t, swap, exchanged, false, whole)
		wantEdit(t, swap+";"+swap, text, false, whole)
		for _, script := range []string{"1!G;h;$!d", "1!G;h;$p;d"} {
			wantEdit(t, script, text, false, turned)
			wantEdit(t, script, turned, false, whole)
		}
		wantEdit(t, "1!G;h;$p", text, true, turned)
		if t.Failed() {
			return
		}
	}
	// The bytes of a line, turned round one by one.
	for range 300 {
		line := []byte(randomText(r, "abc\x00\xff", r.Intn(40)))
		turned := slices.Clone(line)
		slices.Reverse(turned)
		wantEdit(t, `/\n/!G;s/\(.\)\(.*\n\)/&\2\1/;/\(.\)\(.*\n\)/D;s/.//`, string(line)+"\n", false, string(turned)+"\n")
	}
}

// The chapter 'Ways': the spaces are embedded in the run, their methods promoted;
// lines are variadic; cycles are a labelled loop.
func TestWaysOfTheRun(t *testing.T) {
	f, err := parser.ParseFile(token.NewFileSet(), "../impl/l08_sed.go", nil, 0)
	if err != nil {
		t.Fatal(err)
	}
	embedded, variadic, loops, labels := 0, 0, 0, 0
	ast.Inspect(f, func(n ast.Node) bool {
		switch x := n.(type) {
		case *ast.StructType:
			for _, field := range x.Fields.List {
				if len(field.Names) == 0 {
					embedded++
				}
			}
		case *ast.Ellipsis:
			variadic++
		case *ast.LabeledStmt:
			if _, ok := x.Stmt.(*ast.ForStmt); ok {
				loops++
			}
		case *ast.BranchStmt:
			if x.Label != nil {
				labels++
			}
		}
		return true
	})
	if embedded == 0 || variadic == 0 || loops == 0 || labels < 2 {
		t.Error("embedded", embedded, "variadic", variadic, "labelled loops", loops, "branches to labels", labels)
	}
}
