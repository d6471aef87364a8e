package tests

import (
	"math/rand"
	"strings"
	"testing"

	"loop.example/g00142/impl"
)

// substituteOf is the `s` that a script is.
func substituteOf(t *testing.T, script string, ere bool) impl.Sed {
	t.Helper()
	list, code, at := impl.ParseSed(script, ere)
	if code != impl.OK || len(list) != 1 {
		t.Fatalf("ParseSed(%q): %d commands with code %d at %d", script, len(list), code, at)
	}
	return list[0]
}

// wantReplaced asks what an `s` makes of a text, alone and, if the text is a
// line, in a run.
func wantReplaced(t *testing.T, ere bool, script, text, want string, count int) {
	t.Helper()
	c := substituteOf(t, script, ere)
	got, n, code := impl.Replace(c, text)
	if got != want || n != count || code != impl.OK {
		t.Errorf("Replace(%q, %q): %q, %d, with code %d, want %q, %d", script, text, got, n, code, want, count)
	}
	if model, n := modelReplace(c, text); model != want || n != count {
		t.Errorf("the model of %q over %q: %q, %d, want %q, %d", script, text, model, n, want, count)
	}
	if strings.Contains(text, "\n") {
		return
	}
	said := want + "\n"
	if c.Print && count > 0 {
		said += said
	}
	if got, code, _ := impl.Edit(script, text+"\n", ere, false); got != said || code != impl.OK {
		t.Errorf("Edit(%q, %q): %q with code %d, want %q", script, text, got, code, said)
	}
}

func wantReplaceCode(t *testing.T, c impl.Sed, text string, want int) {
	t.Helper()
	got, n, code := impl.Replace(c, text)
	if got != "" || n != 0 || code != want {
		t.Errorf("Replace(%.200s, %d bytes): %d bytes, %d, with code %d, want code %d", shownSed(c), len(text), len(got), n, code, want)
	}
}

// rowOf is a script, a text, what becomes of it, and of how many matches.
type rowOf struct {
	script, text, want string
	count              int
}

func wantReplacedRows(t *testing.T, ere bool, rows []rowOf) {
	t.Helper()
	for _, r := range rows {
		wantReplaced(t, ere, r.script, r.text, r.want, r.count)
	}
}

// Of all matches the one of number Count, with Global it and all behind it.
func TestReplaceCountAndGlobal(t *testing.T) {
	wantReplacedRows(t, false, []rowOf{
		{"s/a/b/", "", "", 0}, {"s/a/b/", "xyz", "xyz", 0}, {"s/a/b/g", "xyz", "xyz", 0}, {"s/a/b/", "a", "b", 1}, {"s/a/b/", "xax", "xbx", 1}, {"s/a/b/", "aaaa", "baaa", 1},
		{"s/a/b/1", "aaaa", "baaa", 1}, {"s/a/b/2", "aaaa", "abaa", 1}, {"s/a/b/3", "aaaa", "aaba", 1}, {"s/a/b/4", "aaaa", "aaab", 1}, {"s/a/b/5", "aaaa", "aaaa", 0}, {"s/a/b/512", "aaaa", "aaaa", 0}, {"s/a/b/002", "aaaa", "abaa", 1},
		{"s/a/b/g", "aaaa", "bbbb", 4}, {"s/a/b/1g", "aaaa", "bbbb", 4}, {"s/a/b/g2", "aaaa", "abbb", 3}, {"s/a/b/2g", "xaxaxax", "xaxbxbx", 2}, {"s/a/b/4g", "aaaa", "aaab", 1}, {"s/a/b/5g", "aaaa", "aaaa", 0}, {"s/a/b/512g", "aaaa", "aaaa", 0},
		{"s/a/b/p", "aa", "ba", 1}, {"s/a/b/gp", "aa", "bb", 2}, {"s/a/b/p2g", "aaa", "abb", 2}, {"s/z/b/p", "aa", "aa", 0}, {"s/a/b/3p", "aa", "aa", 0},
		{"s/a//", "xay", "xy", 1}, {"s/a//g", "aaa", "", 3}, {"s/aa/b/g", "aaaaa", "bba", 2}, {"s/aa/a/g", "aaaa", "aa", 2}, {"s/a/aa/g", "aa", "aaaa", 2}, {"s/a*/b/", "aaa", "b", 1}, {"s/.*/x/", "a b c", "x", 1}, {"s/.*/x/g", "abc", "x", 1}, {"s/./x/g", "abc", "xxx", 3},
		{"s/a/b/120", long(120), long(119) + "b", 1}, {"s/a/b/120g", long(120), long(119) + "b", 1}, {"s/a/b/121", long(120), long(120), 0}, {"s/a/b/g", long(120), strings.Repeat("b", 120), 120},
	})
}

func TestReplaceEmptyMatches(t *testing.T) {
	wantReplacedRows(t, false, []rowOf{
		{"s/x*/-/", "abc", "-abc", 1}, {"s/x*/-/g", "abc", "-a-b-c-", 4}, {"s/x*/-/2", "abc", "a-bc", 1}, {"s/x*/-/2g", "abc", "a-b-c-", 3}, {"s/x*/-/4", "abc", "abc-", 1}, {"s/x*/-/5", "abc", "abc", 0}, {"s/x*/-/", "", "-", 1}, {"s/x*/-/g", "", "-", 1}, {"s/x*/-/2", "", "", 0},
		{"s/x*/-/g", "baxxc", "-b-a-c-", 4}, {"s/x*/-/3", "baxxc", "ba-c", 1}, {"s/x*/-/4", "baxxc", "baxxc-", 1}, {"s/x*/-/g", "xx", "-", 1}, {"s/x*/-/g", "xxa", "-a-", 2}, {"s/b*/<&>/g", "abb", "<>a<bb>", 2},
		{"s/^/>/", "ab", ">ab", 1}, {"s/^/>/g", "ab", ">ab", 1}, {"s/$/</", "ab", "ab<", 1}, {"s/$/</g", "ab", "ab<", 1}, {"s/^$/x/", "", "x", 1}, {"s/^$/x/", "a", "a", 0}, {"s/^/>/2", "ab", "ab", 0}, {"s/^a/b/g", "aaa", "baa", 1}, {"s/a*$/x/g", "baa", "bx", 1}, {"s/x*//g", "abc", "abc", 4},
	})
}

// What stands in a replacement, and what it makes.
func TestReplaceFills(t *testing.T) {
	wantReplacedRows(t, false, []rowOf{
		{"s/b/&&/", "abc", "abbc", 1}, {"s/b/[&]/", "abc", "a[b]c", 1}, {`s/b/\&/`, "abc", "a&c", 1}, {`s/b/\0/`, "abc", "abc", 1}, {`s/b/<\0>/g`, "bb", "<b><b>", 2}, {`s/b/\\&/`, "b", `\b`, 1}, {`s/b/\\\&/`, "b", `\&`, 1}, {`s/b/\\/`, "abc", `a\c`, 1}, {`s/b/\\0/`, "b", `\0`, 1}, {`s/b/\n/`, "abc", "a\nc", 1}, {`s/b/\\n/`, "abc", `a\nc`, 1}, {"s/b/\\\n/", "abc", "a\nc", 1},
		{`s/b/\//`, "abc", "a/c", 1}, {`s,b,\,/,`, "abc", "a,/c", 1}, {`s/b/\a\t\r\x\N\./`, "b", "atrxN.", 1}, {`s/b/\ /`, "b", " ", 1}, {"s/b/\\\xff\x00\xfe/", "b", "\xff\x00\xfe", 1}, {"s/b/n0&1/", "b", "n0b1", 1}, {`s&b&[\&]&`, "abc", "a[b]c", 1}, {`s|b|\||`, "abc", "a|c", 1}, {"s/b/$^.*[/", "b", "$^.*[", 1},
		{`s/\(a\)\(b\)/\2\1/`, "abab", "baab", 1}, {`s/\(a\)\(b\)/\2\1/g`, "abab", "baba", 2}, {`s/\(a*\)\(b*\)/[\1|\2]/`, "aab", "[aa|b]", 1}, {`s/\(a*\)b/[\1]/g`, "aabb", "[aa][]", 2}, {`s/\(a\)/\1\1\0\1&/`, "a", "aaaaa", 1}, {`s/\(a\)/\10/`, "a", "a0", 1}, {`s/\(a\)/\\1/`, "a", `\1`, 1}, {`s/\(\)a/<\1>/`, "a", "<>", 1}, {`s/a\(b\)*/<\1>/g`, "aab", "<><b>", 2}, {`s/\(a\(b\)*\)*/<\1\2>/`, "aab", "<abb>", 1},
		{`s/\(a\)\(b\)\(c\)\(d\)\(e\)\(f\)\(g\)\(h\)\(i\)/\9\8\7\6\5\4\3\2\1\0/`, "xabcdefghiy", "xihgfedcbaabcdefghiy", 1},
		{`s/a\nb/x/`, "a\nb", "x", 1}, {"s/./x/g", "a\nb", "xxx", 3}, {"s/^b/x/", "a\nb", "a\nb", 0}, {"s/b$/x/", "a\nb\n", "a\nb\n", 0}, {`s/\n/+/g`, "a\nb\n", "a+b+", 2}, {`s/\n/&&/`, "\n", "\n\n", 1}, {"s/\xff/\x00/g", "\xff\xfe\xff", "\x00\xfe\x00", 2},
	})
	wantReplacedRows(t, true, []rowOf{
		{`s/(a)|(b)/[\1][\2]/g`, "ab", "[a][][][b]", 2}, {`s/(a|b)*/<\1>/`, "abc", "<b>c", 1}, {`s/(a)?b/<\1>/g`, "abb", "<a><>", 2}, {`s/(x)*/<\1>/g`, "ax", "<>a<x>", 2}, {`s/(a|(b))+/\2\1/`, "ba", "ba", 1}, {`s/(.)(.)/\2\1/g`, "abcde", "badce", 2}, {`s/((a)(b)?)(c)?/\4\3\2\1/`, "ac", "caa", 1}, {`s/a{2}/x/g`, "aaaaa", "xxa", 2}, {`s/\(a\)/x/`, "(a)", "x", 1},
	})
}

// An `s` that is right alone is asked, whatever its addresses and flags are.
func TestReplaceLooksAtNoAddress(t *testing.T) {
	for _, head := range []string{"", "9", "$", "/z/", "2,3", "/a/,$", "!", "1!", "$,1!"} {
		for _, flags := range []string{"", "p"} {
			c := substituteOf(t, head+"s/a/b/"+flags, false)
			if got, n, code := impl.Replace(c, "aa"); got != "ba" || n != 1 || code != impl.OK {
				t.Errorf("Replace(%s): %q, %d, with code %d", shownSed(c), got, n, code)
			}
		}
	}
}

func TestReplaceBad(t *testing.T) {
	right := impl.Sed{Name: "s", Rx: cat(char('a')), Text: "b"}
	for _, name := range append(commandNames(), "", "S", "ss", "}", ":", "w") {
		if name == "s" {
			continue
		}
		for _, text := range []string{"", "a", long(120), long(121), long(65536)} {
			wantReplaceCode(t, rightCommand(name), text, impl.ErrBad)
			c := right
			c.Name = name
			wantReplaceCode(t, c, text, impl.ErrBad)
		}
		wantReplaceCode(t, rightCommand(name), long(65537), impl.ErrLong)
	}
	for i, change := range []func(c *impl.Sed){
		func(c *impl.Sed) { c.Rx = impl.Rx{} }, func(c *impl.Sed) { c.Rx = impl.Rx{Kind: 10} }, func(c *impl.Sed) { c.Rx = group(2, char('a')) }, func(c *impl.Sed) { c.Rx = cat(many(120, char('a'))...) }, func(c *impl.Sed) { c.Rx = repeat(0, greatest, char('a')) },
		func(c *impl.Sed) { c.Text = `\` }, func(c *impl.Sed) { c.Text = `\1` }, func(c *impl.Sed) { c.Text = `b\9` }, func(c *impl.Sed) { c.Text = "\n" }, func(c *impl.Sed) { c.Text = long(2001) }, func(c *impl.Sed) { c.Text = long(70000) },
		func(c *impl.Sed) { c.Count = -1 }, func(c *impl.Sed) { c.Count = 513 }, func(c *impl.Sed) { c.Count = greatest }, func(c *impl.Sed) { c.Count = least }, func(c *impl.Sed) { c.Jump = 1 }, func(c *impl.Sed) { c.Jump = -1 },
		func(c *impl.Sed) { c.From.Kind = 4 }, func(c *impl.Sed) { c.From.Kind = 1 }, func(c *impl.Sed) { c.From.N = 1 }, func(c *impl.Sed) { c.To.Kind = 2 }, func(c *impl.Sed) { c.From.Kind = 3 }, func(c *impl.Sed) { c.From.Rx = cat() },
	} {
		c := right
		change(&c)
		for _, text := range []string{"", "a", long(120), long(121), long(65536)} {
			wantReplaceCode(t, c, text, impl.ErrBad)
		}
		wantReplaceCode(t, c, long(65537), impl.ErrLong)
		if t.Failed() {
			t.Fatal("change", i)
		}
	}
	for _, r := range wrongTrees() {
		wantReplaceCode(t, impl.Sed{Name: "s", Rx: r}, "a", impl.ErrBad)
	}
}

// Texts of MaxLine bytes and one more; what is too long to be a text at all.
func TestReplaceTextSize(t *testing.T) {
	for _, script := range []string{"s/a/b/", "s/z/b/", "s/a/b/g", "s/a/b/512", "s/^/x/", "s/$//"} {
		c := substituteOf(t, script, false)
		want, count := modelReplace(c, long(120))
		wantReplaced(t, false, script, long(120), want, count)
		wantReplaceCode(t, c, long(121), impl.ErrSize)
		wantReplaceCode(t, c, long(1001), impl.ErrSize)
		wantReplaceCode(t, c, long(65536), impl.ErrSize)
		wantReplaceCode(t, c, long(65537), impl.ErrLong)
	}
}

// Results of MaxBuf bytes and one more, whatever makes them too long.
func TestReplaceResultSize(t *testing.T) {
	for _, c := range []struct {
		flags, text  string
		size, result int // bytes of the replacement, and of a result that one byte more makes too long
	}{
		{"", "a", 1000, 1000},
		{"", "ab", 999, 1000},
		{"", "ba", 999, 1000},
		{"", "bab", 998, 1000},
		{"", "a" + strings.Repeat("b", 119), 881, 1000},
		{"", strings.Repeat("b", 119) + "a", 881, 1000},
		{"2", "aba", 998, 1000},
		{"2", "abab", 997, 1000},
		{"g", "aa", 500, 1000},
		{"g", "abab", 499, 1000},
		{"2g", "aaa", 499, 999},
		{"g", long(100), 10, 1000},
		{"g", long(100) + strings.Repeat("b", 20), 9, 920},
		{"g", strings.Repeat("ab", 60), 15, 960},
		{"3", "aa", 2000, 2},
	} {
		s := substituteOf(t, "s/a/x/"+c.flags, false)
		s.Text = strings.Repeat("x", c.size)
		got, n, code := impl.Replace(s, c.text)
		want, count := modelReplace(s, c.text)
		if got != want || n != count || code != impl.OK || len(got) != c.result {
			t.Errorf("Replace of %q by %d bytes %q: %d bytes, %d, with code %d", c.text, c.size, c.flags, len(got), n, code)
		}
		if s.Text += "x"; len(s.Text) <= 2000 {
			wantReplaceCode(t, s, c.text, impl.ErrSize)
		}
	}
	// What stands behind the last match is what makes it too long.
	s := impl.Sed{Name: "s", Rx: cat(char('a')), Text: strings.Repeat("x", 10), Global: true}
	wantReplaceCode(t, s, long(100)+"b", impl.ErrSize)
	s = impl.Sed{Name: "s", Rx: cat(char('a')), Text: strings.Repeat("x", 1000)}
	wantReplaceCode(t, s, "ab", impl.ErrSize)
	wantReplaceCode(t, s, "aa", impl.ErrSize)
	// As much as a replacement can make, by a match, by its groups and by itself.
	for _, text := range []string{strings.Repeat("&", 2000), strings.Repeat(`\1`, 1000), strings.Repeat("x", 2000)} {
		wantReplaceCode(t, impl.Sed{Name: "s", Rx: group(1, star(char('a'))), Text: text, Global: true}, long(120), impl.ErrSize)
	}
	none := impl.Sed{Name: "s", Rx: group(1, star(char('b'))), Text: strings.Repeat(`&\1`, 600), Global: true}
	if got, n, code := impl.Replace(none, long(120)); got != long(120) || n != 121 || code != impl.OK {
		t.Errorf("Replace of empty matches by themselves: %d bytes, %d, with code %d", len(got), n, code)
	}
}

// Many `s` over many texts, right and too long.
func TestReplaceRandom(t *testing.T) {
	r := rand.New(rand.NewSource(84))
	pieces := []string{"x", "&", `\0`, `\1`, `\2`, `\n`, `\\`, `\&`, "\\\n", `\q`, "xyz", "\xff", strings.Repeat("y", 40)}
	sizes := 0
	for range 30000 {
		p := []string{`\(a*\)\(b\)*`, `\(a\)*\(b*\)`, `\(\(a\)b*\)`, `\(.\)\(.\)`, `\(^\)\(a\)`, `\(a*\)\($\)`, `\(\)\([ab]\)`}[r.Intn(7)]
		rx, code, _ := impl.Compile(p, false)
		if code != impl.OK {
			t.Fatal(p, code)
		}
		c := impl.Sed{Name: "s", Rx: rx, Global: r.Intn(2) == 0, Print: r.Intn(2) == 0, Count: max(0, r.Intn(8)-3)}
		for range r.Intn(5) {
			c.Text += pieces[r.Intn(len(pieces))]
		}
		text := randomText(r, "aabx\n", r.Intn(1+r.Intn(120)))
		want, count := modelReplace(c, text)
		code = impl.OK
		if len(want) > 1000 {
			want, count, code = "", 0, impl.ErrSize
			sizes++
		}
		if got, n, gotCode := impl.Replace(c, text); got != want || n != count || gotCode != code {
			t.Fatalf("Replace(%s, %q): %q, %d, with code %d, want %q, %d, with code %d", shownSed(c), text, got, n, gotCode, want, count, code)
		}
	}
	if sizes < 100 {
		t.Error("too few of a kind to tell anything:", sizes)
	}
}

// In a run an `s` that replaced sets the flag, and with Print says the pattern
// space and a line end, also quietly.
func TestSedSubstitute(t *testing.T) {
	wantLoud(t, "s/a/b/p", "a\nc\n", "b\nb\nc\n", "s/a/b/gp", "aa\n", "bb\nbb\n", "s/z/b/p", "a\n", "a\n", "s/a/b/2p", "a\naa\n", "a\nab\nab\n", "2s/a/b/", "a\na\n", "a\nb\n", "2!s/a/b/", "a\na\n", "b\na\n", "/x/s/a/b/", "a\nxa\n", "a\nxb\n", `s/a/1\n2/p`, "a\n", "1\n2\n1\n2\n", `s/a/1\n2/;P`, "a\n", "1\n1\n2\n", `s/a/1\n2/;P;D`, "a\n", "1\n2\n", "s/a/b/;s/b/c/", "a\n", "c\n", "N;s/a/b/g", "a\na\n", "b\nb\n", "N;s/^a/b/g", "a\na\n", "b\na\n", `N;s/a\na/b/`, "a\na\n", "b\n", "x;s/^/h/;x;G", "a\n", "a\nh\n")
	wantQuiet(t, "s/a/b/p", "a\nc\na\n", "b\nb\n", "s/a/b/", "a\n", "", "s/a/a/p", "a\nb\n", "a\n", "s/x*/-/3p", "ab\na\n", "ab-\n", "s/a/b/p;s/b/c/p", "a\n", "b\nc\n", `s/a/\n/p`, "a\n", "\n\n")
	wantQuiet(t, "s/a/a/;t;p", "a\nb\n", "b\n", "s/a/b/3;t;p", "aa\n", "aa\n", "s/x*//;t;p", "a\n", "", "s/$//;t;p", "\n", "")
}
