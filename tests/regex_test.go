package tests

import (
	"strconv"
	"strings"
	"testing"

	"loop.example/g00142/impl"
)

// outcome tells what Compile answers: a tree, or a code's word and a place.
func outcome(t *testing.T, pattern string, ere bool) string {
	t.Helper()
	r, code, at := impl.Compile(pattern, ere)
	if code != impl.OK {
		if !isZeroRx(r) {
			t.Errorf("Compile(%q, %t): code %d with a tree: %s", pattern, ere, code, shown(r))
		}
		return impl.CodeWord(code) + "@" + strconv.Itoa(at)
	}
	groups, code := impl.Groups(r)
	if at != 0 || !impl.RxOK(r) || groups != countGroups(r) || code != impl.OK {
		t.Errorf("Compile(%q, %t): place %d, groups %d, code %d of %s", pattern, ere, at, groups, code, shown(r))
	}
	return shown(r)
}

func wantPattern(t *testing.T, pattern string, ere bool, want string) {
	t.Helper()
	if got := outcome(t, pattern, ere); got != want {
		t.Errorf("Compile(%q, %t): %s, want %s", pattern, ere, got, want)
	}
}

// row is a pattern and what it is, basic and extended.
type row struct{ pattern, basic, extended string }

func wantRows(t *testing.T, rows []row) {
	t.Helper()
	for _, c := range rows {
		wantPattern(t, c.pattern, false, c.basic)
		wantPattern(t, c.pattern, true, c.extended)
	}
}

// wantBoth is for patterns that are the same of both kinds.
func wantBoth(t *testing.T, pairs ...string) {
	t.Helper()
	for i := 0; i < len(pairs); i += 2 {
		wantRows(t, []row{{pairs[i], pairs[i+1], pairs[i+1]}})
	}
}

func TestCompileAtoms(t *testing.T) {
	wantBoth(t,
		"a", "cat('a')", "ab", "cat('a' 'b')", ".", "cat(any)", "a.b", "cat('a' any 'b')", "[b]", `cat(set"b")`, "a[bc]", `cat('a' set"bc")`,
		"\x00\xff\n", "cat(0 255 10)", " ", "cat(32)", "]", "cat(']')", "a]b", "cat('a' ']' 'b')", "}", "cat('}')", "a}", "cat('a' '}')", "-", "cat('-')",
		"/", "cat('/')", "&", "cat('&')", "9,1", "cat('9' ',' '1')", ":]", "cat(':' ']')",
	)
	wantRows(t, []row{
		{"(", "cat('(')", "syntax@1"},
		{")", "cat(')')", "syntax@0"},
		{"{", "cat('{')", "syntax@0"},
		{"+", "cat('+')", "syntax@0"},
		{"?", "cat('?')", "syntax@0"},
		{"|", "cat('|')", "syntax@0"},
		{"a+", "cat('a' '+')", "cat(rep1,-1('a'))"},
		{"a?", "cat('a' '?')", "cat(rep0,1('a'))"},
		{"a{2}", "cat('a' '{' '2' '}')", "cat(rep2,2('a'))"},
		{"a|b", "cat('a' '|' 'b')", "alt(cat('a') cat('b'))"},
		{"(a)", "cat('(' 'a' ')')", "cat(group1(cat('a')))"},
		{"a)", "cat('a' ')')", "syntax@1"},
	})
}

// P6, as far as a tree tells it: a text of letters is its letters, one behind the other.
func TestCompileLetters(t *testing.T) {
	const letters = "abcdefghijklmnopqrstuvwxyzABCDEFGHIJKLMNOPQRSTUVWXYZ"
	text := letters + letters + letters[:15]
	for size := 1; size <= impl.MaxNodes-1; size++ {
		for _, ere := range []bool{false, true} {
			r, code, _ := impl.Compile(text[:size], ere)
			if code != impl.OK || r.Kind != impl.RxCat || len(r.Kids) != size {
				t.Fatalf("Compile of %d letters: code %d, %s", size, code, shown(r))
			}
			for i, kid := range r.Kids {
				if !sameRx(kid, impl.Rx{Kind: impl.RxChar, N: int(text[i])}) {
					t.Fatalf("letter %d of %d: %s", i, size, shown(kid))
				}
			}
		}
	}
}

// Every byte as an atom of its own, of either kind.
func TestCompileEachByte(t *testing.T) {
	for c := range 256 {
		if strings.IndexByte(`\[.^$*`, byte(c)) >= 0 {
			continue
		}
		want := impl.Rx{Kind: impl.RxCat, Kids: []impl.Rx{{Kind: impl.RxChar, N: c}}}
		if r, code, at := impl.Compile(string([]byte{byte(c)}), false); code != impl.OK || at != 0 || !sameRx(r, want) {
			t.Errorf("Compile of the byte %d: %s %d at %d", c, shown(r), code, at)
		}
		r, code, at := impl.Compile(string([]byte{byte(c)}), true)
		switch {
		case c == '(':
			if code != impl.ErrSyntax || at != 1 {
				t.Errorf("Compile of (, extended: %d at %d", code, at)
			}
		case strings.IndexByte("+?{)|", byte(c)) >= 0:
			if code != impl.ErrSyntax || at != 0 {
				t.Errorf("Compile of %c, extended: %d at %d", c, code, at)
			}
		case code != impl.OK || at != 0 || !sameRx(r, want):
			t.Errorf("Compile of the byte %d, extended: %s %d at %d", c, shown(r), code, at)
		}
	}
}

func TestCompileEscapes(t *testing.T) {
	basic, extended := `.[\*^$/`, `.[\*^$/(){}+?|`
	for c := range 256 {
		p := "x\\" + string([]byte{byte(c)})
		for _, k := range []struct {
			ere   bool
			signs string
		}{{false, basic}, {true, extended}} {
			want := "syntax@1"
			switch {
			case c == 'n':
				want = "cat('x' 10)"
			case '1' <= c && c <= '9':
				want = "forbid@1"
			case strings.IndexByte(k.signs, byte(c)) >= 0:
				want = "cat('x' '" + string(rune(c)) + "')"
			case !k.ere && c == '(':
				want = "syntax@3"
			case !k.ere && c == '{':
				want = "syntax@3"
			}
			wantPattern(t, p, k.ere, want)
		}
	}
	wantBoth(t, `\`, "syntax@0", `a\`, "syntax@1", `\\\`, "syntax@2", `\.\`, "syntax@2", `\n*`, "cat(rep0,-1(10))", `\**`, "cat(rep0,-1('*'))", `\^\$`, "cat('^' '$')", `\\n`, `cat('\' 'n')`,
		`\0`, "syntax@0", `\]`, "syntax@0", `\-`, "syntax@0", `\1`, "forbid@0", `a\9`, "forbid@1")
	wantRows(t, []row{
		{`\(a\)\1`, "forbid@5", "forbid@5"},
		{`(a)\1`, "forbid@3", "forbid@3"},
		{`\}`, "syntax@0", "cat('}')"},
		{`a\}`, "syntax@1", "cat('a' '}')"},
		{`\{`, "syntax@0", "cat('{')"},
		{`\{2\}`, "syntax@0", "cat('{' '2' '}')"},
		{`a\|b`, "syntax@1", "cat('a' '|' 'b')"},
		{`a\+`, "syntax@1", "cat('a' '+')"},
		{`a\?`, "syntax@1", "cat('a' '?')"},
		{`\)`, "syntax@0", "cat(')')"},
		{`\(`, "syntax@2", "cat('(')"},
		{`\(\)`, "cat(group1(cat()))", "cat('(' ')')"},
	})
}

func TestCompileRepetitions(t *testing.T) {
	wantBoth(t, "a*", "cat(rep0,-1('a'))", "ab*", "cat('a' rep0,-1('b'))", ".*", "cat(rep0,-1(any))", "[ab]*c", `cat(rep0,-1(set"ab") 'c')`, "a**", "cat(rep0,-1(rep0,-1('a')))", "a*b*", "cat(rep0,-1('a') rep0,-1('b'))")
	wantRows(t, []row{
		{"a+", "cat('a' '+')", "cat(rep1,-1('a'))"},
		{"ab?c", "cat('a' 'b' '?' 'c')", "cat('a' rep0,1('b') 'c')"},
		{"a+?*", "cat('a' '+' rep0,-1('?'))", "cat(rep0,-1(rep0,1(rep1,-1('a'))))"},
		{"a*+", "cat(rep0,-1('a') '+')", "cat(rep1,-1(rep0,-1('a')))"},
		{"a{2}*{3,}", "cat('a' '{' '2' rep0,-1('}') '{' '3' ',' '}')", "cat(rep3,-1(rep0,-1(rep2,2('a'))))"},
		{`a\{2\}*\{3,\}`, "cat(rep3,-1(rep0,-1(rep2,2('a'))))", "cat('a' '{' '2' rep0,-1('}') '{' '3' ',' '}')"},
		{`a\{0\}`, "cat(rep0,0('a'))", "cat('a' '{' '0' '}')"},
		{`a\{1,4\}b`, "cat(rep1,4('a') 'b')", "cat('a' '{' '1' ',' '4' '}' 'b')"},
		{`\(a\)*`, "cat(rep0,-1(group1(cat('a'))))", "cat('(' 'a' rep0,-1(')'))"},
		{`\(a\)\{2\}`, "cat(rep2,2(group1(cat('a'))))", "cat('(' 'a' ')' '{' '2' '}')"},
		{"(a)*", "cat('(' 'a' rep0,-1(')'))", "cat(rep0,-1(group1(cat('a'))))"},
		{"(a|b)+c?", "cat('(' 'a' '|' 'b' ')' '+' 'c' '?')", "cat(rep1,-1(group1(alt(cat('a') cat('b')))) rep0,1('c'))"},
		{"a|b*", "cat('a' '|' rep0,-1('b'))", "alt(cat('a') cat(rep0,-1('b')))"},
		{"|*", "cat(rep0,-1('|'))", "syntax@0"},
		{"a|*", "cat('a' rep0,-1('|'))", "syntax@2"},
		{"a|+", "cat('a' '|' '+')", "syntax@2"},
		{"a|?", "cat('a' '|' '?')", "syntax@2"},
		{"a|{1}", "cat('a' '|' '{' '1' '}')", "syntax@2"},
		{"(*a)", "cat(rep0,-1('(') 'a' ')')", "syntax@1"},
		{"(+)", "cat('(' '+' ')')", "syntax@1"},
		{"({1})", "cat('(' '{' '1' '}' ')')", "syntax@1"},
	})
}

// bounded writes one repetition in either kind: % is what a basic pattern has ahead of a bracket.
func bounded(text string, ere bool) string {
	if ere {
		return strings.ReplaceAll(text, "%", "")
	}
	return strings.ReplaceAll(text, "%", `\`)
}

// The last two numbers of a row are a fault's place, extended and basic.
func TestCompileNumbers(t *testing.T) {
	for _, c := range []struct {
		pattern  string
		want     string
		extended int
		basic    int
	}{
		{"a%{0%}", "cat(rep0,0('a'))", 0, 0},
		{"a%{1%}", "cat(rep1,1('a'))", 0, 0},
		{"a%{20%}", "cat(rep20,20('a'))", 0, 0},
		{"a%{020%}", "cat(rep20,20('a'))", 0, 0},
		{"a%{007%}", "cat(rep7,7('a'))", 0, 0},
		{"a%{00%}", "cat(rep0,0('a'))", 0, 0},
		{"a%{000,000%}", "cat(rep0,0('a'))", 0, 0},
		{"a%{3,%}", "cat(rep3,-1('a'))", 0, 0},
		{"a%{003,%}", "cat(rep3,-1('a'))", 0, 0},
		{"a%{3,3%}", "cat(rep3,3('a'))", 0, 0},
		{"a%{3,020%}", "cat(rep3,20('a'))", 0, 0},
		{"a%{0,1%}", "cat(rep0,1('a'))", 0, 0},
		{"a%{21%}", "range", 2, 3},
		{"a%{021%}", "range", 2, 3},
		{"a%{100%}", "range", 2, 3},
		{"a%{999%}", "range", 2, 3},
		{"a%{999", "range", 2, 3},
		{"a%{21,%}", "range", 2, 3},
		{"a%{21,1%}", "range", 2, 3},
		{"a%{1,21%}", "range", 4, 5},
		{"a%{5,021%}", "range", 4, 5},
		{"a%{1,999x", "range", 4, 5},
		{"ab%{3,1%}", "range", 2, 2},
		{"a%{3,2%}", "range", 1, 1},
		{"a%{20,019%}", "range", 1, 1},
		{"a%{1,0%}", "range", 1, 1},
		{"a%{3,1", "range", 1, 1},
		{"a%{3,1x", "range", 1, 1},
		{"a%{3,21%}", "range", 4, 5},
		{"a%{21,20%}", "range", 2, 3},
		{"a%{1234%}", "range", 2, 3},
		{"a%{0001%}", "syntax", 5, 6},
		{"a%{0021%}", "syntax", 5, 6},
		{"a%{0200%}", "syntax", 5, 6},
		{"a%{1,0002%}", "range", 1, 1},
		{"a%{0,0002%}", "syntax", 7, 8},
		{"a%{%}", "syntax", 2, 3},
		{"a%{,%}", "syntax", 2, 3},
		{"a%{,3%}", "syntax", 2, 3},
		{"a%{x%}", "syntax", 2, 3},
		{"a%{-1%}", "syntax", 2, 3},
		{"a%{ 1%}", "syntax", 2, 3},
		{"a%{", "syntax", 2, 3},
		{"a%{1", "syntax", 3, 4},
		{"a%{1,", "syntax", 4, 5},
		{"a%{1,2", "syntax", 5, 6},
		{"a%{1x%}", "syntax", 3, 4},
		{"a%{1 %}", "syntax", 3, 4},
		{"a%{1,x%}", "syntax", 4, 5},
		{"a%{1, 2%}", "syntax", 4, 5},
		{"a%{1,2,3%}", "syntax", 5, 6},
		{"a%{1,2x%}", "syntax", 5, 6},
		{"a%{1,,2%}", "syntax", 4, 5},
		{"a%{1%)", "syntax", 3, 4},
	} {
		for ere, at := range map[bool]int{true: c.extended, false: c.basic} {
			want := c.want
			if !strings.HasPrefix(want, "cat") {
				want += "@" + strconv.Itoa(at)
			}
			wantPattern(t, bounded(c.pattern, ere), ere, want)
		}
	}
	wantPattern(t, `a\{1}`, false, "syntax@4")
	wantPattern(t, `a\{1\`, false, "syntax@4")
	wantPattern(t, `a\{1,\`, false, "syntax@5")
	wantPattern(t, `a\{1,2\`, false, "syntax@6")
	wantPattern(t, `a\{1,\x`, false, "syntax@5")
	wantPattern(t, `a\{\}`, false, "syntax@3")
	wantPattern(t, `a{1\}`, true, "syntax@3")
	wantPattern(t, `a\{1\}`, true, "cat('a' '{' '1' '}')")
}

// Each number from 0 to 999, of three digits and without noughts ahead.
func TestCompileEachNumber(t *testing.T) {
	for n := range 1000 {
		short := strconv.Itoa(n)
		for _, digits := range []string{short, "0" + short, "00" + short} {
			if len(digits) > 3 {
				continue
			}
			one, least, most := "range@2", "range@2", "range@4"
			if n <= impl.MaxTimes {
				one, least, most = "cat(rep"+short+","+short+"('a'))", "cat(rep"+short+",-1('a'))", "cat(rep0,"+short+"('a'))"
			}
			wantPattern(t, "a{"+digits+"}", true, one)
			wantPattern(t, "a{"+digits+",}", true, least)
			wantPattern(t, "a{0,"+digits+"}", true, most)
		}
	}
}

func TestCompileBeginAndEnd(t *testing.T) {
	wantBoth(t, "^", "cat(begin)", "$", "cat(end)", "^$", "cat(begin end)", "^a$", "cat(begin 'a' end)", `\^a\$`, "cat('^' 'a' '$')", "[$^]", `cat(set"$^")`)
	wantRows(t, []row{
		{"a^", "cat('a' '^')", "cat('a' begin)"},
		{"a^b$c", "cat('a' '^' 'b' '$' 'c')", "cat('a' begin 'b' end 'c')"},
		{"^^", "cat(begin '^')", "cat(begin begin)"},
		{"^^*", "cat(begin rep0,-1('^'))", "cat(begin rep0,-1(begin))"},
		{"$$", "cat('$' end)", "cat(end end)"},
		{"$^", "cat('$' '^')", "cat(end begin)"},
		{"$a", "cat('$' 'a')", "cat(end 'a')"},
		{"$*", "cat(rep0,-1('$'))", "cat(rep0,-1(end))"},
		{"a$*", "cat('a' rep0,-1('$'))", "cat('a' rep0,-1(end))"},
		{"a*$", "cat(rep0,-1('a') end)", "cat(rep0,-1('a') end)"},
		{`$\{2\}`, "cat(rep2,2('$'))", "cat(end '{' '2' '}')"},
		{`^\{2\}`, "cat(rep2,2(begin))", "cat(begin '{' '2' '}')"},
		{`^\{2\}*`, "cat(rep0,-1(rep2,2(begin)))", "cat(begin '{' '2' rep0,-1('}'))"},
		{`\(^a\)`, "cat(group1(cat(begin 'a')))", "cat('(' begin 'a' ')')"},
		{`\(a^\)`, "cat(group1(cat('a' '^')))", "cat('(' 'a' begin ')')"},
		{`x\(^a\)`, "cat('x' group1(cat(begin 'a')))", "cat('x' '(' begin 'a' ')')"},
		{`x\(a$\)y`, "cat('x' group1(cat('a' end)) 'y')", "cat('x' '(' 'a' end ')' 'y')"},
		{`\($a\)`, "cat(group1(cat('$' 'a')))", "cat('(' end 'a' ')')"},
		{`\($\)`, "cat(group1(cat(end)))", "cat('(' end ')')"},
		{`\(^\)`, "cat(group1(cat(begin)))", "cat('(' begin ')')"},
		{`\(^$\)*`, "cat(rep0,-1(group1(cat(begin end))))", "cat('(' begin end rep0,-1(')'))"},
		{`\(a\)$`, "cat(group1(cat('a')) end)", "cat('(' 'a' ')' end)"},
		{`\(a\)^`, "cat(group1(cat('a')) '^')", "cat('(' 'a' ')' begin)"},
		{`a$\(b\)`, "cat('a' '$' group1(cat('b')))", "cat('a' end '(' 'b' ')')"},
		{`\(\(^a$\)$\)$`, "cat(group1(cat(group2(cat(begin 'a' end)) end)) end)", "cat('(' '(' begin 'a' end ')' end ')' end)"},
		{`\(a$`, "syntax@4", "cat('(' 'a' end)"},
		{`$\)`, "syntax@1", "cat(end ')')"},
		{"^|$", "cat(begin '|' end)", "alt(cat(begin) cat(end))"},
		{"(^a|b$)", "cat('(' '^' 'a' '|' 'b' '$' ')')", "cat(group1(alt(cat(begin 'a') cat('b' end))))"},
		{"a(^)b", "cat('a' '(' '^' ')' 'b')", "cat('a' group1(cat(begin)) 'b')"},
		{"^+", "cat(begin '+')", "cat(rep1,-1(begin))"},
		{"${1,2}", "cat('$' '{' '1' ',' '2' '}')", "cat(rep1,2(end))"},
	})
}

func TestCompileStars(t *testing.T) {
	wantRows(t, []row{
		{"*", "cat('*')", "syntax@0"},
		{"**", "cat(rep0,-1('*'))", "syntax@0"},
		{"***", "cat(rep0,-1(rep0,-1('*')))", "syntax@0"},
		{"*a", "cat('*' 'a')", "syntax@0"},
		{"a*", "cat(rep0,-1('a'))", "cat(rep0,-1('a'))"},
		{"^*", "cat(begin '*')", "cat(rep0,-1(begin))"},
		{"^**", "cat(begin rep0,-1('*'))", "cat(rep0,-1(rep0,-1(begin)))"},
		{"^*a$", "cat(begin '*' 'a' end)", "cat(rep0,-1(begin) 'a' end)"},
		{"a^*", "cat('a' rep0,-1('^'))", "cat('a' rep0,-1(begin))"},
		{`*\{2\}`, "cat(rep2,2('*'))", "syntax@0"},
		{`^*\{2\}`, "cat(begin rep2,2('*'))", "cat(rep0,-1(begin) '{' '2' '}')"},
		{`\(*\)`, "cat(group1(cat('*')))", "cat(rep0,-1('(') ')')"},
		{`\(*a\)*`, "cat(rep0,-1(group1(cat('*' 'a'))))", "cat(rep0,-1('(') 'a' rep0,-1(')'))"},
		{`\(**\)`, "cat(group1(cat(rep0,-1('*'))))", "cat(rep0,-1(rep0,-1('(')) ')')"},
		{`\(^*\)`, "cat(group1(cat(begin '*')))", "cat('(' rep0,-1(begin) ')')"},
		{`a\(^**\)`, "cat('a' group1(cat(begin rep0,-1('*'))))", "cat('a' '(' rep0,-1(rep0,-1(begin)) ')')"},
		{`\(\)*`, "cat(rep0,-1(group1(cat())))", "cat('(' rep0,-1(')'))"},
		{`\^*`, "cat(rep0,-1('^'))", "cat(rep0,-1('^'))"},
		{"[*]*", `cat(rep0,-1(set"*"))`, `cat(rep0,-1(set"*"))`},
		{"(*)", "cat(rep0,-1('(') ')')", "syntax@1"},
		{"|*", "cat(rep0,-1('|'))", "syntax@0"},
	})
}

func TestCompileGroups(t *testing.T) {
	wantRows(t, []row{
		{`\(a\)`, "cat(group1(cat('a')))", "cat('(' 'a' ')')"},
		{`\(\)`, "cat(group1(cat()))", "cat('(' ')')"},
		{`a\(\)b`, "cat('a' group1(cat()) 'b')", "cat('a' '(' ')' 'b')"},
		{`\(a\)\(b\)`, "cat(group1(cat('a')) group2(cat('b')))", "cat('(' 'a' ')' '(' 'b' ')')"},
		{`\(a\(b\)c\)\(d\)`, "cat(group1(cat('a' group2(cat('b')) 'c')) group3(cat('d')))", "cat('(' 'a' '(' 'b' ')' 'c' ')' '(' 'd' ')')"},
		{`\(`, "syntax@2", "cat('(')"},
		{`\(a`, "syntax@3", "cat('(' 'a')"},
		{`\(a\(b\)`, "syntax@8", "cat('(' 'a' '(' 'b' ')')"},
		{`\)`, "syntax@0", "cat(')')"},
		{`a\)b`, "syntax@1", "cat('a' ')' 'b')"},
		{`\(a\)\)`, "syntax@5", "cat('(' 'a' ')' ')')"},
		{`\(a)`, "syntax@4", "syntax@3"},
		{`(a\)`, "syntax@2", "syntax@4"},
		{"(a)", "cat('(' 'a' ')')", "cat(group1(cat('a')))"},
		{"((a)b)(c)", "cat('(' '(' 'a' ')' 'b' ')' '(' 'c' ')')", "cat(group1(cat(group2(cat('a')) 'b')) group3(cat('c')))"},
		{"()", "cat('(' ')')", "syntax@1"},
		{"a()", "cat('a' '(' ')')", "syntax@2"},
		{"(())", "cat('(' '(' ')' ')')", "syntax@2"},
		{"(a", "cat('(' 'a')", "syntax@2"},
		{"(a(b)", "cat('(' 'a' '(' 'b' ')')", "syntax@5"},
		{"a)", "cat('a' ')')", "syntax@1"},
		{"(a))", "cat('(' 'a' ')' ')')", "syntax@3"},
		{"(a)(", "cat('(' 'a' ')' '(')", "syntax@4"},
	})
}

func TestCompileBranches(t *testing.T) {
	for pattern, want := range map[string]string{
		"a|b":           "alt(cat('a') cat('b'))",
		"a|b|c":         "alt(cat('a') cat('b') cat('c'))",
		"ab|cd*":        "alt(cat('a' 'b') cat('c' rep0,-1('d')))",
		"(a|b)c":        "cat(group1(alt(cat('a') cat('b'))) 'c')",
		"(a|b)|c":       "alt(cat(group1(alt(cat('a') cat('b')))) cat('c'))",
		"((a|b)|(c|d))": "cat(group1(alt(cat(group2(alt(cat('a') cat('b')))) cat(group3(alt(cat('c') cat('d')))))))",
		"[|]":           `cat(set"|")`,
		`a\|b`:          "cat('a' '|' 'b')",
		"|":             "syntax@0",
		"|a":            "syntax@0",
		"a|":            "syntax@2",
		"a||b":          "syntax@2",
		"a|b|":          "syntax@4",
		"(|a)":          "syntax@1",
		"(a|)":          "syntax@3",
		"(a||b)":        "syntax@3",
		"(|)":           "syntax@1",
		"(a|":           "syntax@3",
		"a|)":           "syntax@2",
		"a|()":          "syntax@3",
	} {
		wantPattern(t, pattern, true, want)
	}
}
