package tests

import (
	"strings"
	"testing"

	"loop.example/g00142/impl"
)

func TestCompileSizes(t *testing.T) {
	wantFault(t, "", "syntax@0")
	set := func(size int) string { return "[" + long(size-2) + "]" }
	wantSet(t, set(impl.MaxPattern), "a")
	for _, size := range []int{impl.MaxPattern + 1, impl.MaxPattern + 2, impl.MaxText - 1, impl.MaxText} {
		wantFault(t, set(size), "size@0")
		wantFault(t, long(size), "size@0")
		wantFault(t, strings.Repeat("(", size), "size@0")
		wantFault(t, strings.Repeat("[", size), "size@0")
		wantFault(t, strings.Repeat(`\`, size), "size@0")
	}
	for _, size := range []int{impl.MaxText + 1, impl.MaxText + 2, 4 * impl.MaxText} {
		wantFault(t, set(size), "long@0")
		wantFault(t, strings.Repeat("*", size), "long@0")
	}
	wantFault(t, long(impl.MaxPattern), "many@0")
	wantFault(t, long(impl.MaxPattern-1)+`\`, "syntax@199")
	wantFault(t, long(impl.MaxPattern-1)+"[", "syntax@200")
}

func TestCompileTenthGroup(t *testing.T) {
	for _, ere := range []bool{false, true} {
		size := len(bounded("%(", ere))
		row := func(n int) string { return bounded(strings.Repeat("%(a%)", n), ere) }
		r, code, _ := impl.Compile(row(impl.MaxGroups), ere)
		if n, _ := impl.Groups(r); code != impl.OK || n != impl.MaxGroups {
			t.Errorf("nine groups in a row: code %d, %d groups", code, n)
		}
		deep := bounded(strings.Repeat("%(", impl.MaxGroups)+"a"+strings.Repeat("%)", impl.MaxGroups), ere)
		r, code, _ = impl.Compile(deep, ere)
		if n, _ := impl.Groups(r); code != impl.OK || n != impl.MaxGroups {
			t.Errorf("nine groups in one another: code %d, %d groups", code, n)
		}
		wantPattern(t, row(10), ere, "many@"+itoa(len(row(9))))
		wantPattern(t, row(12), ere, "many@"+itoa(len(row(9))))
		wantPattern(t, "xy"+row(10), ere, "many@"+itoa(2+len(row(9))))
		wantPattern(t, bounded(strings.Repeat("%(", 10), ere), ere, "many@"+itoa(9*size))
		wantPattern(t, bounded(strings.Repeat("%(", 9), ere), ere, "syntax@"+itoa(9*size))
		wantPattern(t, row(9)+bounded("%(", ere), ere, "many@"+itoa(len(row(9))))
		wantPattern(t, row(9)+bounded("%(%", ere)+"[", ere, "many@"+itoa(len(row(9))))
	}
	wantPattern(t, strings.Repeat(`\(\)`, 9), false, "cat(group1(cat()) group2(cat()) group3(cat()) group4(cat()) group5(cat()) group6(cat()) group7(cat()) group8(cat()) group9(cat()))")
	wantPattern(t, strings.Repeat(`\(\)`, 10), false, "many@36")
	wantPattern(t, strings.Repeat("(a)|", 10)+"b", true, "many@36")
}

// Too many nodes, or too great a weight, is told last of all and at 0.
func TestCompileTooMany(t *testing.T) {
	for _, c := range []struct {
		right, wrong string
		ere          bool
	}{
		{long(119), long(120), false},
		{long(119), long(120), true},
		{"(" + long(117) + ")", "(" + long(118) + ")", true},
		{strings.Repeat("a|", 58) + "bc", strings.Repeat("a|", 59) + "b", true},
		{strings.Repeat("a*", 59) + "b", strings.Repeat("a*", 60), false},
		{"a" + strings.Repeat("*", 118), "a" + strings.Repeat("*", 119), true},
		{strings.Repeat("a{20}", 7) + "aaaaa", strings.Repeat("a{20}", 7) + "aaaaaa", true},
		{strings.Repeat(`a\{20\}`, 7) + "aaaaa", strings.Repeat(`a\{20\}`, 7) + "aaaaaa", false},
		{strings.Repeat("a{3,20}", 7) + "aaaaa", strings.Repeat("a{3,20}", 7) + "a*a*a*", true},
		{strings.Repeat("a{20,}", 7) + "aaaaa", strings.Repeat("a{20,}", 7) + "aaaaa*", true},
		{strings.Repeat("a+", 59) + "b", strings.Repeat("a+", 59) + "bc", true},
		{"(((((a?)?)?)?)?)", "((((((a?)?)?)?)?)?)", true},
		{"a{6}{18}", "a{6}{19}", true},
		{"a{6}{18}" + long(14), "a{6}{18}" + long(15), true},
		{"a{20}{5}", "a{20}{6}", true},
		{"a{20}{5}" + long(41), "a{20}{5}" + long(42), true},
		{"(a{12}){9}" + long(9), "(a{13}){9}", true},
		{"(abc){20}" + long(113), "(abc){20}" + long(114), true},
		{"(a|b|c){20}", "(a|b|cd|ef|gh){20}", true},
		{"a*******" + "{20}", "a*************" + "{20}", true},
	} {
		for pattern, want := range map[string]int{c.right: impl.OK, c.wrong: impl.ErrMany} {
			wantModel(t, pattern, c.ere)
			if _, code, at := impl.Compile(pattern, c.ere); code != want || at != 0 {
				t.Errorf("Compile(%q, %t): %d at %d, want %d", pattern, c.ere, code, at, want)
			}
		}
	}
	// Weights that would wrap, were they multiplied on.
	for size := 2; size <= 49; size++ {
		for _, times := range []string{"{20}", "{19}", "{15}", "{7}", "{3}"} {
			p := "a" + strings.Repeat(times, size)
			if len(p) <= impl.MaxPattern && (size > 8 || times == "{20}") {
				wantPattern(t, p, true, "many@0")
			}
		}
	}
	wantPattern(t, "a"+strings.Repeat("{1}", 66), true, "many@0")
	wantPattern(t, "a"+strings.Repeat("{1}", 63), true, "many@0")
	wantPattern(t, long(130)+"[", true, "syntax@131")
	wantPattern(t, long(130)+`\1`, true, "forbid@130")
	wantPattern(t, "a{20}{20}{21}", true, "range@10")
}

// Of two faults in one pattern that counts which is met first going along it.
func TestCompileTwoFaults(t *testing.T) {
	wantRows(t, []row{
		{`[b-a]\q`, "range@1", "range@1"},
		{`\q[b-a]`, "syntax@0", "syntax@0"},
		{`\1\q`, "forbid@0", "forbid@0"},
		{`\q\1`, "syntax@0", "syntax@0"},
		{`[a\1`, "syntax@4", "syntax@4"},
		{`\1[a`, "forbid@0", "forbid@0"},
		{`[b-a][`, "range@1", "range@1"},
		{"[[:x:]b-a]", "syntax@1", "syntax@1"},
		{"[b-a[:x:]]", "range@1", "range@1"},
		{"[b-a", "range@1", "range@1"},
		{`\(\1`, "forbid@2", "forbid@2"},
		{`(\1`, "forbid@1", "forbid@1"},
		{`\(a\q\)`, "syntax@3", "syntax@3"},
		{`(a[b-a]`, "range@3", "range@3"},
		{"*{21}", "cat('*' '{' '2' '1' '}')", "syntax@0"},
		{"a{21}{", "cat('a' '{' '2' '1' '}' '{')", "range@2"},
		{"a{3,1}{21}", "cat('a' '{' '3' ',' '1' '}' '{' '2' '1' '}')", "range@1"},
		{"a{3,21}", "cat('a' '{' '3' ',' '2' '1' '}')", "range@4"},
		{"a{21,x}", "cat('a' '{' '2' '1' ',' 'x' '}')", "range@2"},
		{"a{x,21}", "cat('a' '{' 'x' ',' '2' '1' '}')", "syntax@2"},
		{"a)(", "cat('a' ')' '(')", "syntax@1"},
		{"(()", "cat('(' '(' ')')", "syntax@2"},
		{"(|)", "cat('(' '|' ')')", "syntax@1"},
		{"a||", "cat('a' '|' '|')", "syntax@2"},
		{`a\{3,1\}\q`, "range@1", "syntax@8"},
		{`a\{21\}\{`, "range@3", "cat('a' '{' '2' '1' '}' '{')"},
		{`\)\(`, "syntax@0", "cat(')' '(')"},
		{`\(\{2\}`, "syntax@2", "cat('(' '{' '2' '}')"},
		{`\(\)\)\1`, "syntax@4", "forbid@6"},
	})
	nine := strings.Repeat("(a)", 9)
	wantPattern(t, nine+`\q(`, true, "syntax@27")
	wantPattern(t, nine+`(\q`, true, "many@27")
	wantPattern(t, nine+"[(", true, "syntax@29")
	wantPattern(t, long(120)+"(", true, "syntax@121")
}
