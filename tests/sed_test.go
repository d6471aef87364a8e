package tests

import (
	"strings"
	"testing"

	"loop.example/g00142/impl"
)

const fiveLines = "a\nb\nc\nd\ne\n"

// wantEdit asks what a script of basic patterns says of a text; the model, too.
func wantEdit(t *testing.T, script, text string, quiet bool, want string) {
	t.Helper()
	said, code, at := impl.Edit(script, text, false, quiet)
	if said != want || code != impl.OK || at != 0 {
		t.Errorf("Edit(%q, %q, quiet %t): %q with code %d at %d, want %q", script, text, quiet, said, code, at, want)
	}
	list, code, _ := impl.ParseSed(script, false)
	if model, modelCode := modelSaid(list, text, quiet); code != impl.OK || model != want || modelCode != impl.OK {
		t.Errorf("the model of %q over %q, quiet %t: %q with code %d, want %q", script, text, quiet, model, modelCode, want)
	}
	if again, code := impl.RunSed(list, text, quiet); again != want || code != impl.OK {
		t.Errorf("RunSed of %q over %q, quiet %t: %q with code %d, want %q", script, text, quiet, again, code, want)
	}
}

// wantLoud is for scripts, texts and what they say, not quietly.
func wantLoud(t *testing.T, triples ...string) {
	t.Helper()
	for i := 0; i < len(triples); i += 3 {
		wantEdit(t, triples[i], triples[i+1], false, triples[i+2])
	}
}

// wantQuiet is the same, quietly.
func wantQuiet(t *testing.T, triples ...string) {
	t.Helper()
	for i := 0; i < len(triples); i += 3 {
		wantEdit(t, triples[i], triples[i+1], true, triples[i+2])
	}
}

func TestSedConstants(t *testing.T) {
	if impl.MaxSteps != 2000 || impl.MaxOut != 8000 || impl.MaxBuf != 1000 {
		t.Error(impl.MaxSteps, impl.MaxOut, impl.MaxBuf)
	}
}

// A text's lines: what stands behind the last line end is one only if it has a byte.
func TestSedLines(t *testing.T) {
	for text, said := range map[string]string{
		"": "", "\n": "\n", "\n\n": "\n\n", "a": "a\n", "a\n": "a\n", "\na": "\na\n", "a\n\n": "a\n\n", "a\nb": "a\nb\n", "a\nb\n": "a\nb\n", "a\n\nb": "a\n\nb\n", "\n\n\nb\n\n": "\n\n\nb\n\n",
		" ": " \n", "a\r\nb": "a\r\nb\n", "\x00\xff\n\x80": "\x00\xff\n\x80\n", "a\\\nb": "a\\\nb\n",
	} {
		count := strings.Count(said, "\n")
		numbers, last := "", ""
		for n := 1; n <= count; n++ {
			numbers += itoa(n) + "\n"
		}
		if count > 0 {
			last = itoa(count) + "\n"
		}
		for _, script := range []string{"", ";", "# nothing\n", "9999d", "{}", "s/nowhere/x/", "x;x", "b", "t", ":a", "y/z/z/"} {
			wantLoud(t, script, text, said)
			wantQuiet(t, script, text, "")
		}
		wantQuiet(t, "p", text, said, "=", text, numbers, "$=", text, last, "$!d;=", text, last)
		wantLoud(t, "d", text, "", "$!d;=;d", text, last)
		for _, list := range [][]impl.Sed{nil, {}} {
			if got, code := impl.RunSed(list, text, false); got != said || code != impl.OK {
				t.Errorf("RunSed of no commands over %q: %q with code %d", text, got, code)
			}
			if got, code := impl.RunSed(list, text, true); got != "" || code != impl.OK {
				t.Errorf("RunSed of no commands over %q, quietly: %q with code %d", text, got, code)
			}
		}
	}
}

// Without addresses a command has every line, with Not alone none.
func TestSedNoAddress(t *testing.T) {
	wantLoud(t, "p", "a\nb\n", "a\na\nb\nb\n", "!p", "a\nb\n", "a\nb\n", "!d", "a\nb", "a\nb\n", "!{p;p}", "a\n", "a\n", "{p}", "a\n", "a\na\n")
	wantQuiet(t, "p", fiveLines, fiveLines, "!p", fiveLines, "", "p", "", "", "!p", "", "")
}

func TestSedOneAddress(t *testing.T) {
	wantQuiet(t,
		"1p", fiveLines, "a\n", "2p", fiveLines, "b\n", "5p", fiveLines, "e\n", "6p", fiveLines, "", "005p", fiveLines, "e\n", "999999999p", fiveLines, "",
		"1!p", fiveLines, "b\nc\nd\ne\n", "5!p", fiveLines, "a\nb\nc\nd\n", "6!p", fiveLines, fiveLines,
		"$p", fiveLines, "e\n", "$!p", fiveLines, "a\nb\nc\nd\n", "$p", "a", "a\n", "$p", "a\nb", "b\n", "$!p", "a", "", "$p", "", "", "1p", "", "", "1!p", "", "",
		"$p", "a\n\n", "\n", "$=", "\n\n\n", "3\n", "1p;$p", "a\n", "a\na\n",
		"/b/p", fiveLines, "b\n", "/b/!p", fiveLines, "a\nc\nd\ne\n", "/[bd]/p", fiveLines, "b\nd\n", "/z/p", fiveLines, "", "/z/!p", fiveLines, fiveLines, "/^$/p", "a\n\nb\n\n", "\n\n", "/^$/!p", "a\n\nb\n\n", "a\nb\n", "/./p", "a\n\nb\n", "a\nb\n", "/a*/p", "b\n\n", "b\n\n",
	)
	// AdMatch asks the pattern space, as it is by then.
	wantQuiet(t, "s/a/b/;/b/p", "a\n", "b\n", "/a/s/a/b/;/a/p", "a\n", "", "x;/a/p", "a\nb\n", "a\n", "N;/a.b/p", "a\nb\n", "a\nb\n", "N;/b/p", "a\nb\n", "a\nb\n", `N;/\n/p`, "a\nb\n", "a\nb\n", "N;/^b/p", "a\nb\n", "", "N;/a$/p", "a\nb\n", "")
	// AdLine and AdLast ask the line that was read last, also by `n` and `N`.
	wantQuiet(t, "n;2=", "a\nb\n", "2\n", "n;1=", "a\nb\n", "", "N;2p", "a\nb\n", "a\nb\n", "N;1p", "a\nb\n", "", "N;$p", "a\nb\n", "a\nb\n", "n;$=", "a\nb\n", "2\n", "$!N;$!=", "a\nb\nc\n", "2\n")
	// A line's number is its own, whatever is in the pattern space.
	wantQuiet(t, "2{s/b/x/;y/x/y/;x;=}", fiveLines, "2\n", "3g;3p", fiveLines, "\n")
}

// Two addresses of each pair of kinds.
func TestSedRanges(t *testing.T) {
	wantQuiet(t,
		"1,1p", fiveLines, "a\n", "1,2p", fiveLines, "a\nb\n", "2,4p", fiveLines, "b\nc\nd\n", "2,2p", fiveLines, "b\n", "4,2p", fiveLines, "d\n", "2,1p", fiveLines, "b\n", "2,5p", fiveLines, "b\nc\nd\ne\n", "2,6p", fiveLines, "b\nc\nd\ne\n", "2,999999999p", fiveLines, "b\nc\nd\ne\n", "5,9p", fiveLines, "e\n", "6,9p", fiveLines, "", "6,1p", fiveLines, "", "1,5p", fiveLines, fiveLines,
		"2,$p", fiveLines, "b\nc\nd\ne\n", "5,$p", fiveLines, "e\n", "6,$p", fiveLines, "", "1,$p", fiveLines, fiveLines, "1,$p", "a", "a\n", "1,$p", "", "",
		"2,/d/p", fiveLines, "b\nc\nd\n", "2,/b/p", fiveLines, "b\nc\nd\ne\n", "2,/a/p", fiveLines, "b\nc\nd\ne\n", "2,/c/p", fiveLines, "b\nc\n", "5,/e/p", fiveLines, "e\n", "6,/a/p", fiveLines, "", "1,/e/p", fiveLines, fiveLines, "2,/b/p", "b\nb\nb\nb\n", "b\nb\n",
		"$,1p", fiveLines, "e\n", "$,5p", fiveLines, "e\n", "$,9p", fiveLines, "e\n", "$,$p", fiveLines, "e\n", "$,/e/p", fiveLines, "e\n", "$,/z/p", fiveLines, "e\n", "$,$p", "a", "a\n", "$,$p", "", "",
		"/b/,4p", fiveLines, "b\nc\nd\n", "/b/,2p", fiveLines, "b\n", "/d/,2p", fiveLines, "d\n", "/d/,9p", fiveLines, "d\ne\n", "/z/,1p", fiveLines, "", "/z/,9p", fiveLines, "",
		"/c/,$p", fiveLines, "c\nd\ne\n", "/e/,$p", fiveLines, "e\n", "/z/,$p", fiveLines, "", "/a/,$p", fiveLines, fiveLines,
		"/b/,/d/p", fiveLines, "b\nc\nd\n", "/b/,/b/p", fiveLines, "b\nc\nd\ne\n", "/d/,/b/p", fiveLines, "d\ne\n", "/z/,/a/p", fiveLines, "", "/a/,/z/p", fiveLines, fiveLines, "/a/,/b/p", fiveLines, "a\nb\n", "/b/,/./p", fiveLines, "b\nc\n",
	)
	wantQuiet(t,
		"2,4!p", fiveLines, "a\ne\n", "4,2!p", fiveLines, "a\nb\nc\ne\n", "2,9!p", fiveLines, "a\n", "6,9!p", fiveLines, fiveLines, "2,$!p", fiveLines, "a\n", "2,/d/!p", fiveLines, "a\ne\n", "$,1!p", fiveLines, "a\nb\nc\nd\n", "/b/,4!p", fiveLines, "a\ne\n", "/c/,$!p", fiveLines, "a\nb\n", "/b/,/d/!p", fiveLines, "a\ne\n", "/z/,/d/!p", fiveLines, fiveLines, "1,$!p", fiveLines, "",
	)
}

// A range that is over may begin again, but not in the line that ended it.
func TestSedRangesBeginAgain(t *testing.T) {
	text := "b\n1\ne\n2\nb\n3\ne\n4\n"
	wantQuiet(t,
		"/b/,/e/p", text, "b\n1\ne\nb\n3\ne\n", "/b/,/e/!p", text, "2\n4\n", "/b/,/b/p", text, "b\n1\ne\n2\nb\n", "/[be]/,/[be]/p", text, "b\n1\ne\nb\n3\ne\n", "/b/,6p", text, "b\n1\ne\n2\nb\n3\n", "/b/,2p", text, "b\n1\nb\n", "/b/,3p", text, "b\n1\ne\nb\n", "/b/,5p", text, "b\n1\ne\n2\nb\n", "/./,1p", text, text, "/./,2p", text, text, "/./,/./p", text, text, "/./,$p", text, text, "/b/,$p", text, text,
		"/x/,/x/p", "x\nx\nx\n", "x\nx\nx\n", "/x/,/x/!p", "x\nx\na\nx\nb\n", "a\n", "/x/,/y/p", "x\nxy\nx\ny\nz\n", "x\nxy\nx\ny\n", "/x/,/x/p", "x\na\nx\nb\nx\nc\n", "x\na\nx\nx\nc\n",
		"/x/,1=", "x\nx\na\nx\n", "1\n2\n4\n", "/x/,2=", "x\na\na\nx\na\n", "1\n2\n4\n",
	)
	// The pattern space that ends a range is that of the time, not what was read.
	wantQuiet(t, "s/c/e/;/b/,/e/p", "b\nc\nd\n", "b\ne\n", "/b/,/e/{s/c/e/;p}", "b\nc\nd\ne\nf\n", "b\ne\nd\ne\n", "s/a/b/;/b/,/e/p", "a\nc\ne\nf\n", "b\nc\ne\n")
}

// Only lines that the command meets are asked, and only these are in its range.
func TestSedRangesPassedOver(t *testing.T) {
	wantQuiet(t,
		// The first line of at least that number ends it, and is in it.
		"2,3b;1,3p", fiveLines, "a\nd\n", "2{n;n;n};1,3p", fiveLines, "a\ne\n", "2,4b;1,2p", fiveLines, "a\ne\n", "2,3b;1,4p", fiveLines, "a\nd\n", "2,3b;1,5p", fiveLines, "a\nd\ne\n",
		// A range does not begin in a line that is not met.
		"1b;1,3p", fiveLines, "", "2b;2,/d/p", fiveLines, "", "/b/b;/b/,$p", fiveLines, "", "$b;$,$p", fiveLines, "", "1n;1,3p", fiveLines, "",
		// It does not end in one either.
		"/d/b;2,/d/p", fiveLines, "b\nc\ne\n", "$b;2,$p", fiveLines, "b\nc\nd\n", "/c/b;/b/,/[cd]/p", fiveLines, "b\nd\n",
		// Blocks pass over what is in them.
		"/[ae]/{1,3p}", fiveLines, "a\ne\n", "/c/!{2,/c/p}", fiveLines, "b\nd\ne\n", "2,4{1,3p}", fiveLines, "", "2,4{2,3p}", fiveLines, "b\nc\n", "3!{2,3p}", fiveLines, "b\nd\n", "2!{/a/,/b/p}", fiveLines, "a\nc\nd\ne\n",
		// What ends the cycle passes over all behind it.
		"3d;2,3p", fiveLines, "b\nd\n", "2c x\n1,2p", fiveLines, "a\nx\nc\n",
		// `n` and `N` within a script: the command meets the later line.
		"n;1,2p", fiveLines, "", "n;2,4p", fiveLines, "b\nd\n", "N;2,3p", fiveLines, "a\nb\nc\nd\n",
	)
	// A command that is met again in the same line asks again.
	wantQuiet(t, ":a;1,/b/s/a/b/p;ta;=", "a\na\n", "b\n1\n2\n", ":a;s/^/x/;/xxx/!ba;2,/x/p", "1\n2\n3\n", "xxx2\nxxx3\n", ":a;2,/xx/=;s/^/x/;/xxx/!ba", "1\n2\n3\n", "2\n2\n2\n")
	// By `D` the same line may be met again.
	wantQuiet(t, `s/c/a\nb\ne/;/^a/,/^b/P;D`, "c\nd\nb\n", "a\nb\n", `s/c/a\nb\ne/;1,/^b/=;D`, "c\nd\n", "1\n1\n1\n2\n")
}

// Ranges at more than one command do not look at each other.
func TestSedRangesOfSeveral(t *testing.T) {
	wantQuiet(t,
		"1,2p;2,3p", fiveLines, "a\nb\nb\nc\n", "/b/,/d/p;/c/,/z/=", fiveLines, "b\nc\n3\nd\n4\n5\n", "2,4{/c/,/e/p}", fiveLines, "c\nd\n", "2,4{3,9!p}", fiveLines, "b\n", "1,3{2,4{3,5p}}", fiveLines, "c\n", "/a/,/c/p;/a/,/c/!=", fiveLines, "a\nb\nc\n4\n5\n", "1,/c/{/b/,/z/p};=", fiveLines, "1\nb\n2\nc\n3\n4\n5\n",
	)
}

// Blocks: done and passed over, within one another, empty ones.
func TestSedBlocks(t *testing.T) {
	wantQuiet(t,
		"{p}", "a\n", "a\n", "{}", "a\n", "", "{};p", "a\n", "a\n", "2{p;=}", fiveLines, "b\n2\n", "2!{p}", "a\nb\nc\n", "a\nc\n", "!{p};=", "a\n", "1\n", "9{p};=", "a\n", "1\n", "{p;{=}}", "a\n", "a\n1\n",
		"2{p;/b/{=;/c/{p}};p}", fiveLines, "b\n2\nb\n", "/[bc]/{/c/!{p};/b/!{=}}", fiveLines, "b\n3\n", "1{2{p};=};p", "a\nb\n", "1\na\nb\n", "{{{p}}}", "a\n", "a\n", "9{{{p}}};=", "a\n", "1\n", "1!{p;{p;{p}};p};=", "a\nb\n", "1\nb\nb\nb\nb\n2\n",
	)
	wantLoud(t, "2{d}", "a\nb\nc\n", "a\nc\n", "2!{d}", "a\nb\nc\n", "b\n", "1{2d};2{1d}", "a\nb\n", "a\nb\n")
	// What goes into a block from elsewhere does what is there.
	wantQuiet(t, "b in;9{=;:in;p};P", "a\n", "a\na\n", "9{:a;p;d};ba", "a\n", "a\n")
	// Blocks that cross each other: a list alone has them.
	list := []impl.Sed{{Name: "{", From: impl.Addr{Kind: 1, N: 2}, Jump: 2}, {Name: "{", From: impl.Addr{Kind: 1, N: 2}, Jump: 3}, {Name: "p"}, {Name: "="}}
	if said, code := impl.RunSed(list, "a\nb\n", true); said != "a\n1\nb\n2\n" || code != impl.OK {
		t.Errorf("blocks that cross: %q with code %d", said, code)
	}
}

// `a` keeps Text for the end of the cycle, or of a line that `n` or `N` ends; `i` says it.
func TestSedAppendAndInsert(t *testing.T) {
	wantLoud(t,
		"a x", "1\n2\n", "1\nx\n2\nx\n", "a x", "1", "1\nx\n", "a x", "", "", "$a x", "1\n2\n", "1\n2\nx\n", "1a x", "1\n2\n", "1\nx\n2\n", "2!a x", "1\n2\n3\n", "1\nx\n2\n3\nx\n", "1,2a x", "1\n2\n3\n", "1\nx\n2\nx\n3\n", "a", "1\n", "1\n\n", "a x\na y", "1\n", "1\nx\ny\n", "a\\\n  x", "1\n", "1\n  x\n",
		"a x\np", "1\n", "1\n1\nx\n", "a x\ns/1/2/", "1\n", "2\nx\n", "a x\n=", "1\n", "1\n1\nx\n", "a x\ni y", "1\n", "y\n1\nx\n", "a x\nb", "1\n", "1\nx\n",
		"i x", "1\n2\n", "x\n1\nx\n2\n", "i x", "", "", "$i x", "1\n2\n", "1\nx\n2\n", "i", "1\n", "\n1\n", "i x\ni y", "1\n", "x\ny\n1\n", "p\ni x", "1\n", "1\nx\n1\n", "i x\ns/1/2/", "1\n", "x\n2\n", "i x\nd", "1\n", "x\n", "1!i x", "1\n2\n", "1\nx\n2\n",
		"i x\nn", "1\n2\n3\n", "x\n1\n2\nx\n3\n", "i x\nN", "1\n2\n3\n", "x\n1\n2\nx\n3\n", "i x\nD", "1\n2\n", "x\nx\n", "N;i x\nP;D", "1\n2\n", "x\n1\n2\n", "n;i x\nd", "1\n2\n", "1\nx\n", "i x\nc y", "1\n", "x\ny\n",
		"a x\nd", "1\n2\n", "x\nx\n", "a x\nd\na y", "1\n", "x\n", "d\na x", "1\n", "", "a x\nc y", "1\n2\n", "y\nx\ny\nx\n", "a x\nq", "1\n2\n", "1\nx\n", "i x\nq", "1\n2\n", "x\n1\n", "q\na x", "1\n2\n", "1\n",
		"a x\nn", "1\n2\n3\n", "1\nx\n2\n3\nx\n", "a x\nn\na y", "1\n2\n", "1\nx\n2\ny\n", "n\na x", "1\n2\n3\n", "1\n2\nx\n3\n", "a x\nn\nn", "1\n2\n3\n", "1\nx\n2\n3\n", "a x\nn\nd", "1\n2\n", "1\nx\n", "$a x\nn", "1\n", "1\nx\n",
		"a x\nN", "1\n2\n", "x\n1\n2\n", "a x\nN", "1\n2\n3\n", "x\n1\n2\n3\nx\n", "a x\nN\na y", "1\n2\n", "x\n1\n2\ny\n", "N\na x", "1\n2\n3\n", "1\n2\nx\n3\n", "a x\nN\nd", "1\n2\n", "x\n", "a x\nN\nN", "1\n2\n", "x\n1\n2\n",
		"a x\nD", "1\n2\n", "x\nx\n", "N;N;a x\nP;D", "1\n2\n3\n", "1\nx\n2\n3\n",
	)
}

// `c` says Text, of a range without Not at its last line alone, and ends the cycle.
func TestSedChange(t *testing.T) {
	wantLoud(t,
		"c x", "1\n2\n", "x\nx\n", "c x", "1", "x\n", "c x", "", "", "c", "1\n2\n", "\n\n", "2c x", "1\n2\n3\n", "1\nx\n3\n", "$c x", "1\n2\n3\n", "1\n2\nx\n", "/2/c x", "1\n2\n3\n", "1\nx\n3\n", "!c x", "1\n2\n", "1\n2\n", "2!c x", "1\n2\n3\n", "x\n2\nx\n", "$!c x", "1\n2\n3\n", "x\nx\n3\n", "c x\np", "1\n", "x\n", "p;c x", "1\n", "1\nx\n", "s/1/2/;c x", "1\n", "x\n",
		"2,3c x", "1\n2\n3\n4\n", "1\nx\n4\n", "2,2c x", "1\n2\n3\n", "1\nx\n3\n", "3,2c x", "1\n2\n3\n4\n", "1\n2\nx\n4\n", "2,$c x", "1\n2\n3\n", "1\nx\n", "3,$c x", "1\n2\n3\n", "1\n2\nx\n", "$,$c x", "1\n2\n", "1\nx\n", "$,1c x", "1\n2\n", "1\nx\n", "/3/,$c x", "1\n2\n3\n", "1\n2\nx\n", "1,$c x", "1\n2\n3\n", "x\n", "/b/,/e/c x", "b\n1\ne\n2\nb\n3\ne\n4\n", "x\n2\nx\n4\n", "/b/,/b/c x", "b\nb\nb\nb\n", "x\nx\n", "/b/,1c x", "b\na\nb\n", "x\na\nx\n",
		"2,3!c x", "1\n2\n3\n4\n", "x\n2\n3\nx\n", "2,$!c x", "1\n2\n3\n", "x\n2\n3\n", "/b/,/e/!c x", "a\nb\nc\ne\nf\n", "x\nb\nc\ne\nx\n", "3,9!c x", "1\n2\n3\n4\n", "x\nx\n3\n4\n", "1,$!c x", "1\n2\n", "1\n2\n", "8,9!c x", "1\n2\n", "x\nx\n",
		"2,3{c x\n}", "1\n2\n3\n4\n", "1\nx\nx\n4\n", "2,3{3c x\n}", "1\n2\n3\n", "1\n2\nx\n",
	)
	// A range that is open at the end of the text has not met its last line.
	wantLoud(t, "2,9c x", "1\n2\n3\n", "1\n", "2,/z/c x", "1\n2\n3\n", "1\n", "$,9c x", "1\n2\n", "1\n", "$,/2/c x", "1\n2\n", "1\n", "1,2c x", "1", "", "/b/,/e/c x", "b\ne\nb\n1\n", "x\n")
	// A later line than that of To's number, if that is not met.
	wantLoud(t, "3b;2,3c x", "1\n2\n3\n4\n5\n", "1\n3\nx\n5\n", "$b;2,$c x", "1\n2\n3\n4\n", "1\n4\n")
	wantLoud(t, "1{N;N;c x\n}", "1\n2\n3\n4\n", "x\n4\n", "N;c x", "1\n2\n3\n", "x\n3\n", "n;c x", "1\n2\n3\n", "1\nx\n3\n", "1h;2{x;c x\n};3x", "1\n2\n3\n", "1\nx\n2\n")
	wantQuiet(t, "c x", "1\n2\n", "x\nx\n", "1,2c x", "1\n2\n3\n", "x\n", "1,2!c x", "1\n2\n3\n", "x\n")
}

// `d` ends the cycle without saying the pattern space.
func TestSedDelete(t *testing.T) {
	wantLoud(t, "d", fiveLines, "", "2d", "1\n2\n3\n", "1\n3\n", "2!d", "1\n2\n3\n", "2\n", "$d", "1\n2\n", "1\n", "1d", "1", "", "d;p", "1\n", "", "p;d", "1\n2\n", "1\n2\n", "/a/d", "a\nb\na", "b\n", "2,3d", "1\n2\n3\n4\n", "1\n4\n", "N;d", "1\n2\n3\n", "3\n", "$!N;d", "1\n2\n3\n", "", "1{h;d};G", "1\n2\n", "2\n1\n", "$!d;n;p", "1\n2\n", "2\n")
	wantQuiet(t, "d", fiveLines, "", "p;d;p", "1\n2\n", "1\n2\n")
}

// `D` leaves what stands behind the first line end, and the next cycle begins with it.
func TestSedDeleteLine(t *testing.T) {
	wantLoud(t,
		"D", fiveLines, "", "D;p", "1\n2\n", "", "2D", "1\n2\n3\n", "1\n3\n", "$!D", "1\n2\n3\n", "3\n", "p;D", "1\n2\n", "1\n2\n",
		"$!N;P;D", "1\n2\n3\n4\n", "1\n2\n3\n4\n", "N;P;D", "1\n2\n3\n", "1\n2\n3\n", "$!N;$!D", fiveLines, "d\ne\n", "N;N;D", "1\n2\n3\n", "2\n3\n", "N;N;D", fiveLines, "c\nd\ne\n", `$!N;/^a\na$/!P;D`, "a\na\nb\na\n", "a\nb\na\n",
		// The line's number stays, and no line is read: not even behind the last one.
		`s/x/a\nb\nc/;=;D`, "x\ny\n", "1\n1\n1\n2\n", `$s/x/a\nb/;$=;D`, "y\nx\n", "2\n2\n", `s/x/a\n/;=;D`, "x", "1\n1\n", `s/x/\n/;=;D`, "x", "1\n1\n", `s/x/\n\n/;P;D`, "x\n", "\n\n\n", `s/x/a\nb/;P;D`, "x\nx\n", "a\nb\na\nb\n",
		// A cycle that begins so may end as any other, and the next one reads a line.
		`s/x/a\nb/;/a/D`, "x\ny\n", "b\ny\n", `s/x/a\nb/;/a/D;n`, "x\ny\n", "b\ny\n", `s/x/a\nb/;/^b/q;D`, "x\ny\n", "b\n", `s/x/a\nb/;/^b/N;/^a/D`, "x\ny\n", "b\ny\n",
	)
	wantQuiet(t, "$!N;P;D", "1\n2\n3\n", "1\n2\n3\n", "N;P;D", "1\n2\n3\n", "1\n2\n", "D", "1\n", "")
	// The flag is cleared where a cycle reads a line: not where it begins with what is left.
	wantQuiet(t,
		`2t end;s/1/x/;d;:end;=`, "1\n2\n", "", `/^c/t end;s/x/a\nc/;D;:end;=`, "x\n", "1\n", `/^c/t end;s/x/a\nc/;t;D;:end;=`, "x\n", "", `t end;s/x/a\nb/;D;:end;=`, "x\ny\n", "1\n", `t end;s/x/a/;D;:end;=`, "x\ny\n", "", `/c/t end;s/x/a\nb\nc/;D;:end;p`, "x\n", "b\nc\n",
	)
}

// `n` ends the line and reads the next one; without one it ends all.
func TestSedNext(t *testing.T) {
	wantLoud(t, "n", fiveLines, fiveLines, "n;d", fiveLines, "a\nc\ne\n", "n;n;d", fiveLines, "a\nb\nd\ne\n", "$!n;d", fiveLines, "a\nc\n", "n;p", "1\n", "1\n", "n;p", "1\n2\n", "1\n2\n2\n", "p;n", "1\n", "1\n1\n", "n;=", "1\n2\n3\n", "1\n2\n2\n3\n", "s/1/x/;n;s/2/y/", "1\n2\n3", "x\ny\n3\n", "1n;2d", "1\n2\n3\n", "1\n3\n", "n", "", "", "n", "1", "1\n", "1!n;2d", "1\n2\n3\n4\n", "1\n2\n3\n4\n", "h;n;G", "1\n2\n", "1\n2\n1\n", "N;n", "1\n2\n3\n", "1\n2\n3\n", ":a;n;ba", fiveLines, fiveLines, "n;i x\n", "1\n2\n", "1\nx\n2\n", "$!{n;n}", "1\n2\n3\n4\n", "1\n2\n3\n4\n")
	wantQuiet(t, "n", fiveLines, "", "n;p", fiveLines, "b\nd\n", "n;=", "1\n2\n3\n", "2\n", "p;n", "1\n", "1\n", "a x\nn", "1\n2\n3\n", "x\nx\n", "a x\nn", "1\n", "x\n", "$n;p", "1\n2\n", "1\n")
	// It is no cycle that reads a line, so the flag stays.
	wantQuiet(t, "s/1/x/;n;t end;d;:end;p", "1\n2\n", "2\n", "s/z/x/;n;t end;d;:end;p", "1\n2\n", "")
}

// `N` adds the next line; without one it ends all.
func TestSedNextMore(t *testing.T) {
	wantLoud(t, "N", fiveLines, fiveLines, `N;s/\n/+/`, fiveLines, "a+b\nc+d\ne\n", `N;N;s/\n/+/g`, fiveLines, "a+b+c\nd\ne\n", "$!N;d", "1\n2\n3\n", "", "N;d", "1\n2\n3\n", "3\n", `:a;$!{N;ba};s/\n/,/g`, fiveLines, "a,b,c,d,e\n", `:a;N;s/\n/,/;ta`, fiveLines, "a,b,c,d,e\n", "N", "", "", "N;p", "1", "1\n", "N;p", "1\n2\n", "1\n2\n1\n2\n", "N;=", "1\n2\n3\n", "2\n1\n2\n3\n", "N;P", "1\n2\n", "1\n1\n2\n", `N;s/\n/+/`, "\n\n", "+\n", "x;N", "1\n2\n", "\n2\n", "N;h;G", "1\n2\n", "1\n2\n1\n2\n", "1!N;2p", "1\n2\n3\n", "1\n2\n3\n", "p;N", "1\n", "1\n1\n")
	wantQuiet(t, "N", fiveLines, "", "N;p", fiveLines, "a\nb\nc\nd\n", "p;N", "1\n", "1\n", "a x\nN", "1\n2\n3\n", "x\nx\n", "$!N;p", "1\n2\n3\n", "1\n2\n3\n", "N;=", "1\n2\n3\n", "2\n")
	wantQuiet(t, "s/1/x/;N;t end;d;:end;p", "1\n2\n", "x\n2\n")
}

// `q` ends all, as at the end of a cycle.
func TestSedQuit(t *testing.T) {
	wantLoud(t, "q", fiveLines, "a\n", "2q", fiveLines, "a\nb\n", "$q", fiveLines, fiveLines, "9q", fiveLines, fiveLines, "/c/q", fiveLines, "a\nb\nc\n", "1!q", fiveLines, "a\nb\n", "!q", "1\n2\n", "1\n2\n", "q", "", "", "q;p", "1\n2\n", "1\n", "p;q", "1\n2\n", "1\n1\n", "s/1/x/;q", "1\n2\n", "x\n", "N;q", "1\n2\n3\n", "1\n2\n", "2{s/b/x/;q}", fiveLines, "a\nx\n", "a x\n2q", "1\n2\n3\n", "1\nx\n2\nx\n", "n;q", "1\n2\n3\n", "1\n2\n", "1d;q", "1\n2\n3\n", "2\n", "x;q", "1\n", "\n")
	wantQuiet(t, "q", fiveLines, "", "p;q", fiveLines, "a\n", "a x\nq", "1\n2\n", "x\n", "i x\nq", "1\n2\n", "x\n")
}

// `=`, `p` and `P`, each with a line end.
func TestSedSay(t *testing.T) {
	wantLoud(t, "=", "a\nb", "1\na\n2\nb\n", "p", "a\n\n", "a\na\n\n\n", "P", "a\n\n", "a\na\n\n\n", "N;P", "a\nb\n", "a\na\nb\n", "N;N;P", "a\nb\nc\n", "a\na\nb\nc\n", "p;p", "a\n", "a\na\na\n")
	wantQuiet(t, "=", "", "", "=;=", "a\n", "1\n1\n", "N;P", "\nb\n", "\n", "N;P;p", "a\nb\n", "a\na\nb\n", "G;P", "a\n", "a\n", "x;P", "a\n", "\n", "=", strings.Repeat("\n", 12), "1\n2\n3\n4\n5\n6\n7\n8\n9\n10\n11\n12\n", "$=", strings.Repeat("x\n", 1999), "1999\n")
}

// `g G h H x`, with empty spaces and with others.
func TestSedSpaces(t *testing.T) {
	wantLoud(t,
		"g", "1\n2\n", "\n\n", "G", "1\n2\n", "1\n\n2\n\n", "h", "1\n2\n", "1\n2\n", "H", "1\n2\n", "1\n2\n", "x", "1\n2\n3\n", "\n1\n2\n", "x;x", "1\n2\n", "1\n2\n", "G;G", "1\n", "1\n\n\n",
		"h;g", "1\n2\n", "1\n2\n", "h;G", "1\n2\n", "1\n1\n2\n2\n", "h;x", "1\n2\n", "1\n2\n", "H;g", "1\n2\n", "\n1\n\n1\n2\n", "H;G", "1\n", "1\n\n1\n", "H;x", "1\n2\n", "\n1\n1\n2\n", "h;H;g", "1\n", "1\n1\n", "H;h;g", "1\n", "1\n", "x;G", "1\n2\n", "\n1\n1\n2\n", "x;H;g", "1\n", "1\n\n", "g;G;g", "1\n", "\n",
		"1h;2g", "1\n2\n3\n", "1\n1\n3\n", "1h;2G", "1\n2\n", "1\n2\n1\n", "1h;2x;3G", "1\n2\n3\n", "1\n1\n3\n2\n", "1h;2H;3G", "1\n2\n3\n", "1\n2\n3\n1\n2\n", "$!{h;d};H;x", "1\n2\n", "1\n2\n", "1!G;h;$!d", "1\n2\n3\n", "3\n2\n1\n", "h;s/1/x/;G", "1\n", "x\n1\n", "s/1/x/;h;s/x/y/;g", "1\n", "x\n", "x;s/^/z/;x;G", "1\n", "1\nz\n", "h;d", "1\n", "", "1{h;d};x", "1\n2\n", "1\n", "$!{H;d};H;x", "1\n2\n3\n", "\n1\n2\n3\n",
		"N;h;N;G", "1\n2\n3\n", "1\n2\n3\n1\n2\n",
	)
	wantQuiet(t, "h;g;p", "\n", "\n", "x;p", "1\n2\n", "\n1\n", "H;x;p", "", "", "G;p", "\n", "\n\n")
}

// `b` goes on at Jump, `t` only if the flag is set, which it clears.
func TestSedJumps(t *testing.T) {
	wantLoud(t,
		"b;d", "1\n", "1\n", "2b;d", "1\n2\n", "2\n", "2!b;d", "1\n2\n", "1\n", "b e;d;:e;p", "1\n", "1\n1\n", "b e;d;:e", "1\n", "1\n", ":a;s/x//;/x/ba", "xxx1\n", "1\n", "{b};d", "1\n", "1\n", "{b e;p};:e;=", "1\n", "1\n1\n", "b;a x", "1\n", "1\n", "a x\nb", "1\n", "1\nx\n",
		"t;d", "1\n", "", "s/1/x/;t;d", "1\n2\n", "x\n", "s/1/1/;t;d", "1\n", "1\n", "s/z/x/;t;d", "1\n", "", "s/1/x/;s/z/y/;t;d", "1\n", "x\n", "s/1/x/;t a;:a;t;d", "1\n", "", "s/1/x/;t a;:a;s/x/y/;t;d", "1\n", "y\n", "s/1/x/;2t;d", "1\n1\n", "x\n", "s/1/x/;t e;d;:e;s/x/y/", "1\n", "y\n", ":a;s/x/y/;ta", "xxx\n", "yyy\n", ":a;s/^\\(y*\\)x/\\1y/;ta;s/$/!/", "xxx\n", "yyy!\n", "y/1/x/;t;d", "1\n", "", "s/1/x/;!t;d", "1\n", "", "s/1/x/;b a;:a;t;d", "1\n", "x\n", "s/1/x/p;t;d", "1\n", "x\nx\n", "s/1/x/5;t;d", "1\n", "",
	)
	// A `t` that is passed over leaves the flag, and a new line clears it.
	wantLoud(t, "1s/1/x/;2t;d", "1\n2\n", "", "s/1/x/;9t;t;d", "1\n", "x\n", "1s/1/x/;$!d;t;d", "1\n2\n", "", "2t e;s/1/x/;b;:e;s/$/!/", "1\n2\n", "x\n2\n")
	wantQuiet(t, "b;p", "1\n", "", "s/1/x/;t;p", "1\n2\n", "2\n", ":a;p;s/x//;ta", "xx\n", "xx\nx\n\n")
}

// `y` puts for each byte of the first half that of the second half.
func TestSedExchange(t *testing.T) {
	wantLoud(t,
		"y/ab/ba/", "abcab\n", "bacba\n", "y///", "abc\n", "abc\n", "y/a/a/", "aba\n", "aba\n", "y/abc/xxx/", "aabbccd\n", "xxxxxxd\n", "y/abc/bcd/", "abc\n", "bcd\n", "2y/a/b/", "a\na\n", "a\nb\n", "2!y/a/b/", "a\na\n", "b\na\n", "y/z/a/", "", "", "y/z/a/", "\n", "\n", `y/\\/a/`, "\\n\n", "an\n", `y/a/\\/`, "a\n", "\\\n", `y,\,,;,`, "a,b\n", "a;b\n",
		`y/a/\n/`, "xay\n", "x\ny\n", `N;y/\n/+/`, "1\n2\n", "1+2\n", `N;y/\n2/2\n/`, "1\n2\n", "12\n\n", `y/a/\n/;P;D`, "xayaz\n", "x\ny\nz\n", `y/a/\n/;s/\n/+/`, "xay\n", "x+y\n", "y/\x00\xff/\xff\x00/", "\x00\xff\x80\n", "\xff\x00\x80\n", "y/a/b/;y/b/c/", "ab\n", "cc\n", "h;y/a/b/;G", "a\n", "b\na\n",
	)
	all, turned := between(0, 255), ""
	for c := range 256 {
		turned += string([]byte{byte(255 - c)})
	}
	c := impl.Sed{Name: "y", Text: all + turned}
	text := strings.ReplaceAll(all, "\n", "")
	want := strings.ReplaceAll(turned, "\xf5", "") + "\n"
	if said, code := impl.RunSed([]impl.Sed{c}, text, false); said != want || code != impl.OK {
		t.Errorf("RunSed of %s: %q with code %d", shownSed(c), said, code)
	}
}
