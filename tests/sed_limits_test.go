package tests

import (
	"strings"
	"testing"

	"loop.example/g00142/impl"
)

// wantSedCode asks for the code of a run: with one nothing is said. The model, too.
func wantSedCode(t *testing.T, list []impl.Sed, text string, quiet bool, want int) {
	t.Helper()
	said, code := impl.RunSed(list, text, quiet)
	if code != want || code != impl.OK && said != "" {
		t.Errorf("RunSed(%.300s, %d bytes, %t): %d bytes with code %d, want code %d", shownList(list), len(text), quiet, len(said), code, want)
	}
	if model, modelCode := modelSaid(list, text, quiet); modelCode != want || code == want && model != said {
		t.Errorf("the model of %.300s, %d bytes, %t: code %d, want code %d", shownList(list), len(text), quiet, modelCode, want)
	}
}

// wantEditCode asks the same of a script; its place is 0, as that of all codes of a run.
func wantEditCode(t *testing.T, script, text string, quiet bool, want int) {
	t.Helper()
	said, code, at := impl.Edit(script, text, false, quiet)
	if code != want || at != 0 || code != impl.OK && said != "" {
		t.Errorf("Edit(%.200q, %d bytes, quiet %t): %d bytes with code %d at %d, want code %d", script, len(text), quiet, len(said), code, at, want)
	}
	list, code, _ := impl.ParseSed(script, false)
	if code != impl.OK {
		t.Errorf("ParseSed(%.200q): code %d", script, code)
	}
	wantSedCode(t, list, text, quiet, want)
}

func lines(n int) string { return strings.Repeat("\n", n) }

// commands are the commands of a script, one behind the other as often as asked.
func commands(t *testing.T, script string, times int) []impl.Sed {
	t.Helper()
	var out []impl.Sed
	for range times {
		list, code, at := impl.ParseSed(script, false)
		if code != impl.OK {
			t.Fatalf("ParseSed(%q): code %d at %d", script, code, at)
		}
		out = append(out, list...)
	}
	return out
}

// endless is a `b` to itself, at the end of a list.
func endless(list []impl.Sed) []impl.Sed {
	return append(list, impl.Sed{Name: "b", Jump: len(list)})
}

// Each command that is looked at is a step, done or passed over; what is in a
// block that is passed over, `}` and labels are none.
func TestSedSteps(t *testing.T) {
	for script, steps := range map[string]int{
		"x": 1, "9999x": 1, "!x": 1, "x;x": 2, "g;9999g": 2, "{x}": 2, "{x;x;x}": 4, "9999{x;x;x}": 1, "!{x;x};x": 2, "{};{}": 2, ":a;x;:b": 1, "{:a;}": 1, "b;x;x": 1, "t;x": 2, "d;x;x": 1, "D;x": 1, "9999b;x": 2, "b e;x;x;:e;x": 2, "{{{}}}": 3, "s/a/b/": 1, "s/^//;t;x": 2, "1,9999x": 1, "/a/,$x": 1, "y/a/b/;h": 2, "a\\\n": 1,
	} {
		most := impl.MaxSteps / steps
		wantEditCode(t, script, lines(most), true, impl.OK)
		wantEditCode(t, script, lines(most+1), true, impl.ErrSteps)
	}
	for _, size := range []int{1, 7, 40, 50, 60} {
		list := commands(t, "x", size)
		wantSedCode(t, list, lines(2000/size), true, impl.OK)
		wantSedCode(t, list, lines(2000/size+1), true, impl.ErrSteps)
	}
	// Nothing is looked at without commands.
	wantSedCode(t, nil, lines(65536), true, impl.OK)
	wantSedCode(t, nil, lines(8000), false, impl.OK)
	// What ends all at the last step ends it.
	wantEditCode(t, "2000q", lines(3000), true, impl.OK)
	wantEditCode(t, "2001q", lines(3000), true, impl.ErrSteps)
	wantEditCode(t, ":a;n;ba", lines(1000), true, impl.OK)
	wantEditCode(t, ":a;n;ba", lines(1001), true, impl.ErrSteps)
	wantEditCode(t, ":a;N;s/.*//;ba", lines(667), true, impl.OK)
	wantEditCode(t, ":a;N;s/.*//;ba", lines(668), true, impl.ErrSteps)
}

// What has no end of its own has one.
func TestSedEndless(t *testing.T) {
	for _, script := range []string{":a;ba", ":a;s/x/x/;ta", ":a;x;ba", "G;D", "s/^/\\n/;D", ":a;9999p;ba", ":a;{ba}", ":a;b;ba", "H;x;s/.*/\\n/;D", ":a;/a/,/a/!ba;ba"} {
		want := impl.ErrSteps
		if script == ":a;b;ba" {
			want = impl.OK
		}
		wantEditCode(t, script, "x\n", true, want)
		wantEditCode(t, script, "x\ny\n", true, want)
		wantEditCode(t, script, "", true, impl.OK)
	}
	for _, script := range []string{":a;p;ba", ":a;i xxxxxxxx\nba", ":a;s/^/xxxxxxxxxxxx/;ba", ":a;G;ba", ":a;H;ba", ":a;a xxxxxxxx\nba", ":a;H;G;ba"} {
		wantEditCode(t, script, "xxxxxxxx\n", true, impl.ErrSize)
	}
}

// saying are commands by which a number of bytes is said, and the text for it.
func saying(t *testing.T, name string, size int) ([]impl.Sed, string, bool) {
	line := strings.Repeat("x", size-1)
	switch name {
	case "i", "c", "a":
		return []impl.Sed{{Name: name, Text: line + "\n"}}, "y\n", true
	case "=":
		return commands(t, "$!d;=", 1), lines(99), true
	case "p", "P":
		return commands(t, name, 1), line + "\n", true
	case "s":
		return commands(t, "s/^//p", 1), line + "\n", true
	case "n":
		return commands(t, "n;d", 1), line + "\n\n", false
	case "q", "n at the end", "N at the end":
		return commands(t, name[:1], 1), line + "\n", false
	case "a and N":
		return append([]impl.Sed{{Name: "a", Text: line + "\n"}}, commands(t, "N;d", 1)...), "y\ny\n", false
	case "a and d":
		return append([]impl.Sed{{Name: "a", Text: line + "\n"}}, commands(t, "d", 1)...), "y\n", false
	}
	return nil, line + "\n", false // at the end of the cycle
}

// filling says bytes, once, so many that there is room for some more.
func filling(room int) []impl.Sed {
	var out []impl.Sed
	for left := impl.MaxOut - room; left > 0; left -= min(left, impl.MaxScript) {
		out = append(out, impl.Sed{From: impl.Addr{Kind: impl.AdLine, N: 1}, Name: "i", Text: strings.Repeat("z", min(left, impl.MaxScript)-1) + "\n"})
	}
	return out
}

// MaxOut bytes said, and one more, by each that says something.
func TestSedSaid(t *testing.T) {
	for _, name := range []string{"i", "c", "a", "p", "P", "s", "n", "q", "n at the end", "N at the end", "a and N", "a and d", "end"} {
		for _, size := range []int{1, 2, 9, 100, 121} {
			list, text, quiet := saying(t, name, size)
			wantSedCode(t, list, text, quiet, impl.OK)
			wantSedCode(t, append(filling(size), list...), text, quiet, impl.OK)
			wantSedCode(t, append(filling(size-1), list...), text, quiet, impl.ErrSize)
		}
	}
	list, text, quiet := saying(t, "=", 3)
	wantSedCode(t, append(filling(3), list...), text, quiet, impl.OK)
	wantSedCode(t, append(filling(2), list...), text, quiet, impl.ErrSize)
	// All that is said counts, over all cycles.
	line := long(999) + "\n"
	for script, most := range map[string]int{"": 8, "n": 8, "p": 4, "p;d": 8, "P;d": 8, "a": 7, "h;x;p;d": 8, "i x": 7, "=": 7, "y/a/b/": 8, "h;n;g": 8} {
		wantEditCode(t, script, strings.Repeat(line, most), false, impl.OK)
		wantEditCode(t, script, strings.Repeat(line, most+1), false, impl.ErrSize)
	}
	wantEditCode(t, "", strings.Repeat(line, 8), false, impl.OK)
	wantEditCode(t, "", strings.Repeat(line, 8)+"\n", false, impl.ErrSize)
	wantEditCode(t, "", "x"+strings.Repeat(line, 8), false, impl.ErrSize)
	wantEditCode(t, "", strings.Repeat(line, 9), true, impl.OK)
	wantEditCode(t, "", lines(8000), false, impl.OK)
	wantEditCode(t, "", lines(8001), false, impl.ErrSize)
	wantEditCode(t, "d", lines(2000), false, impl.OK)
}

// keeping keeps bytes by `a`.
func keeping(size int) []impl.Sed {
	list := filling(impl.MaxOut - min(size, impl.MaxOut))
	if size > impl.MaxOut {
		list = append(list, impl.Sed{Name: "a", Text: strings.Repeat("z", size-impl.MaxOut-1) + "\n"})
	}
	for i := range list {
		list[i].Name, list[i].From = "a", impl.Addr{}
	}
	return list
}

// MaxOut bytes kept, and one more: they are counted beside those that were said.
func TestSedKept(t *testing.T) {
	wantSedCode(t, keeping(8000), "x\n", true, impl.OK)
	wantSedCode(t, keeping(8001), "x\n", true, impl.ErrSize)
	wantSedCode(t, keeping(8000), "x\n", false, impl.ErrSize)
	wantSedCode(t, keeping(7998), "x\n", false, impl.OK)
	wantSedCode(t, keeping(7999), "x\n", false, impl.ErrSize)
	// It is met where they are kept, not where they are said.
	wantSedCode(t, endless(keeping(8000)), "x\n", true, impl.ErrSteps)
	wantSedCode(t, endless(keeping(8001)), "x\n", true, impl.ErrSize)
	wantSedCode(t, endless(append(filling(0), keeping(8000)...)), "x\n", true, impl.ErrSteps)
	wantSedCode(t, endless(append(filling(0), keeping(8001)...)), "x\n", true, impl.ErrSize)
	wantSedCode(t, append(filling(4000), keeping(4000)...), "x\n", true, impl.OK)
	wantSedCode(t, append(filling(4000), keeping(4001)...), "x\n", true, impl.ErrSize)
	// What was said is not kept any more.
	for _, ends := range []string{"n", "N"} {
		list := append(keeping(4000), commands(t, ends, 1)...)
		wantSedCode(t, append(list, keeping(4000)...), "x\ny\n", true, impl.OK)
		wantSedCode(t, append(list, keeping(4001)...), "x\ny\n", true, impl.ErrSize)
		wantSedCode(t, endless(append(list, keeping(8000)...)), "x\ny\n", true, impl.ErrSteps)
		wantSedCode(t, endless(append(list, keeping(8001)...)), "x\ny\n", true, impl.ErrSize)
	}
	wantSedCode(t, keeping(4000), "x\ny\n", true, impl.OK)
	wantSedCode(t, keeping(4001), "x\ny\n", true, impl.ErrSize)
}

// MaxBuf bytes in the pattern space and one more, by a line read and by `g G N s`.
func TestSedPatternSpace(t *testing.T) {
	for _, quiet := range []bool{false, true} {
		for _, script := range []string{"", "p", "x", "h", "9999d", "n", "y/a/b/", "1,2=", "q", "D", "P"} {
			wantEditCode(t, script, long(1000), quiet, impl.OK)
			wantEditCode(t, script, long(1000)+"\n", quiet, impl.OK)
			wantEditCode(t, script, long(1001), quiet, impl.ErrSize)
			wantEditCode(t, script, long(1001)+"\n", quiet, impl.ErrSize)
			wantEditCode(t, script, "x\n"+long(1000)+"\n", quiet, impl.OK)
			if script != "q" {
				wantEditCode(t, script, "x\n"+long(1001)+"\n", quiet, impl.ErrSize)
			}
		}
		wantEditCode(t, "n", "x\n"+long(1001), quiet, impl.ErrSize)
		wantEditCode(t, "n;n", "x\ny\n"+long(1001), quiet, impl.ErrSize)
		// A line that is not read is not looked at.
		wantEditCode(t, "q", "x\n"+long(65534), quiet, impl.OK)
		wantEditCode(t, "2q", "x\ny\n"+long(1001), quiet, impl.OK)
		for _, sizes := range [][2]int{{0, 999}, {1, 998}, {499, 500}, {500, 499}, {999, 0}} {
			one, two := long(sizes[0])+"\n", long(sizes[1])
			for _, script := range []string{"N", "$!N", "1h;2G", "1h;2{x;G}", "h;N", "1h;2{H;g}"} {
				wantEditCode(t, script, one+two+"\n", quiet, impl.OK)
				wantEditCode(t, script, one+two+"a\n", quiet, impl.ErrSize)
			}
		}
		wantEditCode(t, "G", long(999), quiet, impl.OK)
		wantEditCode(t, "G", long(1000), quiet, impl.ErrSize)
		wantEditCode(t, "h;g", long(1000), quiet, impl.OK)
		wantEditCode(t, "h;G", long(499), quiet, impl.OK)
		wantEditCode(t, "h;G", long(500), quiet, impl.ErrSize)
		wantEditCode(t, "x;g;x", long(1000), quiet, impl.OK)
		for _, size := range []int{999, 1000, 1001} {
			list := []impl.Sed{{Name: "s", Rx: cat(char('a')), Text: long(size - 1)}, {Name: "x"}}
			wantSedCode(t, list, "ab\n", quiet, map[bool]int{true: impl.ErrSize}[size > 1000])
			list[0].Count = 2
			wantSedCode(t, list, "ab\n", quiet, impl.OK)
		}
	}
	wantEditCode(t, "s/a/bbbbbbbb/g", long(120), true, impl.OK)
	wantEditCode(t, "s/a/bbbbbbbbb/g", long(120), true, impl.ErrSize)
}

// MaxBuf bytes in the hold space and one more, by `H`.
func TestSedHoldSpace(t *testing.T) {
	wantEditCode(t, "H", long(999), true, impl.OK)
	wantEditCode(t, "H", long(1000), true, impl.ErrSize)
	wantEditCode(t, "h", long(1000), true, impl.OK)
	wantEditCode(t, "x", long(1000), true, impl.OK)
	wantEditCode(t, "h;H", long(499), true, impl.OK)
	wantEditCode(t, "h;H", long(500), true, impl.ErrSize)
	wantEditCode(t, "1h;2H", long(500)+"\n"+long(499), true, impl.OK)
	wantEditCode(t, "1h;2H", long(500)+"\n"+long(500), true, impl.ErrSize)
	wantEditCode(t, "1h;2H;3x", long(500)+"\n"+long(499)+"\nx", true, impl.OK)
	wantEditCode(t, "1h;2H;3H", long(500)+"\n"+long(499)+"\n", true, impl.OK)
	wantEditCode(t, "1h;2H;3H", long(500)+"\n"+long(499)+"\n\n", true, impl.ErrSize)
	wantEditCode(t, "1h;2H;3g", long(500)+"\n"+long(499)+"\nx", true, impl.OK)
	wantEditCode(t, "1h;2H;3G", long(500)+"\n"+long(499)+"\n\n", true, impl.ErrSize)
	wantEditCode(t, "H", lines(999), true, impl.OK)
	wantEditCode(t, "H", lines(1000), true, impl.OK)
	wantEditCode(t, "H", lines(1001), true, impl.ErrSize)
}

// MaxLine bytes and one more where a pattern is to be matched, and there alone.
func TestSedMatchedLine(t *testing.T) {
	fits, over := long(120)+"\n", long(121)+"\n"
	for _, script := range []string{"/a/p", "/a/!p", "/z/p", "/z/!d", "/a/{p}", "s/a/b/", "s/z/b/", "s/a/b/512", "1s/a/b/", "$s/a/b/", "2!s/a/b/", "/a/,2p", "/a/,$p", "/a/,/b/p", "/z/,2!p", "{s/a/b/}", "/a/q", "/^/d"} {
		wantEditCode(t, script, fits, false, impl.OK)
		wantEditCode(t, script, over, false, impl.ErrSize)
		wantEditCode(t, script, long(1000), false, impl.ErrSize)
	}
	for script, text := range map[string]string{
		// What is not done, or not looked at, matches nothing.
		"2s/a/b/": over, "!s/a/b/": over, "$!s/a/b/": over, "2{s/a/b/}": over, "b;s/a/b/": over, "2{/a/p}": over, "d;/a/p": over, "q;s/a/b/": over, "n;/a/p": over, "1d;/a/p": over + fits,
		// To is not matched where a range begins, or is not open; nor From where it is.
		"1,/a/p": over, "2,/a/p": over, "$,/a/p": over, "9,/a/p": over + over, "/a/,2p": fits + over, "/a/,$p": fits + over + over, "/a/,/b/p": fits, "1,1p;2,/a/p": over + over,
	} {
		wantEditCode(t, script, text, true, impl.OK)
	}
	for script, text := range map[string]string{
		"1,/a/p": over + over, "1,/z/p": fits + fits + over, "/a/,2p": fits + fits + over, "/a/,1p": fits + over, "/a/,/a/p": fits + over, "2,/a/p": over + over + over, "/z/,2p": fits + over, "/a/,3p": fits + over + over + over, "1,/z/!p": fits + over, "$!N;s/a/b/": long(60) + "\n" + long(60) + "\n", "G;/a/p": fits, "H;x;s/a/b/": fits,
	} {
		wantEditCode(t, script, text, true, impl.ErrSize)
	}
	wantEditCode(t, "N;s/a/b/", long(60)+"\n"+long(59)+"\n", true, impl.OK)
	wantEditCode(t, "G;/a/p", long(119), true, impl.OK)
	wantEditCode(t, "s/a/aa/;s/a/b/", long(119), true, impl.OK)
	wantEditCode(t, "s/a/aa/;s/a/b/", long(120), true, impl.ErrSize)
}

// Of two limits that which is met first.
func TestSedFirstLimit(t *testing.T) {
	over, line := long(121)+"\n", long(999)+"\n"
	// The 2000th command that is looked at is matched with too long a line; one more is not.
	for _, last := range []string{"s/a/b/", "/a/p", "/a/!p", "/a/,$p", "1,/a/p"} {
		wantEditCode(t, "h;"+last, strings.Repeat("x\n", 999)+over, true, impl.ErrSize)
		wantEditCode(t, "h;"+last, strings.Repeat("x\n", 1000)+over, true, impl.ErrSteps)
		wantEditCode(t, "h;h;"+last, strings.Repeat("x\n", 665)+over, true, impl.ErrSize)
		wantEditCode(t, "h;h;"+last, strings.Repeat("x\n", 666)+over, true, impl.ErrSteps)
	}
	// The 2000th says or keeps too much; one more is not done.
	for _, name := range []string{"i", "c", "a"} {
		for more, most := range map[int]int{0: 400, 1: 333} {
			list := append(filling(1), commands(t, "g", more)...)
			list = append(list, impl.Sed{From: impl.Addr{Kind: impl.AdLast}, Name: name, Text: "x\n"})
			wantSedCode(t, list, lines(most), true, impl.ErrSize)
			wantSedCode(t, list, lines(most+1), true, impl.ErrSteps)
		}
	}
	// Behind the last step the cycle's end still says too much, and a line is read that is too long.
	list := append(filling(1), commands(t, "g", 1)...)
	wantSedCode(t, list, "a\n"+lines(3), false, impl.ErrSize)
	wantSedCode(t, commands(t, "g", 1), lines(2000)+long(1001), true, impl.ErrSize)
	wantSedCode(t, commands(t, "g", 1), lines(2000)+long(1000), true, impl.ErrSteps)
	wantSedCode(t, commands(t, "g;g", 1), lines(999)+long(1001), true, impl.ErrSize)
	wantSedCode(t, commands(t, "g;g;g", 1), lines(666)+long(1000), true, impl.ErrSteps)
	wantSedCode(t, nil, strings.Repeat(line, 8)+long(1001), false, impl.ErrSize)
	// Loops: what grows is too long ahead of the last step, or behind it.
	wantEditCode(t, ":a;s/^/xxxxxxxxxx/;ba", "\n", true, impl.ErrSize)
	wantEditCode(t, ":a;s/$//;ba", "\n", true, impl.ErrSteps)
	wantEditCode(t, ":a;G;ba", "\n", true, impl.ErrSteps)
	wantEditCode(t, ":a;G;G;G;ba", "\n", true, impl.ErrSize)
	wantEditCode(t, ":a;i xxxxxx\nba", "\n", true, impl.ErrSteps)
	wantEditCode(t, ":a;i xxxxxxx\nba", "\n", true, impl.ErrSteps)
	wantEditCode(t, ":a;i xxxxxxxx\nba", "\n", true, impl.ErrSize)
	wantEditCode(t, ":a;a xxxxxxx\nba", "\n", true, impl.ErrSteps)
	wantEditCode(t, ":a;a xxxxxxxx\nba", "\n", true, impl.ErrSize)
}
