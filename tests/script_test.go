package tests

import (
	"strconv"
	"strings"
	"testing"

	"loop.example/g00142/impl"
)

func shownAddr(a impl.Addr) string {
	switch a.Kind {
	case impl.AdLine:
		return itoa(a.N)
	case impl.AdLast:
		return "$"
	case impl.AdMatch:
		return "/" + shown(a.Rx) + "/"
	}
	return ""
}

// shownSed tells a command by words; every field that it has shows.
func shownSed(c impl.Sed) string {
	out := shownAddr(c.From)
	if c.To.Kind != impl.AdNone {
		out += "," + shownAddr(c.To)
	}
	if c.Not {
		out += "!"
	}
	out += c.Name
	if !isZeroRx(c.Rx) {
		out += "<" + shown(c.Rx) + ">"
	}
	if c.Text != "" {
		out += strconv.QuoteToASCII(c.Text)
	}
	if c.Global {
		out += "+g"
	}
	if c.Print {
		out += "+p"
	}
	if c.Count != 0 {
		out += "+" + itoa(c.Count)
	}
	if c.Jump != 0 || strings.Contains("{bt", c.Name) {
		out += ">" + itoa(c.Jump)
	}
	return out
}

func shownList(list []impl.Sed) string {
	if len(list) == 0 {
		return "-"
	}
	var out []string
	for _, c := range list {
		out = append(out, shownSed(c))
	}
	return strings.Join(out, " ")
}

// scriptOutcome tells what ParseSed answers: commands, or a code's word and a
// place. P8: what is read is right, what is not has a code and a place.
func scriptOutcome(t *testing.T, text string, ere bool) string {
	t.Helper()
	list, code, at := impl.ParseSed(text, ere)
	if code != impl.OK {
		if len(list) != 0 || at < 0 || at > len(text) || impl.CodeWord(code) == "" {
			t.Errorf("ParseSed(%q, %t): code %d at %d with %d commands", text, ere, code, at, len(list))
		}
		return impl.CodeWord(code) + "@" + itoa(at)
	}
	if at != 0 || !impl.SedOK(list) || !listRight(list) {
		t.Errorf("ParseSed(%q, %t): place %d, SedOK %t, right %t", text, ere, at, impl.SedOK(list), listRight(list))
	}
	return shownList(list)
}

func wantScript(t *testing.T, text string, ere bool, want string) {
	t.Helper()
	if got := scriptOutcome(t, text, ere); got != want {
		t.Errorf("ParseSed(%q, %t): %s, want %s", text, ere, got, want)
	}
}

// wantScripts is for scripts that are the same of both kinds of patterns.
func wantScripts(t *testing.T, pairs ...string) {
	t.Helper()
	for i := 0; i < len(pairs); i += 2 {
		wantScript(t, pairs[i], false, pairs[i+1])
		wantScript(t, pairs[i], true, pairs[i+1])
	}
}

// Blanks, line ends and `;` ahead of each command, and remarks there.
func TestScriptAhead(t *testing.T) {
	wantScripts(t,
		"", "-", " ", "-", "\t", "-", "\n", "-", ";", "-", "\t\n;;\n ;", "-",
		"p", "p", " p", "p", "\tp", "p", "\np", "p", ";p", "p", ";; \n\t;p", "p",
		"p;n", "p n", "p\nn", "p n", "p;;\n n", "p n", "p ; n", "p n", "p\t;\tn", "p n", "p \t\n\n\t n", "p n",
		"p;", "p", "p\n", "p", "p \t", "p", "p;\n;", "p", "p \n", "p",
		"#", "-", "# remark", "-", "#\n", "-", "#p\nn", "n", "#p;p\n n", "n", "#p\\\nn", "n", " #x\n\t#y\nn", "n", ";#x\n;#y\n", "-", "##\n#;#\n;n", "n",
		"p;#x", "p", "p; #x\n", "p", "p\n#x\n#y\nn", "p n", "{#x\np}", "{>2 p", "{ #x}\n}", "{>1", "{p;#x}\n}", "{>2 p", "{p}\n#x", "{>2 p", "a x\n#y", `a"x\n"`,
		"#n\np", "p", "#!/bin/sed\np", "p",
		"p#x", "syntax@1", "p #x", "syntax@2", "{}#", "syntax@2", "{} #", "syntax@3", "1#x", "syntax@1", "!#x", "syntax@1", "1 #x", "syntax@2", "1,#", "syntax@2",
		"\rp", "syntax@0", "\vp", "syntax@0", "\x00", "syntax@0", "\xa0p", "syntax@0", "p\r", "syntax@1", "p\r\n", "syntax@1", "p \v;", "syntax@2",
	)
}

func TestScriptLineAddresses(t *testing.T) {
	wantScripts(t,
		"1p", "1p", "12p", "12p", "123456789p", "123456789p", "999999999p", "999999999p", "1000000p", "1000000p",
		"01p", "1p", "007p", "7p", "000000001p", "1p", "000000010p", "10p", "012345678p", "12345678p",
		"0p", "range@0", "00p", "range@0", "000000000p", "range@0", "0000000001p", "range@0", "1000000000p", "range@0", "9999999999p", "range@0", "1234567890p", "range@0",
		"99999999999999999999999999p", "range@0", strings.Repeat("0", 1000)+"p", "range@0", strings.Repeat("9", 2000), "range@0",
		"1,2p", "1,2p", "2,1p", "2,1p", "1,999999999p", "1,999999999p", "1,002p", "1,2p",
		"1,0p", "range@2", "1, 0p", "range@3", "1,00p", "range@2", "1,1000000000p", "range@2", "1,0000000001p", "range@2", "0,0p", "range@0", "0,1p", "range@0",
		"  0p", "range@2", "p;0p", "range@2", "{0p}", "range@1",
		"-1p", "syntax@0", "+1p", "syntax@0", "1~2p", "syntax@1", "1,+2p", "syntax@2", "1,~2p", "syntax@2", "1 2p", "syntax@2", "1.5p", "syntax@1",
	)
	for size := 1; size <= 12; size++ {
		for _, digit := range []string{"0", "7"} {
			text := strings.Repeat(digit, size)
			want := text + "p"
			if digit == "0" || size > 9 {
				want = "range@0"
			}
			wantScripts(t, text+"p", want)
		}
	}
}

func TestScriptLastAndMatchAddresses(t *testing.T) {
	wantScripts(t,
		"$p", "$p", "$,$p", "$,$p", "1,$p", "1,$p", "$,1p", "$,1p",
		"/a/p", "/cat('a')/p", "/a/,/b/p", "/cat('a')/,/cat('b')/p", "1,/b/p", "1,/cat('b')/p", "/a/,1p", "/cat('a')/,1p", "/a/,$p", "/cat('a')/,$p", "$,/a/p", "$,/cat('a')/p",
		"/ /p", "/cat(32)/p", "/;/p", "/cat(';')/p", "/}/p", "/cat('}')/p", "/#/p", "/cat('#')/p", "/,/,/!/!p", "/cat(',')/,/cat('!')/!p", "/\xff\x00/p", "/cat(255 0)/p",
		`/a\/b/p`, "/cat('a' '/' 'b')/p", `/\//p`, "/cat('/')/p", `/\/\//p`, "/cat('/' '/')/p", `/a\.b/p`, "/cat('a' '.' 'b')/p", `/a\nb/p`, "/cat('a' 10 'b')/p", `/\\/p`, `/cat('\')/p`, `/\\\//p`, `/cat('\' '/')/p`,
		`/[\/]/p`, `/cat(set"/")/p`, `/[a\/]/p`, `/cat(set"/a")/p`, `/[\n]/p`, `/cat(set"\\n")/p`,
		"/[/]/p", "syntax@1", "//p", "syntax@1", "1,//p", "syntax@3", "/a", "syntax@1", "/", "syntax@1", "/a\n/p", "syntax@1", "/\n", "syntax@1", "/a\\\n/p", "syntax@1", `/a\`, "syntax@1", `/a\/`, "syntax@1", `/a\/p`, "syntax@1",
		`/a\1/p`, "forbid@1", `/\q/p`, "syntax@1", "/[b-a]/p", "range@1", "/a/,/[b-a]/p", "range@5", "/a/ , /b", "syntax@7", " /[/p", "syntax@2",
		"/a/I", "syntax@3", "/a/Ip", "syntax@3", "/a/M,/b/p", "syntax@3", `\,a,p`, "syntax@0", `\/a/p`, "syntax@0", "$$p", "syntax@1", "1$p", "syntax@1", "$1p", "syntax@1", "/a/1p", "syntax@3", "1/a/p", "syntax@1", "$!$p", "syntax@2",
	)
	wantScript(t, "/(a|b)+/p", false, "/cat('(' 'a' '|' 'b' ')' '+')/p")
	wantScript(t, "/(a|b)+/p", true, "/cat(rep1,-1(group1(alt(cat('a') cat('b')))))/p")
	wantScript(t, `/\(a\)\{2\}/p`, false, "/cat(rep2,2(group1(cat('a'))))/p")
	wantScript(t, `/\(a\)\{2\}/p`, true, "/cat('(' 'a' ')' '{' '2' '}')/p")
	wantScript(t, "/a/,/*/p", true, "syntax@5")
	wantScript(t, "/a/,/*/p", false, "/cat('a')/,/cat('*')/p")
	wantScript(t, `/a\{21\}/p`, false, "range@1")
	wantScript(t, "1,/a{21}/p", true, "range@3")
	wantScript(t, strings.Repeat("(a)", 10), true, "syntax@0")
	wantScript(t, "/"+strings.Repeat("(a)", 10)+"/p", true, "many@1")
}

// A pattern of MaxPattern bytes, and one more; the sign's `\` is none of them.
func TestScriptPatternSizes(t *testing.T) {
	set := func(size int) string { return "[" + long(size-2) + "]" }
	wantScripts(t,
		"/"+set(200)+"/p", `/cat(set"a")/p`, "/"+set(201)+"/p", "size@1", "1,/"+set(201)+"/p", "size@3",
		"s/"+set(200)+"/b/", `s<cat(set"a")>"b"`, "s/"+set(201)+"/b/", "size@2",
		"/["+strings.Repeat(`\/`, 198)+"]/p", `/cat(set"/")/p`, "/["+strings.Repeat(`\/`, 199)+"]/p", "size@1",
		"/"+long(1990)+"/p", "size@1", "s/"+long(1990)+"/b/", "size@2",
		"/"+long(120)+"/p", "many@1", "s/"+long(120)+"/b/", "many@2", "  s/"+long(120)+"/b/", "many@4",
	)
}

// Blanks around `,`, ahead of `!` and behind it; line ends there are none.
func TestScriptAddressBlanks(t *testing.T) {
	wantScripts(t,
		"1 ,2p", "1,2p", "1, 2p", "1,2p", "1 \t, \t2p", "1,2p", "1 , 2 p", "1,2p", "1 p", "1p", "1\tp", "1p", "1\t \tp", "1p", "$ p", "$p", "/a/ p", "/cat('a')/p", "/a/ , /b/ p", "/cat('a')/,/cat('b')/p",
		"1!p", "1!p", "1 !p", "1!p", "1! p", "1!p", "1 ! \tp", "1!p", "1,2!p", "1,2!p", "1 , 2 ! p", "1,2!p", "!p", "!p", "! p", "!p", " ! p", "!p", "!\tp", "!p",
		"!!p", "syntax@1", "1!!p", "syntax@2", "1! !p", "syntax@3", "! !p", "syntax@2", "!1p", "syntax@1", "1!2p", "syntax@2", "1!,2p", "syntax@2", "1,2,3p", "syntax@3", "1,2 ,3p", "syntax@4",
		"1,", "syntax@2", "1, ", "syntax@3", "1, \t", "syntax@4", "1,p", "syntax@2", "1, p", "syntax@3", "1 ,p", "syntax@3", "1,,2p", "syntax@2", "1,!p", "syntax@2", "1,;p", "syntax@2", "1,\n2p", "syntax@2", "1\n,2p", "syntax@1", "1\np", "syntax@1", "1,2\np", "syntax@3", "1!\np", "syntax@2",
		"$,p", "syntax@2", "/a/,p", "syntax@4", "1,a", "syntax@2", "1,}", "syntax@2", ",2p", "syntax@0", ",p", "syntax@0", " ,", "syntax@1",
		"1", "syntax@1", "1 ", "syntax@2", "1!", "syntax@2", "1! ", "syntax@3", "1 !", "syntax@3", "!", "syntax@1", "! ", "syntax@2", "1,2", "syntax@3", "1,2 ", "syntax@4", "$", "syntax@1", "/a/", "syntax@3", "/a/ ", "syntax@4", "p;1", "syntax@3",
		"1;p", "syntax@1", "1 ;p", "syntax@2", "!;p", "syntax@1", "1!;p", "syntax@2",
	)
}

// Every byte as a name, without addresses and with each kind of them.
func TestScriptEachName(t *testing.T) {
	for c := range 256 {
		name := string([]byte{byte(c)})
		bare, one, two, not := "syntax@0", "syntax@1", "syntax@3", "syntax@1"
		switch {
		case strings.Contains("dDgGhHnNpPx=", name):
			bare, one, two, not = name, "1"+name, "1,2"+name, "!"+name
		case name == "q":
			bare, one, not = "q", "1q", "!q"
		case strings.Contains("rweRW", name):
			bare, one, two, not = "forbid@0", "forbid@1", "forbid@3", "forbid@1"
		case strings.Contains("aic", name):
			text := name + `"\n"`
			bare, one, two, not = text, "1"+text, "1,2"+text, "!"+text
		case strings.Contains("bt", name):
			bare, one, two, not = name+">1", "1"+name+">1", "1,2"+name+">1", "!"+name+">1"
		case strings.Contains("sy{", name):
			bare, one, two, not = "syntax@1", "syntax@2", "syntax@4", "syntax@2"
		case strings.Contains(" \t", name):
			bare, one, two, not = "-", "syntax@2", "syntax@4", "syntax@2"
		case strings.Contains("\n;#", name):
			bare = "-"
		case name == "!":
			bare, one, two = "syntax@1", "syntax@2", "syntax@4"
		case name == "0":
			bare, one, two = "range@0", "syntax@2", "syntax@4"
		case "1" <= name && name <= "9":
			bare, one, two = "syntax@1", "syntax@2", "syntax@4"
		case name == ",":
			one = "syntax@2"
		case name == "$" || name == "/":
			bare = "syntax@1"
		}
		wantScripts(t, name, bare, "1"+name, one, "1,2"+name, two, "!"+name, not)
	}
}

func TestScriptBlocks(t *testing.T) {
	wantScripts(t,
		"{}", "{>1", "{p}", "{>2 p", "{ p }", "{>2 p", "{p;}", "{>2 p", "{;p\n}", "{>2 p", "{\np\nn\n}\nd", "{>3 p n d", "{p}p", "syntax@3", "{p};n", "{>2 p n", "{p}\nn", "{>2 p n", "{p} ;n", "{>2 p n", "{p} n", "syntax@4",
		"{{p}}", "{>3 {>3 p", "{{}}", "{>2 {>2", "{{p}n}", "syntax@4", "{{p};n}", "{>4 {>3 p n", "{p;{n;d};x};h", "{>6 p {>5 n d x h", "{};{}", "{>1 {>2", "{{}};p", "{>2 {>2 p", "{{}\n}\n", "{>2 {>2", "{{{{p}}}}", "{>5 {>5 {>5 {>5 p",
		"1{p}", "1{>2 p", "1,2{p}", "1,2{>2 p", "!{p}", "!{>2 p", "1!{p}", "1!{>2 p", "/a/,$!{p}", "/cat('a')/,$!{>2 p", "1 ! {p}", "1!{>2 p", "{1p}", "{>2 1p", "{1,2!p}", "{>2 1,2!p", "{ 1p ; 2n }", "{>3 1p 2n",
		"}", "syntax@0", "p}", "syntax@1", "p;}", "syntax@2", "{}}", "syntax@2", "{p}}", "syntax@3", "{};}", "syntax@3", "{{}}}", "syntax@4",
		"{", "syntax@1", "{p", "syntax@2", "{p;", "syntax@3", "{{}", "syntax@3", "{{", "syntax@2", "{p\n\n", "syntax@4", "{#}", "syntax@3", "{a x}", "syntax@5", "{a x\n}", `{>2 a"x\n"`,
		"{1}", "syntax@2", "{!}", "syntax@2", "{1!}", "syntax@3", "{1,2}", "syntax@4", "{$}", "syntax@2", "{/a/}", "syntax@4", "{1 }", "syntax@3", "{! }", "syntax@3", "1}", "syntax@1", "!}", "syntax@1", "{p;1}", "syntax@4",
		"{}p", "syntax@2", "{}{}", "syntax@2", "{}1p", "syntax@2", "{}:a", "syntax@2",
	)
	deep := strings.Repeat("{", 59) + "p" + strings.Repeat("}", 59)
	wantScripts(t, deep, "many@60")
	deep = strings.Repeat("{", 59) + strings.Repeat("}", 59)
	wantScripts(t, deep, strings.TrimSpace(strings.Repeat("{>59 ", 59)))
}

func TestScriptLabels(t *testing.T) {
	wantScripts(t,
		":a", "-", ": a", "-", ":\t a", "-", ":a\n", "-", ":a;", "-", ":a ", "-", ":a \t;", "-", ":a\np", "p", ":a;p", "p", ":a p", "syntax@3", ":a  p", "syntax@4", "{:a}", "{>1", "{:a;p}", "{>2 p", "{:a }", "{>1",
		":", "syntax@0", ": ", "syntax@0", ":\t", "syntax@0", ":;", "syntax@0", ": ;p", "syntax@0", ":\np", "syntax@0", ":}", "syntax@0", "{:}", "syntax@1", "{: }", "syntax@1", "p;: ", "syntax@2",
		"1:a", "syntax@1", "1,2:a", "syntax@3", "!:a", "syntax@1", "1!:a", "syntax@2", "$:a", "syntax@1", "/a/:a", "syntax@3", "1 :", "syntax@2", "! :a", "syntax@2",
		":a;:a", "label@3", ":a\n:a", "label@3", ":a\n:b\n:a", "label@6", ":a;: a", "label@3", ":a;{:a}", "label@4", "{:a};{:a}", "label@6", ":a;:a x", "label@3", ":a;:b;:c", "-", ":a;:A", "-", ":a;:aa", "-", ":ab;:a", "-", ":#;:#", "label@3",
		":a\tb", "-", ":a\t;b a", "label@4", ":a\t;b a\t", "b>0", ":a\tb x", "syntax@5", ":a#b", "-", ":a{b", "-", ":a:b;b a:b", "b>0", ":!1,$", "-", ":a\\;b a\\", "b>0", ":\xff\x00;b \xff\x00", "b>0",
	)
}

func TestScriptJumps(t *testing.T) {
	wantScripts(t,
		"b", "b>1", "t", "t>1", "b;p", "b>2 p", "b\np;n", "b>3 p n", "p;t;n", "p t>3 n", "b ", "b>1", "b \t;", "b>1", "{b}", "{>2 b>2", "{b};p", "{>2 b>3 p", "{t }", "{>2 t>2", "b;t", "b>2 t>2",
		":a;b a", "b>0", ":a;p;b a", "p b>0", "b a;:a", "b>1", "b a;p;:a", "b>2 p", "b a;p;:a;n", "b>2 p n", "t a;p;:a;n", "t>2 p n", "p;:a;n;ta", "p n t>1", "p;:a;n;ba;d", "p n b>1 d",
		"b a\n:a", "b>1", "b a }", "syntax@4", "{b a}\n:a", "{>2 b>2", "{b a };:a\np", "{>2 b>2 p", "{:a;p};b a", "{>2 p b>1", "b a;{p;:a;n}", "b>3 {>4 p n", "{p;:a};b a", "{>2 p b>2", "b a;b b;:b;p;:a", "b>3 b>2 p",
		"b\ta;:a", "b>1", "b \t a;:a", "b>1", "b a ;:a", "b>1", "b a b", "syntax@4", "ba p", "syntax@3", "b a\tb;:a\tb", "b>1", "1b", "1b>1", "1,2!b a;:a", "1,2!b>1", "!t", "!t>1",
		"b a", "label@0", "t a", "label@0", "2b none", "label@1", "1,2!t none", "label@4", "p;b x;:y", "label@2", ":a;b A", "label@3", ":ab;b a", "label@4", ":a;b ab", "label@3", "b a;b b;:a", "label@4", "b a;b b", "label@0", "{b a}", "label@1", "b a;t a", "label@0", "b #", "label@0", "b#x", "label@0", "b:a;:a", "label@0", "b 1;:1", "b>1",
		"b;:x", "b>1", "b{;:{", "b>1",
	)
}

func TestScriptTextLines(t *testing.T) {
	for _, name := range []string{"a", "i", "c"} {
		for _, c := range [][2]string{
			{"x", `"x\n"`}, {" x", `"x\n"`}, {"\t x", `"x\n"`}, {" x y ", `"x y \n"`}, {"x\n", `"x\n"`}, {"x\n\n", `"x\n"`},
			{"", `"\n"`}, {" ", `"\n"`}, {"\n", `"\n"`}, {" \t\n", `"\n"`},
			{"\\\nx", `"x\n"`}, {"\\\n  x", `"  x\n"`}, {" \\\nx", `"x\n"`}, {"\t \\\n\tx\n", `"\tx\n"`}, {"\\\n", `"\n"`}, {" \\\n", `"\n"`}, {"\\\n\n", `"\n"`}, {"\\\n\\\n", `"\\\n"`}, {"\\\n\\", `"\\\n"`}, {"\\\n\\x", `"\\x\n"`},
			{"\\", `"\\\n"`}, {" \\", `"\\\n"`}, {"\\x", `"\\x\n"`}, {"\\ x", `"\\ x\n"`}, {"\\ \n", `"\\ \n"`}, {"x\\", `"x\\\n"`}, {"x\\\n", `"x\\\n"`}, {"\\\\\n", `"\\\\\n"`},
			{"x;p", `"x;p\n"`}, {"x}", `"x}\n"`}, {"}", `"}\n"`}, {";", `";\n"`}, {"#x", `"#x\n"`}, {"x # y", `"x # y\n"`}, {"{", `"{\n"`}, {"1,2p", `"1,2p\n"`}, {"\\n", `"\\n\n"`}, {"\x00\xff", `"\x00\xff\n"`}, {"\r", `"\r\n"`},
		} {
			wantScripts(t, name+c[0], name+c[1], "1,2!"+name+c[0], "1,2!"+name+c[1])
			if !strings.HasSuffix(c[0], "\\") {
				wantScripts(t, name+c[0]+"\np", name+c[1]+" p")
			}
		}
		wantScripts(t,
			name+"\np", name+`"\n" p`, name+" x\np", name+`"x\n" p`, name+"\\\nx\np", name+`"x\n" p`, name+"\\\n\np", name+`"\n" p`, name+"x\\\np", name+`"x\\\n" p`, name+"\\\nx\\\np", name+`"x\\\n" p`, name+"\n  p", name+`"\n" p`,
			"{"+name+" x\n}", "{>2 "+name+`"x\n"`, "{"+name+"\n}\np", "{>2 "+name+`"\n" p`, "p;"+name+" x\n;n", "p "+name+`"x\n" n`, name+"\\\nx\nz", "syntax@5",
			name+" x\n"+name+" y", name+`"x\n" `+name+`"y\n"`, name+name, name+`"`+name+`\n"`,
		)
	}
}

func TestScriptBehind(t *testing.T) {
	heads := map[string]string{"s/a/b/": `s<cat('a')>"b"`, "s/a/b/g": `s<cat('a')>"b"+g`, "s/a/b/3": `s<cat('a')>"b"+3`, "y/a/b/": `y"ab"`, "1,2!p": "1,2!p", "1q": "1q"}
	for _, name := range strings.Split("d D g G h H n N p P q x =", " ") {
		heads[name] = name
	}
	for head, was := range heads {
		size := len(head)
		for _, behind := range []string{"", " ", "\t", " \t ", ";", " ;", "\t;", "\n", " \n", ";\n;", " ; ", ";#x", "\n#x\n"} {
			wantScripts(t, head+behind, was)
			wantScripts(t, "{"+head+behind+"\n}", "{>2 "+was)
		}
		for _, gap := range []string{"", " ", "\t", "; "} {
			wantScripts(t, "{"+head+gap+"}", "{>2 "+was, head+gap+"}", "syntax@"+itoa(size+len(gap)))
		}
		for _, odd := range []string{"z", "{", ":a", "#", "!", "$", "/", ",", "\\", "\x00", "\xff", "\r", "\v", "n", "x", "I", "m", "-", "'"} {
			wantScripts(t, head+odd, "syntax@"+itoa(size))
		}
		for _, odd := range []string{"p", "g", "1", "w", "e", "#x", "{", "\\\n", "b", "p;", "\r\n", "\\"} {
			wantScripts(t, head+" "+odd, "syntax@"+itoa(size+1), head+" \t "+odd, "syntax@"+itoa(size+3))
		}
	}
	wantScripts(t, "p p", "syntax@2", "pp", "syntax@1", "p1", "syntax@1", "q5", "syntax@1", "q 5", "syntax@2", "=w", "syntax@1", "dr", "syntax@1", "p;p p", "syntax@4", "=", "=", "x;g;G", "x g G", "{p} p", "syntax@4", "{p}\t}", "syntax@4")
}

func TestScriptQuit(t *testing.T) {
	wantScripts(t, "q", "q", "1q", "1q", "$q", "$q", "/a/q", "/cat('a')/q", "!q", "!q", "1!q", "1!q", "1,2q", "syntax@3", "1,2!q", "syntax@4", "1 , 2 q", "syntax@6", "$,$q", "syntax@3", "/a/,/b/q", "syntax@7", "1,2q5", "syntax@3", "{1,2q}", "syntax@4")
}

func TestScriptForbidden(t *testing.T) {
	for _, name := range []string{"r", "w", "e", "R", "W"} {
		for _, behind := range []string{"", " f", " /etc/passwd", ";p", "}", "\n", "{"} {
			wantScripts(t, name+behind, "forbid@0", "1"+name+behind, "forbid@1", "1,2 ! "+name+behind, "forbid@6", "!"+name+behind, "forbid@1", "p;"+name+behind, "forbid@2", "{"+name+behind+"}", "forbid@1", " \n;"+name+behind, "forbid@3")
		}
	}
	wantScripts(t, "E", "syntax@0", "l", "syntax@0", "Q", "syntax@0", "T", "syntax@0", "F", "syntax@0", "z", "syntax@0", "v", "syntax@0", "1,2l", "syntax@3")
}

// The example of the way there and back: a script of many kinds of commands.
func TestScriptWhole(t *testing.T) {
	script := "# turn round\n1!G;h;$!d\n:top\n/^$/{ N ; s/\\n//2 ; t top\n}\ny/abc/xyz/;s,/,\\,,gp3\n$ { =; a\\\n  the end\n}\n/a/,/b/ ! { b top }\n10,20 c changed\nq"
	wantScript(t, script, false, "1!G h $!d /cat(begin end)/{>7 N s<cat(10)>+2 t>3 y\"abcxyz\" s<cat('/')>\",\"+g+p+3 ${>12 = a\"  the end\\n\" /cat('a')/,/cat('b')/!{>14 b>3 10,20c\"changed\\n\" q")
}
