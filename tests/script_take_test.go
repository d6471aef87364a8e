package tests

import (
	"strconv"
	"strings"
	"testing"

	"loop.example/g00142/impl"
)

// signs are all bytes that may delimit a text.
func signs() []byte {
	var out []byte
	for c := range 256 {
		if c != '\n' && c != '\\' {
			out = append(out, byte(c))
		}
	}
	return out
}

// apart is letters that are none of them the sign.
func apart(sign byte) []string {
	var out []string
	for c := 'k'; len(out) < 4; c++ {
		if byte(c) != sign && c != 'n' {
			out = append(out, string(c))
		}
	}
	return out
}

func quoted(text string) string { return strconv.QuoteToASCII(text) }

// Each byte as the sign of `s` and `y`: with a `\` ahead it is itself.
func TestScriptEachSign(t *testing.T) {
	for _, c := range signs() {
		s, l := string([]byte{c}), apart(c)
		wantScripts(t,
			"s"+s+l[0]+s+l[1]+s, "s<cat('"+l[0]+"')>"+quoted(l[1]),
			"s"+s+l[0]+s+s, "s<cat('"+l[0]+"')>",
			"s"+s+l[0]+s+l[1]+`\`+s+l[2]+s, "s<cat('"+l[0]+"')>"+quoted(l[1]+s+l[2]),
			"s"+s+s+l[0]+s, "syntax@2",
			"s"+s+l[0]+s+l[1], "syntax@4",
			"s"+s+l[0], "syntax@2",
			"s"+s+l[0]+`\`+s, "syntax@2",
			"s"+s, "syntax@2",
			"y"+s+l[0]+s+l[1]+s, "y"+quoted(l[0]+l[1]),
			"y"+s+l[0]+`\`+s+s+l[1]+l[2]+s, "y"+quoted(l[0]+s+l[1]+l[2]),
			"y"+s+l[0]+l[1]+s+l[2]+`\`+s+s, "y"+quoted(l[0]+l[1]+l[2]+s),
			"y"+s+s+s, "y",
			"y"+s+`\\`+s+l[0]+s, "y"+quoted(`\`+l[0]),
			"y"+s+l[0]+s+l[1], "syntax@1",
			"y"+s+l[0], "syntax@1",
			"y"+s, "syntax@1",
		)
		if c != '[' && c != ']' {
			wantScripts(t, "s"+s+"["+l[0]+`\`+s+"]"+s+l[1]+s+";x", "s<cat(set"+quoted(rising(l[0], s))+")>"+quoted(l[1])+" x")
		}
	}
}

// rising are the bytes of texts in their order, each once.
func rising(texts ...string) string {
	all := strings.Join(texts, "")
	return bytesWhere(func(c int) bool { return strings.IndexByte(all, byte(c)) >= 0 })
}

func TestScriptNoSign(t *testing.T) {
	wantScripts(t,
		"s", "syntax@1", "y", "syntax@1", "1,2s", "syntax@4", "1 ! y", "syntax@5", "s\n", "syntax@1", "y\n", "syntax@1", "s\na\nb\n", "syntax@1", "y\na\nb\n", "syntax@1", `s\a\b\`, "syntax@1", `y\a\b\`, "syntax@1", "p;s", "syntax@3", "{s}", "syntax@3", "{y}", "syntax@2",
		"s a b ", `s<cat('a')>"b"`, "s  a ", "syntax@2", "y a b ", `y"ab"`, "s;a;b;;p", `s<cat('a')>"b" p`, "s}a}b}", `s<cat('a')>"b"`, "s#a#b#", `s<cat('a')>"b"`, "{s}a}b}}", `{>2 s<cat('a')>"b"`,
		"sgagbgg", `s<cat('a')>"b"+g`, "s1a1b11", `s<cat('a')>"b"+1`, "spapbpp", `s<cat('a')>"b"+p`, "swawbww", "forbid@6", "seaebe", `s<cat('a')>"b"`,
	)
}

// `\` and the sign, `\` and another byte, `\` and a line end, a line end alone, the script's end.
func TestScriptDelimited(t *testing.T) {
	wantScripts(t,
		`s/a\/b/c\/d/`, `s<cat('a' '/' 'b')>"c/d"`, `s,a\,b,c,`, `s<cat('a' ',' 'b')>"c"`, `s/\//\//`, `s<cat('/')>"/"`, `s,a/b,c/d,`, `s<cat('a' '/' 'b')>"c/d"`,
		`s/a/\q/`, `s<cat('a')>"\\q"`, `s/a/\\/`, `s<cat('a')>"\\\\"`, `s/a/\\\//`, `s<cat('a')>"\\\\/"`, `s/a/\\\\/`, `s<cat('a')>"\\\\\\\\"`, `s/a/\n\&\./`, `s<cat('a')>"\\n\\&\\."`, `s/a\.\*\\/b/`, `s<cat('a' '.' '*' '\')>"b"`,
		"s/a/b\\\nc/", `s<cat('a')>"b\\\nc"`, "s/a/\\\n/g", `s<cat('a')>"\\\n"+g`, "s/a/\\\n\\\n/", `s<cat('a')>"\\\n\\\n"`, "s/a/\\\\\\\n/", `s<cat('a')>"\\\\\\\n"`,
		"s/a/\n/", "syntax@4", "s/a/b\nc/", "syntax@4", "s/a/b\\\\\nc/", "syntax@4", "s/a/\\/\n/", "syntax@4", "s/a\nb/c/", "syntax@2", "s/\n/c/", "syntax@2", "s/a\\\nb/c/", "syntax@2", "s/a\\\\\n/c/", "syntax@2",
		"s/a", "syntax@2", `s/a\`, "syntax@2", `s/a\/`, "syntax@2", `s/a\\`, "syntax@2", "s/a/", "syntax@4", "s/a/b", "syntax@4", `s/a/b\`, "syntax@4", `s/a/b\/`, "syntax@4", `s/a/b\\`, "syntax@4", "s/", "syntax@2", "s/a/b;p", "syntax@4", "s/a/b}", "syntax@4", "1,2s/abc/b", "syntax@9",
		"y/a\nb/cd/", "syntax@1", "y/ab/c\nd/", "syntax@1", "y/a\\\n/bc/", "syntax@1", "y/ab/c\\\n/", "syntax@1", `y/a\`, "syntax@1", `y/a/b\`, "syntax@1", `y/a/b\/`, "syntax@1", `y/a\//bc`, "syntax@1", `y/a\//bc/`, `y"a/bc"`, "1,2y/a", "syntax@4",
		"//,/a", "syntax@1", `/a\/b/,/c\/d/p`, "/cat('a' '/' 'b')/,/cat('c' '/' 'd')/p",
	)
}

// Signs that mean something within a pattern or a replacement: behind a `\`
// they are the sign, and so mean that again.
func TestScriptSignsThatMean(t *testing.T) {
	wantScripts(t,
		`s.a\.b.c.`, `s<cat('a' any 'b')>"c"`, `s*ab\**c*`, `s<cat('a' rep0,-1('b'))>"c"`, `s^\^a^b^`, `s<cat(begin 'a')>"b"`, `s$a\$$b$`, `s<cat('a' end)>"b"`, `s[\[a][b[`, `s<cat(set"a")>"b"`, `s][a\]]b]`, `s<cat(set"a")>"b"`,
		`snanbn`, `s<cat('a')>"b"`, `sna\nbncn`, `s<cat('a' 'n' 'b')>"c"`, `snan\nn`, `s<cat('a')>"n"`, `snan\\n`, `s<cat('a')>"\\\\"`,
		`s&a&\&&`, `s<cat('a')>"&"`, `s&a&b\&c&g`, `s<cat('a')>"b&c"+g`, `s0a0\00`, `s<cat('a')>"0"`, `s1a1\11`, `s<cat('a')>"1"`, `s1a1\\11`, `s<cat('a')>"\\\\"+1`, `s9a9\1\99`, "syntax@4", `s2a2\22`, `s<cat('a')>"2"`,
		`ynan\nn`, `y"an"`, `yn\n\\nabn`, "y\"n\\\\ab\"", `y\\a\b\`, "syntax@1",
	)
	for _, c := range []struct{ script, basic, extended string }{
		{`s|a\|b|c|`, `s<cat('a' '|' 'b')>"c"`, `s<alt(cat('a') cat('b'))>"c"`},
		{`s+a\++c+`, `s<cat('a' '+')>"c"`, `s<cat(rep1,-1('a'))>"c"`},
		{`s?a\??c?`, `s<cat('a' '?')>"c"`, `s<cat(rep0,1('a'))>"c"`},
		{`s(\(a)(b(`, `s<cat('(' 'a' ')')>"b"`, `s<cat(group1(cat('a')))>"b"`},
		{`s)(a\))b)`, `s<cat('(' 'a' ')')>"b"`, `s<cat(group1(cat('a')))>"b"`},
		{`s)\(a\))b)`, "syntax@2", "syntax@2"},
		{`s{a\{2}{b{`, `s<cat('a' '{' '2' '}')>"b"`, `s<cat(rep2,2('a'))>"b"`},
		{`s}a{2\}}b}`, `s<cat('a' '{' '2' '}')>"b"`, `s<cat(rep2,2('a'))>"b"`},
		{`s1\(a\)1\11`, `s<cat(group1(cat('a')))>"1"`, `s<cat('(' 'a' ')')>"1"`},
		{`s-[a\-c]-b-`, `s<cat(set"abc")>"b"`, `s<cat(set"abc")>"b"`},
		{`s:[[\:digit\:]]:b:`, `s<cat(set"0123456789")>"b"`, `s<cat(set"0123456789")>"b"`},
		{`s,a\{1\,2\},b,`, `s<cat(rep1,2('a'))>"b"`, `s<cat('a' '{' '1' ',' '2' '}')>"b"`},
	} {
		wantScript(t, c.script, false, c.basic)
		wantScript(t, c.script, true, c.extended)
	}
}

func TestScriptSubstitutePattern(t *testing.T) {
	wantScripts(t, "s//b/", "syntax@2", "s/[/b/", "syntax@2", "s/[b-a]/c/", "range@2", `s/\1/b/`, "forbid@2", `s/\q/b/`, "syntax@2", "1,2s,[,b,", "syntax@5", "s/[a/]/b/", "syntax@2", `s/[a\/]/b/`, `s<cat(set"/a")>"b"`)
	wantScript(t, "s/(/x/", true, "syntax@2")
	wantScript(t, "s/(/x/", false, `s<cat('(')>"x"`)
	wantScript(t, `s/\(/x/`, false, "syntax@2")
	wantScript(t, `s/\(/x/`, true, `s<cat('(')>"x"`)
	wantScript(t, "s/a{21}/x/", true, "range@2")
	wantScript(t, `s/a\{3,1\}/x/`, false, "range@2")
	wantScript(t, "s/(a|b)*c/x/", true, `s<cat(rep0,-1(group1(alt(cat('a') cat('b')))) 'c')>"x"`)
	wantScript(t, "s/"+strings.Repeat("(a)", 10)+"/x/", true, "many@2")
	wantScript(t, "s/"+strings.Repeat("a{20}", 10)+"/x/", true, "many@2")
}

// Flags in each order, each once; numbers from 1 to 512.
func TestScriptFlags(t *testing.T) {
	const head, was = "s/a/b/", `s<cat('a')>"b"`
	for _, c := range [][2]string{
		{"", ""}, {"g", "+g"}, {"p", "+p"}, {"3", "+3"}, {"gp", "+g+p"}, {"pg", "+g+p"}, {"g3", "+g+3"}, {"3g", "+g+3"}, {"p3", "+p+3"}, {"3p", "+p+3"},
		{"gp3", "+g+p+3"}, {"g3p", "+g+p+3"}, {"pg3", "+g+p+3"}, {"p3g", "+g+p+3"}, {"3gp", "+g+p+3"}, {"3pg", "+g+p+3"},
		{"1", "+1"}, {"2", "+2"}, {"511", "+511"}, {"512", "+512"}, {"01", "+1"}, {"000000001", "+1"}, {"000000512", "+512"}, {"0512g", "+g+512"},
	} {
		wantScripts(t, head+c[0], was+c[1], head+c[0]+";p", was+c[1]+" p", head+c[0]+" ", was+c[1], "{"+head+c[0]+"}", "{>2 "+was+c[1])
	}
	at := func(n int) string { return "@" + itoa(len(head)+n) }
	wantScripts(t,
		head+"0", "range"+at(0), head+"00", "range"+at(0), head+"000000000", "range"+at(0), head+"513", "range"+at(0), head+"000000513", "range"+at(0), head+"999999999", "range"+at(0), head+"0000000001", "range"+at(0), head+"1234567890", "range"+at(0), head+strings.Repeat("1", 1990), "range"+at(0),
		head+"g0", "range"+at(1), head+"gp513", "range"+at(2), head+"0g", "range"+at(0), head+"0w", "range"+at(0), "1,2"+head+"0", "range@9",
		head+"gg", "syntax"+at(1), head+"pp", "syntax"+at(1), head+"gpg", "syntax"+at(2), head+"pgp", "syntax"+at(2), head+"3g3", "syntax"+at(2), head+"3p0", "syntax"+at(2), head+"1g2p", "syntax"+at(2), head+"1p1234567890", "syntax"+at(2), head+"ggw", "syntax"+at(1),
		head+"w", "forbid"+at(0), head+"e", "forbid"+at(0), head+"w f", "forbid"+at(0), head+"gw", "forbid"+at(1), head+"ge", "forbid"+at(1), head+"gp3w", "forbid"+at(3), head+"3e", "forbid"+at(1), head+"we", "forbid"+at(0), head+"wg", "forbid"+at(0), head+"e;p", "forbid"+at(0),
		head+"I", "syntax"+at(0), head+"i", "syntax"+at(0), head+"m", "syntax"+at(0), head+"M", "syntax"+at(0), head+"gI", "syntax"+at(1), head+"G", "syntax"+at(0), head+"P", "syntax"+at(0), head+"/", "syntax"+at(0), head+"-1", "syntax"+at(0), head+"+1", "syntax"+at(0),
		head+" g", "syntax"+at(1), head+"g p", "syntax"+at(2), head+" 3", "syntax"+at(1), head+" w", "syntax"+at(1), head+"3 3", "syntax"+at(2), head+"\ng", was+" g", head+";3p", was+" 3p",
	)
	for n := 0; n <= 600; n++ {
		want := was + "+" + itoa(n)
		if n == 0 || n > 512 {
			want = "range" + at(0)
		}
		wantScripts(t, head+itoa(n), want)
	}
}

// Each escape of a replacement; groups that the pattern has and has not.
func TestScriptReplacement(t *testing.T) {
	for groups := 0; groups <= 9; groups++ {
		head := "s/x" + strings.Repeat("(a)", groups) + "/"
		for c := range 256 {
			if c == '/' {
				continue
			}
			for _, around := range [][2]string{{"", ""}, {"b", "c"}, {`\\`, ""}, {"&", `\0`}} {
				text := around[0] + `\` + string([]byte{byte(c)}) + around[1]
				want := "syntax@" + itoa(len(head))
				if c < '1' || c > '9' || c-'0' <= groups {
					want = strings.Replace(scriptOutcome(t, head+"/", true), ">", ">"+quoted(text), 1)
				}
				wantScript(t, head+text+"/", true, want)
			}
		}
	}
	wantScripts(t,
		"s/a/&/", `s<cat('a')>"&"`, `s/a/\0/`, `s<cat('a')>"\\0"`, `s/a/\n/`, `s<cat('a')>"\\n"`, `s/a/\&/`, `s<cat('a')>"\\&"`, `s/a/\\1/`, `s<cat('a')>"\\\\1"`, `s/a/\\\1/`, "syntax@4", `s/a/\1/`, "syntax@4", `s/a/x\1`, "syntax@4", `s/a/xyz\9/w`, "syntax@4", `s/a/\1/0`, "syntax@4", "s/a//", "s<cat('a')>", `s/a/0123456789/`, `s<cat('a')>"0123456789"`, `1,2s,abc,\1,`, "syntax@9",
	)
	wantScript(t, `s/\(a\)\(b\)/\2\1\0/`, false, `s<cat(group1(cat('a')) group2(cat('b')))>"\\2\\1\\0"`)
	wantScript(t, `s/\(a\)\(b\)/\3/`, false, "syntax@13")
	wantScript(t, `s/\(a\)\(b\)/\1/`, true, "syntax@13")
	wantScript(t, `s/(a)(b)/\2\1/`, true, `s<cat(group1(cat('a')) group2(cat('b')))>"\\2\\1"`)
	wantScript(t, `s/(a)|(b(c))/\3/`, true, `s<alt(cat(group1(cat('a'))) cat(group2(cat('b' group3(cat('c'))))))>"\\3"`)
	wantScript(t, `s/(a)|(b(c))/\4/`, true, "syntax@13")
}

func TestScriptExchange(t *testing.T) {
	wantScripts(t,
		"y/a/b/", `y"ab"`, "y/abc/xyz/", `y"abcxyz"`, "y///", "y", "y/ab/ba/", `y"abba"`, "y/ab/cc/", `y"abcc"`, "y/a/a/", `y"aa"`, "1,2!y/a/b/", `1,2!y"ab"`,
		`y/\\/a/`, `y"\\a"`, `y/a/\\/`, `y"a\\"`, `y/\n/a/`, `y"\na"`, `y/a\n/\nb/`, `y"a\n\nb"`, `y/\//a/`, `y"/a"`, `y/\\\n\//abc/`, `y"\\\n/abc"`, `y/n\n/ab/`, `y"n\nab"`, `y/\\n/ab/`, `y"\\nab"`, `y/\\\\/ab/`, "syntax@1", "y/&;/}#/", `y"&;}#"`, "y/\x00\xff/\xff\x00/", `y"\x00\xff\xff\x00"`, "y,a\\,b,c/d,", `y"a,bc/d"`,
		"y/ab/c/", "syntax@1", "y/a/bc/", "syntax@1", "y//a/", "syntax@1", "y/a//", "syntax@1", "y/abc/d/", "syntax@1", `y/\n/ab/`, "syntax@1", `y/\\/ab/`, "syntax@1",
		"y/aa/bc/", "syntax@1", "y/aba/cde/", "syntax@1", `y/a\\b\\/cdef/`, "syntax@1", `y/\n\n/ab/`, "syntax@1", `y/\/\//ab/`, "syntax@1", "y/abca/xyzx/", "syntax@1",
		`y/\a/b/`, "syntax@1", `y/\a/bc/`, "syntax@1", `y/a/\b/`, "syntax@1", `y/ab/\c/`, "syntax@1", `y/\0/a/`, "syntax@1", `y/\t/a/`, "syntax@1", `y/\&/a/`, "syntax@1", `y/\,/a/`, "syntax@1", `y/a\./bcd/`, "syntax@1",
		"y/a/b", "syntax@1", "y/a", "syntax@1", "y/", "syntax@1", "y/a/b/g", "syntax@6", "y/a/b/w", "syntax@6", "y/a/b/ p", "syntax@7", "  1 y/a/bc/", "syntax@5", "p;y/a/bc/", "syntax@3", "{y/a/b/}", `{>2 y"ab"`,
	)
	for c := range 256 {
		if c == '/' {
			continue
		}
		e := string([]byte{byte(c)})
		one, two := "syntax@1", "syntax@1"
		if c == '\\' {
			one, two = `y"\\0"`, `y"0\\"`
		} else if c == 'n' {
			one, two = `y"\n0"`, `y"0\n"`
		}
		wantScripts(t, `y/\`+e+"/0/", one, `y/0/\`+e+"/", two)
	}
	all := strings.NewReplacer(`\`, `\\`, "\n", `\n`, "/", `\/`).Replace(between(0, 255))
	wantScripts(t, "y/"+all+"/"+all+"/", "y"+quoted(between(0, 255)+between(0, 255)), "y/"+all+"a/"+all+"a/", "syntax@1")
}

// MaxCmds commands, and one more, also where the one more is none itself.
func TestScriptTooManyCommands(t *testing.T) {
	row := func(n int, command string) string { return strings.Repeat(command, n) }
	names := func(n int) string { return strings.TrimSpace(strings.Repeat("p ", n)) }
	sixty := row(60, "p;")
	wantScripts(t,
		row(59, "p;"), names(59), sixty, names(60), row(60, "p\n"), names(60), sixty+" \n;#p", names(60), row(61, "p;"), "many@120", row(61, "p\n"), "many@120", row(100, "p;"), "many@120", sixty+" p", "many@121", sixty+"#x\np", "many@123",
		sixty+"}", "many@120", sixty+":a", "many@120", sixty+":", "many@120", sixty+"{", "many@120", sixty+"{}", "many@120", sixty+"s", "many@120", sixty+"s/a", "many@120", sixty+"y/a/bc/", "many@120", sixty+"w f", "many@120", sixty+"z", "many@120", sixty+",", "many@120", sixty+"a x", "many@120", sixty+"b none", "many@120", sixty+"pp", "many@120", sixty+`\`, "many@120",
		sixty+"1", "syntax@121", sixty+"!", "syntax@121", sixty+"1,", "syntax@122", sixty+"1,p", "syntax@122", sixty+"0p", "range@120", sixty+"/[/p", "syntax@121", sixty+"1,1234567890p", "range@122", sixty+"/[b-a]/p", "range@121", sixty+"//", "syntax@121",
		"{"+row(58, "p;")+"}", "{>59 "+names(58), "{"+row(59, "p;")+"}", "many@119", "{"+row(58, "p;")+"};p", "{>59 "+names(58)+" p", "{"+row(58, "p;")+"};p;p", "many@121", "{"+row(60, "p;"), "many@119", "{"+row(59, "p;"), "syntax@119",
		":a;"+sixty+"\n", names(60), row(30, "p;")+":a;:b;:c;"+row(30, "p;"), names(60), ":a;"+sixty+":b", "many@123", ":a;"+sixty+":a", "many@123", row(59, "p;")+":a;p", names(60), row(59, "p;")+":a;p;p", "many@123",
		"}"+sixty+"p", "syntax@0", row(59, "p;")+"b x;p", "many@122", row(60, "p"), "syntax@1", sixty+"1q;q", "many@120", sixty+"1,2q", "many@120", sixty+"1}", "many@120",
	)
	var blocks []string
	for i := range 59 {
		blocks = append(blocks, "{>"+itoa(i+1))
	}
	wantScripts(t, row(59, "{};"), strings.Join(blocks, " "), row(59, "{};")+"p", strings.Join(blocks, " ")+" p", row(60, "{};"), "many@178")
}

// One command too many is told where it begins: at its first address, or its `!`, behind all that stands ahead of it.
func TestScriptTooManyBegins(t *testing.T) {
	full := strings.Repeat("p\n", 60)
	for _, head := range []string{"", " ", "\t", "\n", ";", " ;\n\t", "#\n", "# 1p\n", "#1\n#2\n", " # x ;\n ;"} {
		many := "many@" + itoa(len(full)+len(head))
		for _, address := range []string{"1", "0000001", "999999999", "$", "/a/", `/\//`, "/!/", "1,2", "1 , 2", "$\t,\t/a/", "/1,2/,3", "/;p/,$"} {
			for _, not := range []string{"", " ", "!", " !", "! ", "\t! \t"} {
				for _, name := range []string{"p", "{", "{}", "}", ":", ":a", "b", "t none", "a", "i\\\nx", "s/a/b/", "s/a", "s", "y/abc/bca/\n:end\n", "y/a/bc/", "q", "r f", "w", "z", "=", "pp", "p;1,2!p"} {
					wantScripts(t, full+head+address+not+name, many)
				}
			}
		}
	}
	wantScripts(t,
		full+"!p", "many@120", full+" !p", "many@121", full+"! p", "many@120", full+"!}", "many@120", full+"!:a", "many@120", full+"!z", "many@120", full+",2p", "many@120", full+"!!p", "many@120",
		full+"1;p", "many@120", full+"1\np", "many@120", full+"1#p", "many@120", full+"1,2,3p", "many@120", full+"1 2p", "many@120",
		strings.Repeat("1,2!p;", 60)+"/a/ , $ ! p", "many@360", strings.Repeat("1,2!p;", 60), strings.TrimSpace(strings.Repeat("1,2!p ", 60)), "{"+strings.Repeat("p;", 59)+" 1}", "many@120", "1{"+strings.Repeat("p;", 59)+"2p}", "many@120",
	)
}

// What is met ahead of the name of one command too many is told first, where it is.
func TestScriptTooManyFaultsAhead(t *testing.T) {
	full := strings.Repeat("p\n", 60)
	wantScripts(t,
		full+"1", "syntax@121", full+"1 ", "syntax@122", full+"1!", "syntax@122", full+"1,2", "syntax@123", full+"1 , 2 ! ", "syntax@128", full+"$", "syntax@121", full+"/a/", "syntax@123", full+"! ", "syntax@122", full+" \n1", "syntax@123",
		full+"1,p", "syntax@122", full+"1, p", "syntax@123", full+"1 ,!p", "syntax@123", full+"1,,2p", "syntax@122", full+"$,}", "syntax@122", full+"/a/,;p", "syntax@124",
		full+"0p", "range@120", full+"0", "range@120", full+"1,0p", "range@122", full+"1234567890p", "range@120", full+"$ , 000p", "range@124", full+"#x\n0!z", "range@123",
		full+"/a", "syntax@121", full+"//p", "syntax@121", full+"/[b-a]/p", "range@121", full+`/\1/w`, "forbid@121", full+"1,/[/p", "syntax@123", full+"1,/a\n/p", "syntax@123", full+"/"+long(120)+"/p", "many@121", full+"1,/"+long(120)+"/p", "many@123",
	)
}

// MaxScript bytes and one more, MaxText bytes and one more.
func TestScriptSizes(t *testing.T) {
	for _, c := range []struct {
		text string
		want string
	}{
		{strings.Repeat(";", 2000), "-"}, {strings.Repeat(";", 2001), "size@0"}, {"#" + long(1999), "-"}, {"#" + long(2000), "size@0"},
		{"a" + strings.Repeat("x", 1999), "a" + quoted(strings.Repeat("x", 1999)+"\n")}, {"a" + strings.Repeat("x", 2000), "size@0"}, {"a\\\n" + strings.Repeat(" ", 1997), "a" + quoted(strings.Repeat(" ", 1997)+"\n")},
		{"s/a/" + strings.Repeat("x", 1995) + "/", "s<cat('a')>" + quoted(strings.Repeat("x", 1995))}, {"s/a/" + strings.Repeat("x", 1996) + "/", "size@0"}, {"s/a/" + strings.Repeat("x", 1996), "syntax@4"},
		{":" + long(1999), "-"}, {"b" + long(1999), "label@0"}, {"b" + long(990) + ";:" + long(990), "b>1"}, {"zzz" + long(1998), "size@0"}, {"}" + long(1999), "syntax@0"},
		{strings.Repeat(" ", 1999) + "p", "p"}, {strings.Repeat(" ", 2000) + "p", "size@0"}, {strings.Repeat(" ", 1999) + "{", "syntax@2000"}, {strings.Repeat("\n", 1999) + "w", "forbid@1999"},
		{long(impl.MaxText), "size@0"}, {strings.Repeat(";", impl.MaxText), "size@0"}, {strings.Repeat(";", impl.MaxText+1), "long@0"}, {long(impl.MaxText + 1), "long@0"}, {"w" + long(impl.MaxText), "long@0"}, {long(1 << 20), "long@0"},
	} {
		wantScripts(t, c.text, c.want)
	}
}

// Of two faults in one script that counts which is met first going along it.
func TestScriptTwoFaults(t *testing.T) {
	wantScripts(t,
		"z;0p", "syntax@0", "0p;z", "range@0", "w;z", "forbid@0", "z;w", "syntax@0", "p p;w", "syntax@2", "w;p p", "forbid@0", ":a;:a;w", "label@3", "w;:a;:a", "forbid@0", "b x;w", "forbid@4", "b x;p p", "syntax@6", "b x;:a;:a", "label@7", "{;w", "forbid@2", "{0p", "range@1", "{p p", "syntax@3",
		"0,0p", "range@0", "0,p", "range@0", "0", "range@0", "1,0", "range@2", "0w", "range@0", "1,w", "syntax@2", "0z", "range@0", "1,z", "syntax@2", "//z", "syntax@1", "/[b-a]/z", "range@1", "/[b-a]/,", "range@1", "/a", "syntax@1", "/[b-a]/,0p", "range@1", "0,/[b-a]/p", "range@0", "1,2}", "syntax@3",
		"1,2q x", "syntax@3", "1:", "syntax@1", "1:a;:a", "syntax@1", ":a;1:a", "syntax@4", ": ;w", "syntax@0", ":a x;:a", "syntax@3", ":a;:a x", "label@3", "b a b;w", "syntax@4",
		"s/[b-a]/b", "range@2", "s/[b-a]/\\1/", "range@2", "s/[b-a]/b/0", "range@2", "s/[b-a]/b/w", "range@2", "s/a/\\1/0", "syntax@4", "s/a/\\1/w", "syntax@4", "s/a/\\1", "syntax@4", "s/a/b/0w", "range@6", "s/a/b/w0", "forbid@6", "s/a/b/gg0", "syntax@7", "s/a/b/x;w", "syntax@6", "s//\\1/w", "syntax@2", "s/\\1/\\1/", "forbid@2",
		"y/a/bc/w", "syntax@1", "y/aa/b/ z", "syntax@1", "y/a/b/z;w", "syntax@6", "p;;z;w", "syntax@3",
		"}w", "syntax@0", "{}w", "syntax@2", "{}};w", "syntax@2", "{1};w", "syntax@2", "a x;w\nz", "syntax@6", "# w\nz;0p", "syntax@4",
	)
}

// The faults of the end stand behind all others, a `{` that is open ahead of labels.
func TestScriptEndFaults(t *testing.T) {
	wantScripts(t,
		"{", "syntax@1", "{b x", "syntax@4", "b x;{", "syntax@5", "{b x}", "label@1", "b x", "label@0", "b x;t y", "label@0", "t y;b x;:y", "label@4", "{b x;p", "syntax@6", "b x;{p}", "label@0", "b x;{p\n#}\n", "syntax@10", "p;1,2b x;t y", "label@5",
		"b x;z", "syntax@4", "{z", "syntax@1", "{b x;0p", "range@5", "{;w", "forbid@2", "{:a;:a", "label@4", "b x;{0p", "range@5", "b x;}", "syntax@4",
	)
}
