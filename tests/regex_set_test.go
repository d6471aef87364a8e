package tests

import (
	"strconv"
	"strings"
	"testing"

	"loop.example/g00142/impl"
)

// bytesWhere are the bytes of which something holds, rising.
func bytesWhere(holds func(c int) bool) string {
	var out []byte
	for c := range 256 {
		if holds(c) {
			out = append(out, byte(c))
		}
	}
	return string(out)
}

func between(from, to byte) string {
	return bytesWhere(func(c int) bool { return int(from) <= c && c <= int(to) })
}

func others(set string) string {
	return bytesWhere(func(c int) bool { return strings.IndexByte(set, byte(c)) < 0 })
}

// union is the bytes of some sets, rising, each once.
func union(sets ...string) string {
	all := strings.Join(sets, "")
	return bytesWhere(func(c int) bool { return strings.IndexByte(all, byte(c)) >= 0 })
}

func wantSet(t *testing.T, pattern, want string) {
	t.Helper()
	for _, ere := range []bool{false, true} {
		wantPattern(t, pattern, ere, "cat(set"+strconv.QuoteToASCII(want)+")")
	}
}

func wantFault(t *testing.T, pattern, want string) {
	t.Helper()
	wantPattern(t, pattern, false, want)
	wantPattern(t, pattern, true, want)
}

func TestSetMembers(t *testing.T) {
	for pattern, want := range map[string]string{
		"[a]": "a", "[ab]": "ab", "[ba]": "ab", "[aba]": "ab", "[.*$+?(){}|]": union(".*$+?(){}|"), "[\\]": `\`, "[\\n]": `\n`, "[a\\]": `\a`, "[\n]": "\n", "[\x00\xff]": "\x00\xff",
		"[]]": "]", "[]a]": "]a", "[]^-]": "-]^", "[a^]": "^a", "[^^]": others("^"), "[^a]": others("a"), "[^]]": others("]"), "[^]a]": others("]a"), "[^a^]": others("a^"), "[^-]": others("-"),
		"[[]": "[", "[[a]": "[a", "[a[]": "[a", "[:a]": ":a", "[a:]": ":a", "[:alpha:]": union(":alph"), "[[a:]": ":[a", "[=a.]": ".=a", "[.a.]": ".a", "[a[b]": "[ab",
	} {
		wantSet(t, pattern, want)
	}
	wantFault(t, "[]]a]", `cat(set"]" 'a' ']')`)
	wantFault(t, "[a]]", `cat(set"a" ']')`)
	wantFault(t, "[a][b]", `cat(set"a" set"b")`)
}

func TestSetRanges(t *testing.T) {
	for pattern, want := range map[string]string{
		"[a-c]": "abc", "[a-a]": "a", "[a-cx]": "abcx", "[xa-c]": "abcx", "[a-cb-e]": "abcde", "[a-c0-2]": "012abc", "[^a-c]": others("abc"), "[\x00-\xff]": between(0, 255), "[\xfe-\xff]": "\xfe\xff", "[\x00-\x01]": "\x00\x01",
		"[^\x01-\xff]": "\x00", "[^\x00-\xfe]": "\xff", "[!--]": between('!', '-'), "[--/]": "-./", "[---]": "-", "[]-a]": "]^_`a", "[^]-a]": others("]^_`a"), "[[-a]": "[\\]^_`a", "[A-[]": between('A', '['), "[+-\\]": between('+', '\\'), "[\\-a]": between('\\', 'a'),
		"[-]": "-", "[-a]": "-a", "[a-]": "-a", "[--]": "-", "[^-a]": others("-a"), "[^a-]": others("-a"), "[a-c-]": "-abc", "[a-c-e]": "-abce", "[a-c-e-g]": union("abc-efg"), "[-a-c]": "-abc", "[-a-]": "-a", "[]-]": "-]", "[a-b-c-d]": "-abcd",
	} {
		wantSet(t, pattern, want)
	}
	for pattern, want := range map[string]string{
		"[b-a]": "range@1", "[^b-a]": "range@2", "[ab-a]": "range@2", "[a-cb-a]": "range@4", "x[z-a]": "range@2", "[\xff-\x00]": "range@1", "[a--]": "range@1", "[]-A]": "range@1", "[b-a": "range@1", "[b-ax": "range@1", "[[:digit:]b-a]": "range@10", "[.-+]": "range@1", "[a-[]": "range@1",
	} {
		wantFault(t, pattern, want)
	}
}

// A range ends in a byte, whichever it is: what would be a class elsewhere is none there.
func TestSetRangeToBracket(t *testing.T) {
	wantFault(t, "[A-[:digit:]]", "cat(set"+strconv.Quote(union(between('A', '['), ":digt"))+" ']')")
	wantFault(t, "[a-[:digit:]]", "range@1")
	wantFault(t, "[A-[.]", "cat(set"+strconv.QuoteToASCII(union(between('A', '['), "."))+")")
	wantSet(t, "[[:digit:]-a]", "-0123456789a")
	wantSet(t, "[[:digit:]-]", "-0123456789")
	wantSet(t, "[[:digit:]--/]", "-./0123456789")
}

// All ranges there are: one that does not fall has all bytes from one to the other.
func TestSetEachRange(t *testing.T) {
	for from := range 256 {
		for to := range 256 {
			if to == ']' || from == '^' || from == '[' && (to == ':' || to == '.' || to == '=') {
				continue
			}
			p := "[" + string([]byte{byte(from), '-', byte(to)}) + "]"
			r, code, at := impl.Compile(p, true)
			if from > to {
				if code != impl.ErrRange || at != 1 {
					t.Errorf("Compile(%q): %d at %d", p, code, at)
				}
				continue
			}
			if code != impl.OK || len(r.Kids) != 1 || r.Kids[0].Set != between(byte(from), byte(to)) {
				t.Errorf("Compile(%q): %s, %d at %d", p, shown(r), code, at)
			}
		}
	}
}

func TestSetClasses(t *testing.T) {
	digit, upper, lower := "0123456789", between('A', 'Z'), between('a', 'z')
	classes := map[string]string{
		"alpha": upper + lower, "digit": digit, "alnum": digit + upper + lower, "upper": upper, "lower": lower, "blank": "\t ", "space": "\t\n\v\f\r ",
		"punct": "!\"#$%&'()*+,-./:;<=>?@[\\]^_`{|}~", "xdigit": digit + "ABCDEFabcdef",
	}
	for name, want := range classes {
		wantSet(t, "[[:"+name+":]]", want)
		wantSet(t, "[^[:"+name+":]]", others(want))
		wantSet(t, "[_[:"+name+":]\x80]", union(want, "_\x80"))
		wantSet(t, "[[:"+name+":][:digit:]]", union(want, digit))
		wantSet(t, "[][:"+name+":]]", union(want, "]"))
		for _, wrong := range []string{name + "x", name[:4], strings.ToUpper(name), " " + name, name + " ", "^" + name, name + ":", ":" + name} {
			wantFault(t, "[[:"+wrong+":]]", "syntax@1")
		}
	}
	for pattern, want := range map[string]string{
		"[[:none:]]": "syntax@1", "[[::]]": "syntax@1", "[[:]]": "syntax@1", "[[:": "syntax@1", "[[:alpha": "syntax@1", "[[:alpha:": "syntax@1", "[[:alpha]": "syntax@1", "[[:alpha]]": "syntax@1", "[a[:cntrl:]]": "syntax@2", "[^[:print:]]": "syntax@2", "[[:graph:]]": "syntax@1",
		"[[:digit:]": "syntax@10", "[[:digit:]a": "syntax@11", "[[:digit:][:none:]]": "syntax@10", "[[:dig:it:]]": "syntax@1", "[[:-a]": "syntax@1", "[[:]:]]": "syntax@1",
		"[[.a.]]": "syntax@1", "[[=a=]]": "syntax@1", "[a[.b.]]": "syntax@2", "[^[=b=]]": "syntax@2", "[[.": "syntax@1", "[[=": "syntax@1", "[[.]": "syntax@1", "x[a[=]": "syntax@3", "[[.-a]": "syntax@1",
	} {
		wantFault(t, pattern, want)
	}
}

func TestSetEnds(t *testing.T) {
	for pattern, want := range map[string]string{
		"[": "syntax@1", "[^": "syntax@2", "[]": "syntax@2", "[^]": "syntax@3", "[a": "syntax@2", "a[b": "syntax@3", "[a-": "syntax@3", "[a-b": "syntax@4", "[]a": "syntax@3", "[[": "syntax@2", "[a\\": "syntax@3", "[-": "syntax@2",
		"[^\x00-\xff]": "syntax@5", "[^\x00-\xff]a": "syntax@5", "[^\x00-\x7f\x80-\xff]": "syntax@8", "x[^\x00-\xffa]*": "syntax@7", "[^\x00-\xff": "syntax@5", "[^]\x00-\xff]": "syntax@6",
		"[^[:alpha:]\x00-\xff]": "syntax@14",
	} {
		wantFault(t, pattern, want)
	}
}

// Each subset of some bytes, and all other bytes.
func TestSetSubsets(t *testing.T) {
	const all = "ac]-^x"
	for bits := 1; bits < 1<<len(all); bits++ {
		var in string
		for i := range len(all) {
			if bits>>i&1 == 1 {
				in += all[i : i+1]
			}
		}
		// `]` stands first and `-` last, and `^` is not the first of all.
		text := strings.NewReplacer("]", "", "-", "", "^", "").Replace(in)
		if strings.Contains(in, "]") {
			text = "]" + text
		}
		if strings.Contains(in, "^") {
			text += "^"
		}
		if strings.Contains(in, "-") {
			text += "-"
		}
		if !strings.HasPrefix(text, "^") {
			wantSet(t, "["+text+"]", union(in))
		}
		wantSet(t, "[^"+text+"]", others(in))
	}
}
