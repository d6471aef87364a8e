package tests

import (
	"math/rand"
	"regexp"
	"strings"
	"testing"

	"loop.example/g00142/impl"
)

// takes tells by a command's name what it may have: a text line, a pattern with
// its replacement and flags, two halves, a jump, a jump ahead, one address, nothing.
var takes = map[string]string{
	"{": "ahead", "b": "jump", "t": "jump", "a": "line", "i": "line", "c": "line", "s": "replace", "y": "halves", "q": "one",
	"d": "none", "D": "none", "g": "none", "G": "none", "h": "none", "H": "none", "n": "none", "N": "none", "p": "none", "P": "none", "x": "none", "=": "none",
}

var (
	wholeLine   = regexp.MustCompile(`^[^\n]*\n$`)
	replacement = regexp.MustCompile(`(?s)^(?:[^\\\n]|\\.)*$`)
	escape      = regexp.MustCompile(`(?s)\\.`)
)

func treeRight(r impl.Rx) bool {
	groups := 0
	return countNodes(r) <= 120 && modelRight(r, &groups) && groups <= 9 && weightOf(r).IsInt64() && weightOf(r).Int64() <= 300
}

func addrRight(a impl.Addr) bool {
	switch a.Kind {
	case 0, 2:
		return a.N == 0 && isZeroRx(a.Rx)
	case 1:
		return a.N >= 1 && a.N <= 999999999 && isZeroRx(a.Rx)
	}
	return a.Kind == 3 && a.N == 0 && treeRight(a.Rx)
}

func replaceRight(c impl.Sed) bool {
	if !treeRight(c.Rx) || !replacement.MatchString(latin(c.Text)) {
		return false
	}
	for _, e := range escape.FindAllString(latin(c.Text), -1) {
		if '1' <= e[1] && e[1] <= '9' && int(e[1]-'0') > countGroups(c.Rx) {
			return false
		}
	}
	return true
}

func halvesRight(text string) bool {
	for c := range 256 {
		if strings.Count(text[:len(text)/2], string([]byte{byte(c)})) > 1 {
			return false
		}
	}
	return len(text)%2 == 0
}

// listRight is SedOK, by a table of what each name may have.
func listRight(list []impl.Sed) bool {
	for i, c := range list {
		what, there := takes[c.Name]
		right := there && addrRight(c.From) && addrRight(c.To) && (c.To.Kind == 0 || c.From.Kind != 0 && what != "one") && len(c.Text) <= 2000
		if what != "replace" {
			right = right && isZeroRx(c.Rx) && !c.Global && !c.Print && c.Count == 0
		}
		switch what {
		case "line":
			right = right && wholeLine.MatchString(c.Text)
		case "replace":
			right = right && replaceRight(c) && c.Count >= 0 && c.Count <= 512
		case "halves":
			right = right && halvesRight(c.Text)
		default:
			right = right && c.Text == ""
		}
		switch what {
		case "ahead":
			right = right && c.Jump > i && c.Jump <= len(list)
		case "jump":
			right = right && c.Jump >= 0 && c.Jump <= len(list)
		default:
			right = right && c.Jump == 0
		}
		if !right {
			return false
		}
	}
	return len(list) <= 60
}

// rightCommand is a right command of a name, alone in its list.
func rightCommand(name string) impl.Sed {
	c := impl.Sed{Name: name}
	switch takes[name] {
	case "ahead":
		c.Jump = 1
	case "line":
		c.Text = "one\n"
	case "replace":
		c.Rx, c.Text = cat(char('a')), "b"
	case "halves":
		c.Text = "ab"
	}
	return c
}

func wantSedOK(t *testing.T, want bool, list ...impl.Sed) {
	t.Helper()
	if got := impl.SedOK(list); got != want || listRight(list) != want {
		t.Errorf("SedOK %t, model %t, want %t: %.300s", got, listRight(list), want, shownList(list))
	}
}

// commandNames are those that a command may have, in an order that stays.
func commandNames() []string { return strings.Split("{ b t a i c s y q d D g G h H n N p P x =", " ") }

func TestSedOKNames(t *testing.T) {
	wantSedOK(t, true)
	for _, name := range commandNames() {
		wantSedOK(t, true, rightCommand(name))
	}
	for _, name := range []string{"", "pp", "p ", " p", "p\n", "}", ":", "r", "w", "e", "R", "W", "l", "#", ";", "!", "z", "\x00", "\xff", "{}", "dD", "s/", long(70000)} {
		wantSedOK(t, false, impl.Sed{Name: name})
		wantSedOK(t, false, impl.Sed{Name: "p"}, impl.Sed{Name: name}, impl.Sed{Name: "n"})
	}
	for c := range 256 {
		name := string([]byte{byte(c)})
		_, there := takes[name]
		wantSedOK(t, there, rightCommand(name))
	}
}

// Addresses of every kind, at From and at To, of each name.
func TestSedOKAddresses(t *testing.T) {
	tree := cat(char('a'))
	var all []impl.Addr
	for _, kind := range []int{least, -1, 0, 1, 2, 3, 4, greatest} {
		for _, n := range []int{least, -1, 0, 1, 2, 999999998, 999999999, 1000000000, greatest} {
			for _, r := range []impl.Rx{{}, tree, group(1, tree), {Kind: impl.RxAny}, {Kind: 10}, {N: 1}, {M: 1}, {Set: "a"}, {Kids: []impl.Rx{tree}}, alt(tree), cat(many(119, char('a'))...), cat(many(120, char('a'))...)} {
				all = append(all, impl.Addr{Kind: kind, N: n, Rx: r})
			}
		}
	}
	for _, a := range all {
		right := addrRight(a)
		none := a.Kind == impl.AdNone
		for _, name := range commandNames() {
			c := rightCommand(name)
			c.From = a
			wantSedOK(t, right, c)
			c.Not = true
			wantSedOK(t, right, c)
			c.From, c.To = impl.Addr{Kind: impl.AdLast}, a
			wantSedOK(t, right && (none || name != "q"), c)
			c.From = impl.Addr{}
			wantSedOK(t, right && none, c)
		}
	}
	for _, from := range []impl.Addr{{Kind: impl.AdLine, N: 2}, {Kind: impl.AdLast}, {Kind: impl.AdMatch, Rx: tree}} {
		for _, to := range []impl.Addr{{Kind: impl.AdLine, N: 1}, {Kind: impl.AdLast}, {Kind: impl.AdMatch, Rx: tree}} {
			wantSedOK(t, true, impl.Sed{From: from, To: to, Name: "p"})
			wantSedOK(t, false, impl.Sed{From: from, To: to, Name: "q"})
			wantSedOK(t, true, impl.Sed{From: from, Name: "q"})
		}
	}
}

// Each field that a name does not have must be zero.
func TestSedOKFields(t *testing.T) {
	for _, name := range commandNames() {
		what := takes[name]
		for _, change := range []struct {
			do    func(c *impl.Sed)
			right bool
		}{
			{func(c *impl.Sed) { c.Not = true }, true},
			{func(c *impl.Sed) { c.Global = true }, what == "replace"},
			{func(c *impl.Sed) { c.Print = true }, what == "replace"},
			{func(c *impl.Sed) { c.Global, c.Print, c.Count = true, true, 2 }, what == "replace"},
			{func(c *impl.Sed) { c.Count = 1 }, what == "replace"},
			{func(c *impl.Sed) { c.Count = 512 }, what == "replace"},
			{func(c *impl.Sed) { c.Count = 513 }, false},
			{func(c *impl.Sed) { c.Count = -1 }, false},
			{func(c *impl.Sed) { c.Count = greatest }, false},
			{func(c *impl.Sed) { c.Count = least }, false},
			{func(c *impl.Sed) { c.Rx = cat(char('b'), char('c')) }, what == "replace"},
			{func(c *impl.Sed) { c.Rx = impl.Rx{Kind: impl.RxAny} }, what == "replace"},
			{func(c *impl.Sed) { c.Rx = impl.Rx{} }, what != "replace"},
			{func(c *impl.Sed) { c.Rx = impl.Rx{Kids: []impl.Rx{}} }, what != "replace"},
			{func(c *impl.Sed) { c.Rx = impl.Rx{Kind: 10} }, false},
			{func(c *impl.Sed) { c.Rx = impl.Rx{N: 1} }, false},
			{func(c *impl.Sed) { c.Rx = impl.Rx{M: -1} }, false},
			{func(c *impl.Sed) { c.Rx = impl.Rx{Set: "a"} }, false},
			{func(c *impl.Sed) { c.Rx = impl.Rx{Kids: []impl.Rx{char('a')}} }, false},
			{func(c *impl.Sed) { c.Rx = cat(many(120, char('a'))...) }, false},
			{func(c *impl.Sed) { c.Rx = group(2, char('a')) }, false},
			{func(c *impl.Sed) { c.Jump = 0 }, what != "ahead"},
			{func(c *impl.Sed) { c.Jump = 1 }, what == "ahead" || what == "jump"},
			{func(c *impl.Sed) { c.Jump = 2 }, false},
			{func(c *impl.Sed) { c.Jump = -1 }, false},
			{func(c *impl.Sed) { c.Jump = greatest }, false},
			{func(c *impl.Sed) { c.Jump = least }, false},
			{func(c *impl.Sed) { c.Text = "" }, what != "line"},
			{func(c *impl.Sed) { c.Text = "\n" }, what == "line"},
			{func(c *impl.Sed) { c.Text = "a" }, what == "replace"},
			{func(c *impl.Sed) { c.Text = "a\n" }, what == "line" || what == "halves"},
			{func(c *impl.Sed) { c.Text = "ab\n" }, what == "line"},
		} {
			c := rightCommand(name)
			change.do(&c)
			wantSedOK(t, change.right, c)
		}
	}
}

func TestSedOKTexts(t *testing.T) {
	line := func(text string) impl.Sed { return impl.Sed{Name: "a", Text: text} }
	for text, want := range map[string]bool{
		"": false, "\n": true, "a\n": true, "a": false, "a\nb": false, "a\nb\n": false, "\n\n": false, "\na\n": false, "  a \\\n": true, "\x00\xff\n": true, "a\r\n": true,
		long(1999) + "\n": true, long(2000) + "\n": false, long(2000): false, long(70000) + "\n": false,
	} {
		wantSedOK(t, want, line(text))
		wantSedOK(t, want, impl.Sed{Name: "i", Text: text})
		wantSedOK(t, want, impl.Sed{Name: "c", Text: text})
	}
	for text, want := range map[string]bool{
		"": true, "ab": true, "a": false, "abc": false, "aabc": false, "abab": true, "abcc": true, "aa": true, "abca": true, "aaaa": false, "abacde": false, "\n\\ab": true, "\\\\": true, "\n\n": true,
		between(0, 255) + between(0, 255): true, between(0, 255) + long(256): true, long(256) + between(0, 255): false, between(0, 255) + "a" + between(0, 255) + "a": false, long(2000): false, long(70000): false,
	} {
		wantSedOK(t, want, impl.Sed{Name: "y", Text: text})
	}
	for text, want := range map[string]bool{
		"": true, "b": true, "&": true, `\&`: true, `\0`: true, `\1`: true, `\2`: true, `\3`: false, `\9`: false, `\\3`: true, `\\\3`: false, `a\2b\1`: true, `a\2b\3`: false, `\n`: true, `\`: false, `a\`: false, `\\`: true, `\\\`: false, "\n": false, "a\nb": false, "\\\n": true, "a\\\nb": true, "\\\\\n": false, "/": true, "\x00\xff\\\xff": true,
		long(2000): true, long(2001): false, strings.Repeat(`\2`, 1000): true, strings.Repeat(`\2`, 999) + `\3`: false, long(70000): false,
	} {
		wantSedOK(t, want, impl.Sed{Name: "s", Rx: cat(group(1, char('a')), group(2, char('b'))), Text: text})
	}
	for groups := 0; groups <= 9; groups++ {
		var kids []impl.Rx
		for n := range groups {
			kids = append(kids, group(n+1, char('a')))
		}
		for n := 0; n <= 9; n++ {
			wantSedOK(t, n <= groups, impl.Sed{Name: "s", Rx: cat(kids...), Text: `\` + itoa(n)})
		}
	}
}

// Jumps: those of `{` above their own number, all at most how many there are.
func TestSedOKJumps(t *testing.T) {
	for size := 1; size <= 6; size++ {
		for at := range size {
			for jump := -2; jump <= size+2; jump++ {
				for _, name := range []string{"{", "b", "t", "p"} {
					list := make([]impl.Sed, size)
					for i := range list {
						list[i].Name = "n"
					}
					list[at] = impl.Sed{Name: name, Jump: jump}
					want := jump >= 0 && jump <= size
					if name == "{" {
						want = jump > at && jump <= size
					} else if name == "p" {
						want = jump == 0
					}
					wantSedOK(t, want, list...)
				}
			}
		}
	}
	// Blocks that cross each other: what is asked is asked of each alone.
	wantSedOK(t, true, impl.Sed{Name: "{", Jump: 2}, impl.Sed{Name: "{", Jump: 3}, impl.Sed{Name: "p"})
}

func TestSedOKCommands(t *testing.T) {
	for _, size := range []int{0, 1, 59, 60, 61, 100, 4096, 4097, 10000} {
		list := make([]impl.Sed, size)
		for i := range list {
			list[i].Name = "p"
		}
		wantSedOK(t, size <= 60, list...)
		if size > 0 {
			list[size-1].Name = "z"
			wantSedOK(t, false, list...)
		}
	}
}

// Random commands, right ones and such with one or more fields from another one.
func TestSedOKRandom(t *testing.T) {
	r := rand.New(rand.NewSource(71))
	rights := 0
	for range 40000 {
		list := make([]impl.Sed, 1+r.Intn(4))
		for i := range list {
			list[i] = randomCommand(r, len(list))
		}
		got := impl.SedOK(list)
		if got != listRight(list) {
			t.Fatalf("SedOK %t: %s", got, shownList(list))
		}
		if got {
			rights++
		}
	}
	if rights < 4000 || rights > 36000 {
		t.Error("too few of a kind to tell anything:", rights)
	}
}

func randomCommand(r *rand.Rand, all int) impl.Sed {
	names := commandNames()
	c := rightCommand(names[r.Intn(len(names))])
	if takes[c.Name] == "ahead" || takes[c.Name] == "jump" {
		c.Jump = r.Intn(all + 2)
	}
	addresses := []impl.Addr{{}, {Kind: 1, N: 1 + r.Intn(9)}, {Kind: 2}, {Kind: 3, Rx: cat(char('x'))}, {Kind: 1}, {Kind: 2, N: 1}}
	if r.Intn(2) == 0 {
		c.From = addresses[r.Intn(4+r.Intn(3))]
	}
	if r.Intn(3) == 0 {
		c.To = addresses[r.Intn(4)]
	}
	c.Not = r.Intn(4) == 0
	switch other := rightCommand(names[r.Intn(len(names))]); r.Intn(16) {
	case 0:
		c.Text = other.Text
	case 1:
		c.Rx = other.Rx
	case 2:
		c.Jump = other.Jump
	case 3:
		c.Global, c.Count = r.Intn(2) == 0, r.Intn(3)
	case 4:
		c.Name = other.Name
	case 5:
		c.Print = true
	}
	return c
}
