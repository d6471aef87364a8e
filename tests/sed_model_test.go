package tests

import (
	"math/rand"
	"regexp"
	"strings"
	"testing"

	"loop.example/g00142/impl"
)

// metLine is what a command saw when it was looked at.
type metLine struct {
	number int
	last   bool
	space  string
}

// modelRun does a script by other means: its spaces are lists of lines, and where
// a range stands is found anew at each look, from all that its command has met.
type modelRun struct {
	list        []impl.Sed
	text        []string // lines that are still to be read
	quiet       bool
	number      int
	space, hold []string
	flag        bool
	met         map[int][]metLine
	found       map[string]map[*impl.Addr]int
	steps       int
	said, kept  string
	code        int
}

func modelLines(text string) []string {
	var out []string
	for text != "" {
		line, rest, _ := strings.Cut(text, "\n")
		out = append(out, line)
		text = rest
	}
	return out
}

func joined(space []string) string { return strings.Join(space, "\n") }

func (m *modelRun) fail(code int) {
	if m.code == 0 {
		m.code = code
	}
}

func (m *modelRun) say(text string) {
	m.said += text
	if len(m.said) > 8000 {
		m.fail(impl.ErrSize)
	}
}

func (m *modelRun) read() string {
	line := m.text[0]
	m.text = m.text[1:]
	m.number++
	return line
}

// one tells whether an address has a line; a match is sought but once.
func (m *modelRun) one(a *impl.Addr, l metLine) bool {
	switch a.Kind {
	case 1:
		return l.number == a.N
	case 2:
		return l.last
	}
	if len(l.space) > 120 {
		m.fail(impl.ErrSize)
		return false
	}
	if m.found[l.space] == nil {
		m.found[l.space] = map[*impl.Addr]int{}
	}
	if m.found[l.space][a] == 0 {
		spans, _ := impl.Find(a.Rx, l.space, 0)
		m.found[l.space][a] = 1 + len(spans)
	}
	return m.found[l.space][a] > 1
}

// rangeEnd is the place, among the lines that a command met, of the last one of
// the range that begins at a place; behind them all if it is not over.
func (m *modelRun) rangeEnd(to *impl.Addr, lines []metLine, first int) int {
	if to.Kind == 1 && to.N <= lines[first].number || to.Kind == 2 && lines[first].last {
		return first
	}
	for k := first + 1; k < len(lines); k++ {
		if to.Kind == 1 && lines[k].number >= to.N || to.Kind != 1 && m.one(to, lines[k]) {
			return k
		}
	}
	return len(lines)
}

// has tells whether a command's addresses have the line that it met last, and
// whether that is in a range that goes on.
func (m *modelRun) has(at int) (bool, bool) {
	c, lines := &m.list[at], m.met[at]
	newest := len(lines) - 1
	if c.From.Kind == 0 {
		return true, false
	}
	if c.To.Kind == 0 {
		return m.one(&c.From, lines[newest]), false
	}
	for i := 0; i <= newest; i++ {
		if m.one(&c.From, lines[i]) {
			end := m.rangeEnd(&c.To, lines, i)
			if end >= newest {
				return true, end > newest
			}
			i = end
		}
	}
	return false, false
}

var modelFills = regexp.MustCompile(`(?s)\\.|&`)

func modelFill(replacement, text string, spans []int) string {
	part := func(n int) string {
		if spans[2*n] < 0 {
			return ""
		}
		return latin(text[spans[2*n]:spans[2*n+1]])
	}
	return plain(modelFills.ReplaceAllStringFunc(latin(replacement), func(e string) string {
		if e == "&" {
			return part(0)
		}
		e = e[1:]
		if e == "n" {
			return "\n"
		}
		if n := strings.Index("0123456789", e); n >= 0 {
			return part(n)
		}
		return e
	}))
}

// modelReplace is what an `s` makes of a text that is not too long, and how many
// matches it replaces.
func modelReplace(c impl.Sed, text string) (string, int) {
	all, _ := impl.MatchAll(c.Rx, text)
	out, behind, count := "", 0, 0
	for i, spans := range all {
		number := i + 1
		if number == c.Count || number == 1 && c.Count == 0 || c.Global && number > c.Count {
			out += text[behind:spans[0]] + modelFill(c.Text, text, spans)
			behind = spans[1]
			count++
		}
	}
	return out + text[behind:], count
}

// end says what is due at a cycle's end.
func (m *modelRun) end(pattern bool) {
	if pattern && !m.quiet {
		m.say(joined(m.space) + "\n")
	}
	m.say(m.kept)
	m.kept = ""
}

// command does one command; it tells the next one's number and, in a word, what
// else comes of it.
func (m *modelRun) command(at int, goesOn bool) (int, string) {
	c := m.list[at]
	switch c.Name {
	case "b":
		return c.Jump, ""
	case "t":
		if m.flag {
			m.flag = false
			return c.Jump, ""
		}
	case "a":
		m.kept += c.Text
		if len(m.kept) > 8000 {
			m.fail(impl.ErrSize)
		}
	case "i":
		m.say(c.Text)
	case "c":
		if !goesOn {
			m.say(c.Text)
		}
		return 0, "drop"
	case "d":
		return 0, "drop"
	case "D":
		if m.space = m.space[1:]; len(m.space) > 0 {
			return 0, "again"
		}
		return 0, "drop"
	case "n", "N":
		if len(m.text) == 0 {
			return 0, "quit"
		}
		m.end(c.Name == "n")
		if c.Name == "n" {
			m.space = nil
		}
		m.space = append(m.space, m.read())
	case "q":
		return 0, "quit"
	case "=":
		m.say(itoa(m.number) + "\n")
	case "p":
		m.say(joined(m.space) + "\n")
	case "P":
		m.say(m.space[0] + "\n")
	default:
		m.change(c)
	}
	return at + 1, ""
}

func (m *modelRun) change(c impl.Sed) {
	switch c.Name {
	case "g":
		m.space = append([]string{}, m.hold...)
	case "G":
		m.space = append(m.space, m.hold...)
	case "h":
		m.hold = append([]string{}, m.space...)
	case "H":
		m.hold = append(m.hold, m.space...)
	case "x":
		m.space, m.hold = m.hold, m.space
	case "y":
		var out strings.Builder
		half := len(c.Text) / 2
		for _, b := range []byte(joined(m.space)) {
			if k := strings.Index(c.Text[:half], string([]byte{b})); k >= 0 {
				b = c.Text[half+k]
			}
			out.WriteByte(b)
		}
		m.space = strings.Split(out.String(), "\n")
	case "s":
		text := joined(m.space)
		if len(text) > 120 {
			m.fail(impl.ErrSize)
			return
		}
		text, count := modelReplace(c, text)
		m.space = strings.Split(text, "\n")
		m.flag = m.flag || count > 0
		if count > 0 && c.Print && len(text) <= 1000 {
			m.say(text + "\n")
		}
	}
}

// commands does the script on one cycle, and tells how that ends.
func (m *modelRun) commands() string {
	for at := 0; at < len(m.list); {
		if m.steps++; m.steps > 2000 {
			m.fail(impl.ErrSteps)
			return ""
		}
		c := m.list[at]
		m.met[at] = append(m.met[at], metLine{m.number, len(m.text) == 0, joined(m.space)})
		in, goesOn := m.has(at)
		if m.code != 0 {
			return ""
		}
		if in == c.Not {
			at++
			if c.Name == "{" {
				at = c.Jump
			}
			continue
		}
		next, word := m.command(at, goesOn)
		if len(joined(m.space)) > 1000 || len(joined(m.hold)) > 1000 {
			m.fail(impl.ErrSize)
		}
		if word != "" || m.code != 0 {
			return word
		}
		at = next
	}
	return ""
}

// modelSaid is RunSed of a right list and of texts that are not too long.
func modelSaid(list []impl.Sed, text string, quiet bool) (string, int) {
	m := modelRun{list: list, text: modelLines(text), quiet: quiet, hold: []string{""}, met: map[int][]metLine{}, found: map[string]map[*impl.Addr]int{}}
	word := ""
	for m.code == 0 && word != "quit" && (word == "again" || len(m.text) > 0) {
		if word != "again" {
			m.flag = false
			m.space = []string{m.read()}
			if len(m.space[0]) > 1000 {
				return "", impl.ErrSize
			}
		}
		if word = m.commands(); m.code == 0 {
			m.end(word == "" || word == "quit")
		}
	}
	if m.code != 0 {
		return "", m.code
	}
	return m.said, 0
}

// wantRunModel holds RunSed against the model, and tells the code.
func wantRunModel(t *testing.T, list []impl.Sed, text string, quiet bool) int {
	t.Helper()
	want, wantCode := modelSaid(list, text, quiet)
	said, code := impl.RunSed(list, text, quiet)
	if said != want || code != wantCode {
		t.Fatalf("RunSed(%s, %q, %t): %q with code %d, want %q with code %d", shownList(list), text, quiet, said, code, want, wantCode)
	}
	return code
}

// Every script of up to four commands that take nothing, over texts of a few lines.
func TestRunAllShort(t *testing.T) {
	texts := []string{"", "a", "a\n", "\n", "a\nb\n", "a\nb\nc", "\n\nc\n\n"}
	for size := 1; size <= 4; size++ {
		allOf("dDgGhHnNpPxq=", make([]byte, 0, size), func(names string) {
			list := make([]impl.Sed, len(names))
			for i := range names {
				list[i].Name = names[i : i+1]
			}
			for i, text := range texts {
				wantRunModel(t, list, text, false)
				if i%2 == len(names)%2 {
					wantRunModel(t, list, text, true)
				}
			}
		})
	}
}

// Every pair of addresses of a few kinds, with and without Not, at each name.
func TestRunEachPairOfAddresses(t *testing.T) {
	var addresses []impl.Addr
	for _, n := range []int{1, 2, 3, 4, 9} {
		addresses = append(addresses, impl.Addr{Kind: impl.AdLine, N: n})
	}
	addresses = append(addresses, impl.Addr{Kind: impl.AdLast})
	for _, c := range "abx" {
		addresses = append(addresses, impl.Addr{Kind: impl.AdMatch, Rx: cat(char(byte(c)))})
	}
	texts := []string{"", "a\n", "a\nb\nc\nd\n", "b\na\nb\na\nb", "x\nx\nx\n", "\nab\n\nba\nab\n"}
	for _, name := range commandNames() {
		for _, from := range append(addresses, impl.Addr{}) {
			for _, to := range append(addresses, impl.Addr{}) {
				c := rightCommand(name)
				c.From, c.To = from, to
				for range 2 {
					c.Not = !c.Not
					list := []impl.Sed{c, {Name: "="}}
					if name == "b" || name == "t" || name == "{" {
						list[0].Jump = 2
					}
					if !impl.SedOK(list) {
						continue
					}
					for _, text := range texts {
						wantRunModel(t, list, text, false)
					}
				}
			}
		}
	}
}

// runMaker writes scripts of all commands, with heads of all kinds.
type runMaker struct {
	*rand.Rand
	strings.Builder
	depth int
}

func (m *runMaker) pick(from ...string) string { return from[m.Intn(len(from))] }

func (m *runMaker) address() string {
	return m.pick("1", "2", "3", "4", "9", "$", "/a/", "/b/", "/^$/", "/b$/", `/\n/`, "/x/", "/a*b/")
}

func (m *runMaker) head() string {
	head := m.pick("", m.address(), m.address()+","+m.address())
	return head + m.pick("", "", "", "!")
}

func (m *runMaker) command(back bool) {
	head := m.head()
	switch m.Intn(14) {
	case 0:
		m.WriteString(head + "{\n")
		m.depth++
	case 1:
		if m.depth > 0 {
			m.WriteString("}\n")
			m.depth--
		}
	case 2:
		m.WriteString(head + m.pick("b", "b e", "t", "t e") + "\n")
	case 3:
		if back {
			m.WriteString(head + m.pick("b s", "t s", "t s") + "\n")
		}
	case 4, 5:
		m.WriteString(head + m.pick("a A", "i I", "c C", "a\\\n BB", "c", "a") + "\n")
	case 6, 7:
		m.WriteString(head + "s/" + m.pick("a/b", "b/&&", `\n/+`, "a*/x", "x*/-", `\(a\)\(b\)*/\2[\1]\0`, `[ab]$/\n&`, "^/a\\\nb", "./", `$/\&\\`, "a*b/") + "/" + m.pick("", "", "g", "p", "2", "2g", "3p", "gp") + "\n")
	case 8:
		m.WriteString(head + m.pick(`y/ab\n/ba+/`, `y/x/\n/`, "y/abx/aaa/", "y///") + "\n")
	case 9:
		if !strings.Contains(head, ",") {
			m.WriteString(head + "q\n")
		}
	default:
		m.WriteString(head + m.pick("d", "D", "g", "G", "h", "H", "n", "N", "p", "P", "x", "=") + "\n")
	}
}

func (m *runMaker) script(size int, back bool) string {
	m.WriteString(":s\n")
	for range size {
		m.command(back)
	}
	m.WriteString(strings.Repeat("}\n", m.depth) + ":e\n")
	if m.Intn(2) == 0 {
		m.WriteString(m.head() + m.pick("p", "=", "P", "G", "x", "D") + "\n")
	}
	return m.String()
}

func randomLines(r *rand.Rand, signs string, lines, size int) string {
	var b strings.Builder
	for range r.Intn(lines) {
		b.WriteString(randomText(r, signs, r.Intn(size)) + "\n")
	}
	if r.Intn(4) == 0 {
		b.WriteString(randomText(r, signs, r.Intn(size)))
	}
	return b.String()
}

// Many scripts over many texts; the second time with jumps back.
func TestRunRandom(t *testing.T) {
	r := rand.New(rand.NewSource(81))
	for _, back := range []bool{false, true} {
		codes := map[int]int{}
		for range map[bool]int{false: 40000, true: 12000}[back] {
			m := runMaker{Rand: r}
			script, text := m.script(1+r.Intn(8), back), randomLines(r, "aabbx", 7, 4)
			list, code, at := impl.ParseSed(script, false)
			if code != impl.OK {
				t.Fatalf("ParseSed(%q): code %d at %d", script, code, at)
			}
			codes[wantRunModel(t, list, text, r.Intn(3) == 0)]++
		}
		if codes[impl.OK] < 9000 || back && (codes[impl.ErrSteps] < 100 || codes[impl.ErrSize] < 20) {
			t.Error("too few of a kind to tell anything:", codes)
		}
	}
}

// Lists that no script makes: jumps and blocks anywhere, also across one another.
func TestRunRandomLists(t *testing.T) {
	r := rand.New(rand.NewSource(82))
	tried := 0
	for range 20000 {
		list := make([]impl.Sed, 1+r.Intn(6))
		for i := range list {
			list[i] = randomCommand(r, len(list))
		}
		if !impl.SedOK(list) {
			continue
		}
		tried++
		wantRunModel(t, list, randomLines(r, "ax", 6, 4), r.Intn(2) == 0)
	}
	if tried < 2000 {
		t.Error("too few lists to tell anything:", tried)
	}
}

// Lines near MaxLine and MaxBuf, so that all limits are met, one ahead of another.
func TestRunRandomLong(t *testing.T) {
	r := rand.New(rand.NewSource(83))
	sizes := []int{0, 1, 59, 60, 119, 120, 121, 498, 499, 500, 501, 879, 880, 998, 999, 1000, 1001}
	codes := map[int]int{}
	for range 20000 {
		m := runMaker{Rand: r}
		list, code, _ := impl.ParseSed(m.script(1+r.Intn(6), r.Intn(4) == 0), false)
		if code != impl.OK {
			t.Fatal("ParseSed: code", code)
		}
		var text strings.Builder
		for range r.Intn(12) {
			text.WriteString(strings.Repeat(m.pick("a", "b", "xx"), sizes[r.Intn(1+r.Intn(len(sizes)))]) + "\n")
		}
		codes[wantRunModel(t, list, text.String(), r.Intn(2) == 0)]++
	}
	if codes[impl.OK] < 2000 || codes[impl.ErrSize] < 2000 || codes[impl.ErrSteps] < 10 {
		t.Error("too few of a kind to tell anything:", codes)
	}
}
