package tests

import (
	"math/rand"
	"regexp"
	"strconv"
	"strings"
	"testing"
	"unicode/utf8"

	"loop.example/g00142/impl"
)

// What stands in a script, as the document says it, a sign for each byte.
var (
	modelAhead  = regexp.MustCompile(`^(?:[ \t\n;]|#[^\n]*)*`)
	modelDigits = regexp.MustCompile(`^[0-9]+`)
	modelComma  = regexp.MustCompile(`^[ \t]*,[ \t]*`)
	modelNot    = regexp.MustCompile(`^[ \t]*(!?)[ \t]*`)
	modelLabel  = regexp.MustCompile(`^[ \t]*([^ ;}\n]*)`)
	modelLine   = regexp.MustCompile(`^[ \t]*(?:\\\n)?([^\n]*)`)
	modelFlag   = regexp.MustCompile(`^(?:[gpwe]|[0-9]+)`)
	modelBehind = regexp.MustCompile(`^[ \t]*`)
)

// modelSed reads a script by expressions; left is what is still to be read.
type modelSed struct {
	text, left string
	ere        bool
	list       []impl.Sed
	open       []int
	labels     map[string]int
	goes       []func() *modelFault
}

func (m *modelSed) at() int { return utf8.RuneCountInString(m.text) - utf8.RuneCountInString(m.left) }

// take goes over what an expression matches here, and tells its last part.
func (m *modelSed) take(e *regexp.Regexp) (string, bool) {
	found := e.FindStringSubmatch(m.left)
	if found == nil {
		return "", false
	}
	m.left = m.left[len(found[0]):]
	return found[len(found)-1], true
}

func (m *modelSed) sign() string {
	_, size := utf8.DecodeRuneInString(m.left)
	sign := m.left[:size]
	m.left = m.left[size:]
	return sign
}

// plain turns signs into the bytes that they stand for.
func plain(text string) string {
	var out []byte
	for _, c := range text {
		out = append(out, byte(c))
	}
	return string(out)
}

var modelTexts = map[string]*regexp.Regexp{}

// delimited is the text up to a sign, nil if it does not come.
func (m *modelSed) delimited(sign string) *string {
	c, _ := utf8.DecodeRuneInString(sign)
	if modelTexts[sign] == nil {
		hex := `\x{` + strconv.FormatInt(int64(c), 16) + `}`
		modelTexts[sign] = regexp.MustCompile(`(?s)^((?:[^` + hex + `\\\n]|\\.)*)` + hex)
	}
	text, there := m.take(modelTexts[sign])
	if !there {
		return nil
	}
	text = plain(escape.ReplaceAllStringFunc(text, func(e string) string {
		if e == `\`+sign {
			return sign
		}
		return e
	}))
	return &text
}

func (m *modelSed) number(digits string, at, most int) (int, *modelFault) {
	n, err := strconv.Atoi(digits)
	if err != nil || len(digits) > 9 || n == 0 || n > most {
		return 0, &modelFault{impl.ErrRange, at}
	}
	return n, nil
}

func (m *modelSed) pattern(sign string) (impl.Rx, *modelFault) {
	at := m.at()
	text := m.delimited(sign)
	if text == nil {
		return impl.Rx{}, &modelFault{impl.ErrSyntax, at}
	}
	tree, code, _ := modelCompile(*text, m.ere)
	if code != 0 {
		return impl.Rx{}, &modelFault{code, at}
	}
	return tree, nil
}

func (m *modelSed) address() (a impl.Addr, fault *modelFault) {
	at := m.at()
	if digits, there := m.take(modelDigits); there {
		a.Kind = 1
		a.N, fault = m.number(digits, at, 999999999)
	} else if strings.HasPrefix(m.left, "$") {
		m.sign()
		a.Kind = 2
	} else if strings.HasPrefix(m.left, "/") {
		a.Kind = 3
		a.Rx, fault = m.pattern(m.sign())
	}
	return a, fault
}

func (m *modelSed) command() *modelFault {
	var c impl.Sed
	var fault *modelFault
	begin := m.at()
	if c.From, fault = m.address(); fault != nil {
		return fault
	}
	if c.From.Kind != 0 {
		if _, there := m.take(modelComma); there {
			if c.To, fault = m.address(); fault != nil {
				return fault
			}
			if c.To.Kind == 0 {
				return &modelFault{impl.ErrSyntax, m.at()}
			}
		}
	}
	not, _ := m.take(modelNot)
	c.Not = not != ""
	name := m.at()
	if m.left == "" {
		return &modelFault{impl.ErrSyntax, name}
	}
	c.Name = m.sign()
	if len(m.list) == 60 {
		return &modelFault{impl.ErrMany, begin}
	}
	what := takes[c.Name]
	choosy := c.Not || c.From.Kind != 0
	switch {
	case strings.Contains("rweRW", c.Name):
		return &modelFault{impl.ErrForbid, name}
	case what == "one" && c.To.Kind != 0, strings.Contains("}:", c.Name) && choosy, c.Name == "}" && len(m.open) == 0, what == "" && c.Name != "}" && c.Name != ":":
		return &modelFault{impl.ErrSyntax, name}
	}
	fault = m.rest(c, what, name)
	if fault == nil && what != "ahead" && what != "line" {
		m.take(modelBehind)
		if m.left != "" && !strings.Contains(";\n}", m.left[:1]) {
			return &modelFault{impl.ErrSyntax, m.at()}
		}
	}
	return fault
}

// rest reads what a command takes, by what its name may have.
func (m *modelSed) rest(c impl.Sed, what string, name int) *modelFault {
	var fault *modelFault
	number := len(m.list)
	switch what {
	case "": // `}` and `:`
		if c.Name == "}" {
			end := len(m.open) - 1
			m.list[m.open[end]].Jump = number
			m.open = m.open[:end]
			return nil
		}
		label, _ := m.take(modelLabel)
		if label == "" {
			return &modelFault{impl.ErrSyntax, name}
		}
		if _, there := m.labels[label]; there {
			return &modelFault{impl.ErrLabel, name}
		}
		m.labels[label] = number
		return nil
	case "ahead":
		m.open = append(m.open, number)
	case "jump":
		label, _ := m.take(modelLabel)
		m.goes = append(m.goes, func() *modelFault {
			to, there := m.labels[label]
			if label == "" {
				to, there = len(m.list), true
			}
			if !there {
				return &modelFault{impl.ErrLabel, name}
			}
			m.list[number].Jump = to
			return nil
		})
	case "line":
		text, _ := m.take(modelLine)
		c.Text = plain(text) + "\n"
	case "replace":
		fault = m.replace(&c)
	case "halves":
		c.Text, fault = m.halves()
	}
	m.list = append(m.list, c)
	return fault
}

func (m *modelSed) replace(c *impl.Sed) *modelFault {
	if m.left == "" || strings.Contains("\\\n", m.left[:1]) {
		return &modelFault{impl.ErrSyntax, m.at()}
	}
	sign := m.sign()
	var fault *modelFault
	if c.Rx, fault = m.pattern(sign); fault != nil {
		return fault
	}
	at := m.at()
	text := m.delimited(sign)
	if text == nil {
		return &modelFault{impl.ErrSyntax, at}
	}
	c.Text = *text
	if !replaceRight(*c) {
		return &modelFault{impl.ErrSyntax, at}
	}
	for {
		was, at := m.left, m.at()
		flag, there := m.take(modelFlag)
		switch {
		case flag == "w" || flag == "e":
			return &modelFault{impl.ErrForbid, at}
		case !there, flag == "g" && c.Global, flag == "p" && c.Print, flag <= "9" && c.Count > 0:
			m.left = was
			return nil
		case flag == "g":
			c.Global = true
		case flag == "p":
			c.Print = true
		default:
			if c.Count, fault = m.number(flag, at, 512); fault != nil {
				return fault
			}
		}
	}
}

var modelEscapes = regexp.MustCompile(`(?s)\\[^n\\]`)

func (m *modelSed) halves() (string, *modelFault) {
	fault := &modelFault{impl.ErrSyntax, m.at()}
	if m.left == "" || strings.Contains("\\\n", m.left[:1]) {
		return "", fault
	}
	sign := m.sign()
	first, second := m.delimited(sign), (*string)(nil)
	if first != nil {
		second = m.delimited(sign)
	}
	if second == nil {
		return "", fault
	}
	texts := []string{*first, *second}
	for i, text := range texts {
		odd := false
		texts[i] = plain(escape.ReplaceAllStringFunc(latin(text), func(e string) string {
			odd = odd || modelEscapes.MatchString(e)
			return map[bool]string{true: "\n", false: `\`}[e == `\n`]
		}))
		if odd {
			return "", fault
		}
	}
	if len(texts[0]) != len(texts[1]) || !halvesRight(texts[0]+texts[1]) {
		return "", fault
	}
	return texts[0] + texts[1], nil
}

func modelParse(text string, ere bool) ([]impl.Sed, int, int) {
	if len(text) > 65536 {
		return nil, impl.ErrLong, 0
	}
	if len(text) > 2000 {
		return nil, impl.ErrSize, 0
	}
	m := modelSed{text: latin(text), left: latin(text), ere: ere, labels: map[string]int{}}
	for m.take(modelAhead); m.left != ""; m.take(modelAhead) {
		if fault := m.command(); fault != nil {
			return nil, fault.code, fault.at
		}
	}
	if len(m.open) > 0 {
		return nil, impl.ErrSyntax, len(text)
	}
	for _, resolve := range m.goes {
		if fault := resolve(); fault != nil {
			return nil, fault.code, fault.at
		}
	}
	return m.list, 0, 0
}

func sameAddr(a, b impl.Addr) bool { return a.Kind == b.Kind && a.N == b.N && sameRx(a.Rx, b.Rx) }

func sameSed(a, b impl.Sed) bool {
	return sameAddr(a.From, b.From) && sameAddr(a.To, b.To) && a.Not == b.Not && a.Name == b.Name && a.Text == b.Text && sameRx(a.Rx, b.Rx) &&
		a.Global == b.Global && a.Print == b.Print && a.Count == b.Count && a.Jump == b.Jump
}

func sameSeds(a, b []impl.Sed) bool {
	if len(a) != len(b) {
		return false
	}
	for i := range a {
		if !sameSed(a[i], b[i]) {
			return false
		}
	}
	return true
}

// wantScriptModel holds ParseSed against the model, and P8 against both.
func wantScriptModel(t *testing.T, text string, ere bool) int {
	t.Helper()
	want, wantCode, wantAt := modelParse(text, ere)
	list, code, at := impl.ParseSed(text, ere)
	if code != wantCode || at != wantAt || !sameSeds(list, want) {
		t.Fatalf("ParseSed(%q, %t): %s %d at %d, want %s %d at %d", text, ere, shownList(list), code, at, shownList(want), wantCode, wantAt)
	}
	if code == impl.OK && (!impl.SedOK(list) || !listRight(list)) {
		t.Fatalf("ParseSed(%q, %t): what was read is not right: %s", text, ere, shownList(list))
	}
	return code
}

// Every script of a few signs.
func TestScriptAllShort(t *testing.T) {
	for signs, most := range map[string]int{
		"1,$!p{};":           5,
		"0/a\\,p":            5,
		"{}:bta; ":           5,
		":b a;\n\t}":         5,
		"ai\\\n x;":          5,
		"s/a\\1gpw":          4,
		"y/an\\\n;":          5,
		"# \n;p}{":           5,
		"qdDgGhHnNpPxsyabt=": 3,
	} {
		for size := 1; size <= most; size++ {
			allOf(signs, make([]byte, 0, size), func(text string) {
				wantScriptModel(t, text, false)
			})
		}
	}
	for head, signs := range map[string]string{
		"s/a/":     `b\/1&` + "\n",
		"s/a/b/":   "gpw102 ;",
		"y/":       `ab\n/`,
		"s/":       `(a)\/1`,
		"/":        `a\/p,`,
		":a;b":     " \ta;}b",
		"{p":       "};p #\n",
		"s,(a),":   `\1,g2` + "\n",
		"a":        " \\\n\tx",
		"1,2":      "!qp{} ",
		"b x;{:x;": "p}:x;t",
	} {
		for size := 1; size <= 5; size++ {
			allOf(signs, make([]byte, 0, size), func(text string) {
				wantScriptModel(t, head+text, true)
			})
		}
	}
}

var (
	scriptPieces = []string{
		"p", "n", "d", "x", "=", "G", "q", "{", "}", "{", "}", ";", ";", "\n", "\n", " ", "\t", "!", "1", "12", "$", "/a/", "/a*b/", `/\(a\)/`, "/(a|b)/", ",", "1,2", "/a/,$", ":a\n", ":b;", ":c}", "b a", "t b", "b", "t", "bc;",
		"a x\n", "i\\\n  y\n", "c", "s/a/b/", "s/a/b/g", "s,(a),\\1,p2", `s/\(a\)/&\1/3`, "s|a|\\||", "s/a/\\\n/", "y/ab/cd/", `y,\,\n\\,abc,`, "#x\n", "N;P;D", "h;H;g",
	}
	oddScriptPieces = []string{
		"0", "1234567890", "1,", "z", "}", "w f", "r", "e", ":", ": ;", "s/a", "s/a/b", "s/[/b/", `s/a/\1/`, "s/a/b/gg", "s/a/b/0", "s/a/b/513", "s/a/b/w", "s", "y", "y/a/bc/", "y/aa/bc/", `y/\a/b/`, "/a", "//", "/[b-a]/", "pp", "p p", "1,2q", "\\", "\r", "b nowhere;", "s\na\nb\n", "#", "/\n/", "\x00", "\xff", "sπaπbπ",
	}
)

// Scripts of pieces that may stand in one, and of a few others.
func TestScriptRandom(t *testing.T) {
	r := rand.New(rand.NewSource(72))
	codes := map[int]int{}
	for range 60000 {
		var b strings.Builder
		odd := r.Intn(3) == 0
		for range 1 + r.Intn(12) {
			if odd && r.Intn(8) == 0 {
				b.WriteString(oddScriptPieces[r.Intn(len(oddScriptPieces))])
			} else {
				b.WriteString(scriptPieces[r.Intn(len(scriptPieces))])
			}
			if r.Intn(2) == 0 {
				b.WriteString([]string{";", "\n", " ;", "\n\n"}[r.Intn(4)])
			}
		}
		codes[wantScriptModel(t, b.String(), r.Intn(2) == 0)]++
	}
	for _, code := range []int{impl.OK, impl.ErrSyntax, impl.ErrRange, impl.ErrForbid, impl.ErrLabel} {
		if codes[code] < 300 {
			t.Error("too few of a kind to tell anything:", codes)
		}
	}
}

// Scripts of a command with all that stands ahead of it, behind as many commands as a script may have, or nearly.
func TestScriptRandomBehindMany(t *testing.T) {
	r := rand.New(rand.NewSource(76))
	heads := []string{"", " ", "\t;", "\n", "#p\n", " ; # 1p\n\t"}
	addresses := []string{"", "", "1", "07 ", "$", "/a/\t", `/\//`, "1,2", "1 , $ ", "/a/,\t9", "$,/a*b/", "0", "1,", "1,0", "1,!", "/a", "//", "$,/[b-a]/", "1234567890"}
	nots := []string{"", "", "!", " !", "! \t", "!!"}
	names := append(commandNames(), "}", ":", "w", "e", "z", ",", "\n", ";", "#", "\\", "\x00", "\xff", "")
	behind := []string{"", "", " ", ";", "\n", "}", " x", "/a/b/", "/ab/ba/;p", "/a/b/gg", "l;1,2p"}
	pick := func(from []string) string { return from[r.Intn(len(from))] }
	codes := map[int]int{}
	for range 20000 {
		full := strings.Repeat("p\n", 59+r.Intn(2)) + pick([]string{"", "", ":a;", "{};", "p;"})
		codes[wantScriptModel(t, full+pick(heads)+pick(addresses)+pick(nots)+pick(names)+pick(behind), r.Intn(2) == 0)]++
	}
	for _, code := range []int{impl.OK, impl.ErrSyntax, impl.ErrRange, impl.ErrForbid, impl.ErrMany} {
		if codes[code] < 100 {
			t.Error("too few of a kind to tell anything:", codes)
		}
	}
}

// Any bytes at all, behind a beginning of each kind.
func TestScriptRandomBytes(t *testing.T) {
	r := rand.New(rand.NewSource(73))
	for range 6000 {
		b := make([]byte, r.Intn(20))
		for i := range b {
			b[i] = byte(r.Intn(256))
		}
		for _, head := range []string{"", "s", "y", "s/a/", "s/a/b/", "/", "1,", ":", "b", "a", "{", "#", "p", "1!"} {
			wantScriptModel(t, head+string(b), r.Intn(2) == 0)
		}
	}
}

// scriptMaker writes commands and, beside them, what they must be read as.
type scriptMaker struct {
	*rand.Rand
	text strings.Builder
	list []impl.Sed
}

func (m *scriptMaker) some(choices ...string) { m.text.WriteString(choices[m.Intn(len(choices))]) }

func (m *scriptMaker) address() impl.Addr {
	switch m.Intn(3) {
	case 0:
		n := 1 + m.Intn(999999999)
		if m.Intn(2) == 0 {
			n = 1 + m.Intn(99)
			m.some("", "0", "000000")
		}
		m.text.WriteString(itoa(n))
		return impl.Addr{Kind: impl.AdLine, N: n}
	case 1:
		m.text.WriteString("$")
		return impl.Addr{Kind: impl.AdLast}
	}
	m.text.WriteString(`/x\/y/`)
	return impl.Addr{Kind: impl.AdMatch, Rx: cat(char('x'), char('/'), char('y'))}
}

func (m *scriptMaker) head(c *impl.Sed) {
	m.some("", " ", "\t", ";", "\n", "#p\n", " ;\n")
	if addresses := m.Intn(3); addresses > 0 {
		c.From = m.address()
		m.some("", " ", "\t ")
		if addresses > 1 && c.Name != "q" {
			m.some(",", " ,", ", ", "\t,\t")
			c.To = m.address()
			m.some("", " ", "\t ")
		}
	}
	if m.Intn(3) == 0 {
		c.Not = true
		m.some("!", "! ", "!\t ")
	}
	m.text.WriteString(c.Name)
}

// delimitedBy writes a text up to a sign, with a `\` ahead of it within.
func (m *scriptMaker) delimitedBy(sign, text string) {
	m.text.WriteString(strings.ReplaceAll(text, sign, `\`+sign) + sign)
}

func (m *scriptMaker) substitute(c *impl.Sed) {
	sign := []string{"/", ",", "|", " ", "#", ";", "}", "%"}[m.Intn(8)]
	m.text.WriteString(sign)
	m.delimitedBy(sign, "a-b")
	c.Rx = cat(char('a'), char('-'), char('b'))
	for range m.Intn(6) {
		c.Text += []string{"x", "&", `\&`, `\\`, `\n`, `\0`, "\\\n", "/", ",", "|", " ", "#", ";", "}", "%"}[m.Intn(15)]
	}
	m.delimitedBy(sign, c.Text)
	for _, flag := range m.Perm(3)[:m.Intn(4)] {
		switch flag {
		case 0:
			c.Global = true
			m.some("g")
		case 1:
			c.Print = true
			m.some("p")
		default:
			c.Count = 1 + m.Intn(512)
			m.some(itoa(c.Count), "00"+itoa(c.Count))
		}
	}
}

func (m *scriptMaker) exchange(c *impl.Sed) {
	sign := []string{"/", ",", "|", " "}[m.Intn(4)]
	m.text.WriteString(sign)
	from, to := "", ""
	for _, i := range m.Perm(6)[:m.Intn(7)] {
		from += "ab/,\\\n"[i : i+1]
		to += "xx/|\\\n"[i : i+1]
	}
	c.Text = from + to
	for _, half := range []string{from, to} {
		m.delimitedBy(sign, strings.NewReplacer(`\`, `\\`, "\n", `\n`).Replace(half))
	}
}

func (m *scriptMaker) command(name string) {
	c := impl.Sed{Name: name}
	m.head(&c)
	switch takes[name] {
	case "line":
		text := []string{"", "x", "x;y}", "x \\", "#"}[m.Intn(5)]
		m.some("", " ", "\t ", "\\\n", " \\\n")
		m.text.WriteString(text + "\n")
		c.Text = text + "\n"
	case "replace":
		m.substitute(&c)
	case "halves":
		m.exchange(&c)
	}
	m.list = append(m.list, c)
	if takes[name] != "line" {
		m.some(";", "\n", " ;", "\t\n", " \t ; ")
	}
}

// What is written is read: commands with all that they take.
func TestScriptWrittenIsRead(t *testing.T) {
	r := rand.New(rand.NewSource(74))
	names := strings.Split("a i c s s s y y q d D g G h H n N p P x =", " ")
	for range 6000 {
		m := scriptMaker{Rand: r}
		for range 1 + r.Intn(12) {
			m.command(names[r.Intn(len(names))])
		}
		for _, ere := range []bool{false, true} {
			if list, code, at := impl.ParseSed(m.text.String(), ere); code != impl.OK || at != 0 || !sameSeds(list, m.list) || !impl.SedOK(list) {
				t.Fatalf("ParseSed(%q, %t): %s %d at %d, want %s", m.text.String(), ere, shownList(list), code, at, shownList(m.list))
			}
		}
	}
}

// Blocks within one another and labels all over: Jumps are counted beside them.
func TestScriptJumpsAreCounted(t *testing.T) {
	r := rand.New(rand.NewSource(75))
	for range 4000 {
		var b strings.Builder
		var list []impl.Sed
		var open []int
		labels, goes := map[string]int{}, map[int]string{}
		for range r.Intn(30) {
			switch label := "l" + itoa(r.Intn(12)); r.Intn(6) {
			case 0:
				b.WriteString("{")
				open = append(open, len(list))
				list = append(list, impl.Sed{Name: "{"})
			case 1:
				if end := len(open) - 1; end >= 0 {
					b.WriteString("};")
					list[open[end]].Jump = len(list)
					open = open[:end]
				}
			case 2:
				if _, there := labels[label]; !there {
					b.WriteString(":" + label + "\n")
					labels[label] = len(list)
				}
			case 3, 4:
				name := []string{"b", "t"}[r.Intn(2)]
				if r.Intn(3) == 0 {
					label = ""
				}
				b.WriteString(name + " " + label + ";")
				goes[len(list)] = label
				list = append(list, impl.Sed{Name: name})
			default:
				b.WriteString("p;")
				list = append(list, impl.Sed{Name: "p"})
			}
		}
		b.WriteString(strings.Repeat("}", len(open)))
		for _, number := range open {
			list[number].Jump = len(list)
		}
		for number, label := range goes {
			to, there := labels[label]
			if label == "" {
				to = len(list)
			} else if !there {
				if !strings.Contains(b.String(), ":"+label+"\n") {
					labels[label] = 0
					text := ":" + label + "\n" + b.String()
					b.Reset()
					b.WriteString(text)
				}
			}
			list[number].Jump = to
		}
		got, code, at := impl.ParseSed(b.String(), false)
		if code != impl.OK || !sameSeds(got, list) || !impl.SedOK(got) {
			t.Fatalf("ParseSed(%q): %s %d at %d, want %s", b.String(), shownList(got), code, at, shownList(list))
		}
	}
}
