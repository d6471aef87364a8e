package tests

import (
	"bytes"
	"math/rand"
	"regexp"
	"strconv"
	"strings"
	"testing"

	"loop.example/g00142/impl"
)

// wordKinds are the words of events that have a number alone.
var wordKinds = []struct {
	word string
	kind int
}{
	{"tick", impl.EvTick}, {"deliver", impl.EvDeliver}, {"drop", impl.EvDrop}, {"double", impl.EvDouble}, {"crash", impl.EvCrash}, {"start", impl.EvStart},
}

var rightNumbers = []string{
	"0", "1", "2", "9", "10", "19", "100", "200", "1000000", "1000001", "123456789012345678", "999999999999999999", "100000000000000000",
	"-1", "-9", "-10", "-100", "-999999999999999999", "-100000000000000000",
}

// wrongNumbers have a byte each, and no blank.
var wrongNumbers = []string{
	"00", "01", "007", "-0", "-00", "-01", "+0", "+1", "--1", "-", "+", "1-", "1a", "a", "a1", "N", "0x1", "1_0", "1e3", "1.0", "1,0", "1;", "#1", "one",
	"1000000000000000000", "-1000000000000000000", "9223372036854775807", "9223372036854775808", "-9223372036854775808", "0000000000000000001",
	strings.Repeat("1", 100), strings.Repeat("0", 19), "1\t", "\t1", "1\r", "1\n", "\n1", "1\x00", "\x00", "\xff", "１", "١", "−1",
}

func shownEvent(e impl.Event) string {
	return itoa(e.Kind) + " of " + itoa(e.N) + " with " + strconv.Quote(string(e.Data))
}

func wantLine(t *testing.T, line string, want impl.Event) {
	t.Helper()
	e, code := impl.ReadLine(line)
	if code != impl.OK || e.Kind != want.Kind || e.N != want.N || !bytes.Equal(e.Data, want.Data) {
		t.Errorf("ReadLine(%.200q): %.300s with code %d, want %.300s", line, shownEvent(e), code, shownEvent(want))
	}
}

func wantLineCode(t *testing.T, line string, want int) {
	t.Helper()
	e, code := impl.ReadLine(line)
	if code != want || e.Kind != 0 || e.N != 0 || e.Data != nil {
		t.Errorf("ReadLine(%.200q): %.300s with code %d, want code %d", line, shownEvent(e), code, want)
	}
}

// wantNoLine holds that lines are no event's.
func wantNoLine(t *testing.T, lines ...string) {
	t.Helper()
	for _, line := range lines {
		wantLineCode(t, line, impl.ErrSyntax)
	}
}

// Each word with each form of a number, with nothing or one blank behind it.
func TestLineNumbers(t *testing.T) {
	for _, w := range wordKinds {
		for _, text := range rightNumbers {
			n, _ := strconv.Atoi(text)
			wantLine(t, w.word+" "+text, impl.Event{Kind: w.kind, N: n})
			wantLine(t, w.word+" "+text+" ", impl.Event{Kind: w.kind, N: n})
		}
		for _, text := range wrongNumbers {
			wantNoLine(t, w.word+" "+text, w.word+" "+text+" ")
		}
	}
}

// Two blanks, none between, blanks ahead, more behind: these are no lines.
func TestLineBlanks(t *testing.T) {
	for _, w := range wordKinds {
		for _, n := range []string{"0", "1", "-1", "200"} {
			line := w.word + " " + n
			wantNoLine(t, w.word, w.word+" ", w.word+"  ", w.word+n, w.word+"  "+n, w.word+"   "+n, w.word+"\t"+n, w.word+"\n"+n, w.word+" \t"+n, w.word+"\u00a0"+n)
			wantNoLine(t, " "+line, "  "+line, "\t"+line, "\n"+line, "#"+line, "# "+line, ";"+line, "\x00"+line, "\ufeff"+line)
			wantNoLine(t, line+"  ", line+"   ", line+"\t", line+" \t", line+"\n", line+" \n", line+"\r", line+"\x00", line+"#", line+" #", line+" x", line+" 0", line+" 0 ", line+"  0", line+";", line+","+n)
			wantNoLine(t, line+"\n"+line, line+" "+line)
		}
	}
}

// Other words, and words in other letters.
func TestLineWords(t *testing.T) {
	for _, w := range append(wordKinds, wordKinds[0]) {
		upper := strings.ToUpper(w.word)
		for _, odd := range []string{upper, upper[:1] + w.word[1:], w.word[:len(w.word)-1], w.word[1:], w.word + "s", w.word + w.word, w.word + ":", "\"" + w.word + "\""} {
			wantNoLine(t, odd, odd+" 0", odd+" 1 ")
		}
	}
	for _, odd := range []string{"", "go", "show", "ok", "error", "file", "propose", "jobs", "JOB", "ob", "jo", "j", "1", "0", "-", "#", "tick,drop", "deliver-", "EvTick"} {
		wantNoLine(t, odd, odd+" ", odd+" 0", odd+" 1 ", odd+" 0 1 1 a 0 p")
	}
	// What a service takes beside events are no events.
	wantNoLine(t, "", " ", "  ", "\n", "\t", "#", "# tick 0", "#tick 0", "show 0", "show 1 ", "show 2", "show 3", "show")
}

// jobLine is a line that proposes.
func jobLine(node, client, seq, file, version, behind string) string {
	return "job " + node + " " + client + " " + seq + " " + file + " " + version + behind
}

const newText = "one\ntwo\nthree\n"

// proposal is the event of a line that proposes such a job.
func proposal(node, client, seq int, file string, version int, script string) impl.Event {
	text := ""
	if version == 0 {
		text = newText
	}
	return proposeOf(node, dataOf(client, seq, file, version, script, text))
}

func TestLineJob(t *testing.T) {
	wantLine(t, "job 0 1 1 a 0 s/o/0/g", proposal(0, 1, 1, "a", 0, "s/o/0/g"))
	wantLine(t, "job 2 1 4 desk 1 s/a/b c/", proposal(2, 1, 4, "desk", 1, "s/a/b c/"))
	// NODE may be any number, whatever peers there are.
	for _, text := range rightNumbers {
		n, _ := strconv.Atoi(text)
		wantLine(t, jobLine(text, "1", "2", "a", "3", " p"), proposal(n, 1, 2, "a", 3, "p"))
	}
	// CLIENT and SEQ are those of a right job, VERSION too.
	for _, n := range []int{1, 2, 9, 10, 127, 128, 999999, 1000000} {
		wantLine(t, jobLine("0", itoa(n), "2", "a", "3", " p"), proposal(0, n, 2, "a", 3, "p"))
		wantLine(t, jobLine("0", "1", itoa(n), "a", "3", " p"), proposal(0, 1, n, "a", 3, "p"))
		wantLine(t, jobLine("0", "1", "2", "a", itoa(n), " p"), proposal(0, 1, 2, "a", n, "p"))
	}
	for _, n := range []int{0, -1, -1000000, 1000001, 999999999999999999, -999999999999999999} {
		wantNoLine(t, jobLine("0", itoa(n), "2", "a", "3", " p"), jobLine("0", "1", itoa(n), "a", "3", " p"))
		if n != 0 {
			wantNoLine(t, jobLine("0", "1", "2", "a", itoa(n), " p"))
		}
	}
	for _, text := range wrongNumbers {
		wantNoLine(t, jobLine(text, "1", "2", "a", "3", " p"), jobLine("0", text, "2", "a", "3", " p"), jobLine("0", "1", text, "a", "3", " p"), jobLine("0", "1", "2", "a", text, " p"), jobLine("0", "1", "2", "a", text, ""))
	}
	// FILE is a word of whatever bytes, if it is not too long; a name or not, it is looked at when the job is done.
	for _, file := range []string{"a", "_", "desk", "A9", "0", "1", "-1", "a-b", "a/b", "#", "\t", "\n", "\x00\xff", "ä", "job", long(39), long(40), strings.Repeat("-", 40)} {
		wantLine(t, jobLine("0", "1", "2", file, "3", " p"), proposal(0, 1, 2, file, 3, "p"))
		wantLine(t, jobLine("0", "1", "2", file, "0", ""), proposal(0, 1, 2, file, 0, ""))
	}
	for _, size := range []int{41, 42, 1000, 65000} {
		wantNoLine(t, jobLine("0", "1", "2", long(size), "3", " p"))
	}
}

// Text is three lines where VERSION is 0, and else empty; Ere and Quiet are not set.
func TestLineJobText(t *testing.T) {
	for _, version := range []int{0, 1, 2, 3, 127, 1000000} {
		for _, behind := range []string{"", " ", " p", " s/a/b/g"} {
			e, code := impl.ReadLine(jobLine("1", "4", "7", "x", itoa(version), behind))
			j, jobCode := impl.ReadJob(e.Data)
			want := impl.Job{Client: 4, Seq: 7, File: "x", Version: version, Script: strings.TrimPrefix(behind, " ")}
			if version == 0 {
				want.Text = "one\ntwo\nthree\n"
			}
			if code != impl.OK || jobCode != impl.OK || e.Kind != 7 || e.N != 1 || j != want {
				t.Errorf("version %d, %q behind: %s with codes %d and %d, want %s", version, behind, shownJob(j), code, jobCode, shownJob(want))
			}
		}
	}
}

// SCRIPT is all behind the blank behind VERSION, whatever it is; it need not be right.
func TestLineJobScript(t *testing.T) {
	for _, script := range []string{"", " ", "  ", "p", " p", "  p", "p ", "p  ", " p ", "s/a/b c/", "s/ / /g", "a b  c", "a x y z ", "\t", "\tp", "p\t", "#", "# x", ";", "0", "1", "-1", "job 0 1 1 a 0 p", "\n", "p\np", "p\n", "\np",
		"\x00\xff", "s/(", "z", "0p", "}", "ä", strings.Repeat(" ", 2000), long(1999), long(2000), strings.Repeat("p;", 1000)} {
		for _, version := range []int{0, 3} {
			wantLine(t, jobLine("0", "1", "2", "a", itoa(version), " "+script), proposal(0, 1, 2, "a", version, script))
		}
	}
	wantLine(t, jobLine("0", "1", "2", "a", "3", ""), proposal(0, 1, 2, "a", 3, ""))
	for _, size := range []int{2001, 2002, 5000, 65000} {
		wantNoLine(t, jobLine("0", "1", "2", "a", "3", " "+long(size)), jobLine("0", "1", "2", "a", "0", " "+strings.Repeat(" ", size)))
	}
	// No more than one blank goes with VERSION, and nothing but a blank.
	wantNoLine(t, jobLine("0", "1", "2", "a", "3", "\tp"), jobLine("0", "1", "2", "a", "3", "\n"), jobLine("0", "1", "2", "a", "3", ";p"), jobLine("0", "1", "2", "a", "3", "p"), jobLine("0", "1", "2", "a", "3", "\r"))
}

// A job's line with each word missing, each blank doubled, and with blanks ahead.
func TestLineJobWords(t *testing.T) {
	words := []string{"job", "0", "1", "2", "a", "3", "p"}
	for i := range 6 {
		ahead, from, behind := strings.Join(words[:i], " "), strings.Join(words[i:], " "), strings.Join(words[i+1:], " ")
		wantNoLine(t, ahead+" "+behind, ahead, ahead+" ", ahead+"  "+from, ahead+"\t"+from)
		if i >= 1 && i <= 3 { // where nothing parts FILE from the word beside it both are one
			wantNoLine(t, ahead+from+" 4 p")
		}
	}
	wantLine(t, "job 0 1 2 a 3", proposal(0, 1, 2, "a", 3, ""))
	wantLine(t, "job 0 1 2 a 3 ", proposal(0, 1, 2, "a", 3, ""))
	wantLine(t, "job 0 1 2 a 3  p", proposal(0, 1, 2, "a", 3, " p"))
	wantNoLine(t, " job 0 1 2 a 3 p", "  job 0 1 2 a 3 p", "\tjob 0 1 2 a 3 p", "#job 0 1 2 a 3 p", "Job 0 1 2 a 3 p", "JOB 0 1 2 a 3 p", "job0 1 2 a 3 p", "jobs 0 1 2 a 3 p")
	// With FILE missing what stands next is FILE, and then VERSION.
	wantLine(t, "job 0 1 2 3 4 p", proposal(0, 1, 2, "3", 4, "p"))
	wantNoLine(t, "job 0 1 2 3 p", "job 0 1 2 3", "job 0 1 2 a", "job 0 1 2 a ", "job 0 1 2", "job 0 1 2 ", "job 0 1", "job 0", "job", "job ", "job  ", "job x", "job 0 1 x")
	wantNoLine(t, "job 0 1 2  ", "job 0 1 2   3 p", "job 0 1 2  a p")
}

// FILE is a word, so it has a byte at least: nothing between two blanks is none,
// though a job without one is right.
func TestLineJobWithoutFile(t *testing.T) {
	for _, version := range []string{"0", "1", "3", "1000000"} {
		for _, behind := range []string{"", " ", "  ", " p", "  p", " s/o/0/g", " a 3 p", " 0 p"} {
			wantNoLine(t, jobLine("0", "1", "2", "", version, behind), jobLine("-1", "1000000", "1000000", "", version, behind), jobLine("0", "1", "2", " ", version, behind))
		}
	}
	if b, code := impl.JobBytes(jobOf(1, 2, "", 3, "p", "")); code != impl.OK {
		t.Errorf("JobBytes without a File: %q with code %d", b, code)
	}
	if j, code := impl.ReadJob([]byte("\x01\x02\x00\x03\x01p\x00\x00")); code != impl.OK || j != jobOf(1, 2, "", 3, "p", "") {
		t.Errorf("ReadJob without a File: %s with code %d", shownJob(j), code)
	}
}

// A line has at most MaxText bytes, whatever it is.
func TestLineSizes(t *testing.T) {
	for _, ahead := range []string{"", "tick 0", "tick 0 ", "job 0 1 2 a 3 ", "#", "show 0", "\n"} {
		for _, size := range []int{65535, 65536} {
			wantLineCode(t, ahead+long(size-len(ahead)), impl.ErrSyntax)
		}
		for _, size := range []int{65537, 65538, 100000} {
			wantLineCode(t, ahead+long(size-len(ahead)), impl.ErrLong)
			wantLineCode(t, ahead+strings.Repeat(" ", size-len(ahead)), impl.ErrLong)
			wantLineCode(t, ahead+strings.Repeat("1", size-len(ahead)), impl.ErrLong)
		}
	}
}

const modelNumberForm = `(0|-?[1-9][0-9]{0,17})`

var (
	modelNumbered  = regexp.MustCompile(`(?s)\A(tick|deliver|drop|double|crash|start) ` + modelNumberForm + ` ?\z`)
	modelProposing = regexp.MustCompile(`(?s)\Ajob ` + modelNumberForm + ` ` + modelNumberForm + ` ` + modelNumberForm + ` ([^ ]{1,40}) ` + modelNumberForm + `(?: (.*))?\z`)
)

// modelEventOf is an event by patterns of the whole line.
func modelEventOf(line string) (impl.Event, int) {
	if m := modelNumbered.FindStringSubmatch(line); m != nil {
		n, _ := strconv.Atoi(m[2])
		kind := 1 + strings.Index("tick   deliverdrop   double crash  start", m[1])/7
		return impl.Event{Kind: kind, N: n}, impl.OK
	}
	m := modelProposing.FindStringSubmatch(line)
	if m == nil {
		return impl.Event{}, impl.ErrSyntax
	}
	var n [5]int
	for i, at := range []int{1, 2, 3, 5} {
		n[i], _ = strconv.Atoi(m[at])
	}
	if min(n[1], n[2]) < 1 || n[3] < 0 || max(n[1], n[2], n[3]) > 1000000 || len(m[4]) > 40 || len(m[6]) > 2000 {
		return impl.Event{}, impl.ErrSyntax
	}
	return proposal(n[0], n[1], n[2], m[4], n[3], m[6]), impl.OK
}

// lineMaker draws lines that are mostly right but for one thing or two.
type lineMaker struct{ *rand.Rand }

func (m lineMaker) one(of ...string) string { return of[m.Intn(len(of))] }

func (m lineMaker) number() string {
	switch m.Intn(12) {
	case 0:
		return m.one(wrongNumbers...)
	case 1:
		return m.one("", " ", "x")
	case 2, 3:
		return m.one(rightNumbers...)
	}
	return itoa(1 + m.Intn(9))
}

func (m lineMaker) blank() string {
	if m.Intn(25) > 0 {
		return " "
	}
	return m.one("", "  ", "\t", "\n", "   ")
}

func (m lineMaker) line() string {
	word := m.one("tick", "deliver", "drop", "double", "crash", "start", "job", "job", "job", "job", "job", "show", "go", "", "#", "Tick")
	var out []string
	switch {
	case word == "job":
		file := m.one("a", "b1", "", "-", "1", long(39), long(40), long(41))
		out = []string{word, m.blank(), m.number(), m.blank(), m.number(), m.blank(), m.number(), m.blank(), file, m.blank(), m.number()}
		if m.Intn(4) > 0 {
			out = append(out, m.blank(), m.one("p", "", "s/a/b c/", " ", "# x", "p\n", long(2000), long(2001)))
		}
	default:
		out = []string{word, m.blank(), m.number(), m.one("", "", "", " ", " ", "  ", " 1", "x")}
	}
	if m.Intn(12) == 0 {
		at := m.Intn(len(out))
		out[at] = m.one("", " ", "0", "x", out[at]+out[at])
	}
	return strings.Join(out, "")
}

func TestLinesAgainstTheModel(t *testing.T) {
	m := lineMaker{rand.New(rand.NewSource(127))}
	met := map[int]int{}
	for range 200000 {
		line := m.line()
		want, code := modelEventOf(line)
		if code != impl.OK {
			wantLineCode(t, line, code)
		} else {
			wantLine(t, line, want)
		}
		met[want.Kind]++
		if t.Failed() {
			return
		}
	}
	for kind := range 8 {
		if met[kind] < 1000 {
			t.Error("events of kind", kind, "were met", met[kind], "times")
		}
	}
}

// Short lines of a few signs, each that there is.
func TestLinesAllShort(t *testing.T) {
	var signs = []string{"tick", "job", " ", "0", "1", "-", "a", ""}
	var extend func(line string, by int)
	extend = func(line string, by int) {
		if by == 0 {
			want, code := modelEventOf(line)
			if code != impl.OK {
				wantLineCode(t, line, code)
			} else {
				wantLine(t, line, want)
			}
			return
		}
		for _, sign := range signs {
			extend(line+sign, by-1)
		}
	}
	extend("", 6)
	extend("job 0 1", 5)
	extend("job 0 1 1 ", 5)
}
