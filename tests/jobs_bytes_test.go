package tests

import (
	"bytes"
	"encoding/binary"
	"math/rand"
	"slices"
	"strings"
	"testing"

	"loop.example/g00142/impl"
)

func textBytes(text string) []byte { return append(number(len(text)), text...) }

// bytesOfJob and bytesOfState tell what is not right, too, as long as no number is below 0.
func bytesOfJob(j impl.Job) []byte {
	last := byte(0)
	if j.Ere {
		last++
	}
	if j.Quiet {
		last += 2
	}
	return slices.Concat(number(j.Client), number(j.Seq), textBytes(j.File), number(j.Version), textBytes(j.Script), textBytes(j.Text), []byte{last})
}

func bytesOfState(s impl.State) []byte {
	all := number(len(s.Files))
	for _, f := range s.Files {
		all = slices.Concat(all, textBytes(f.Name), number(f.Version), textBytes(f.Text))
	}
	all = append(all, number(len(s.Sessions))...)
	for _, x := range s.Sessions {
		all = slices.Concat(all, number(x.Client), number(x.Seq), number(x.Reply.Code), number(x.Reply.Version), textBytes(x.Reply.Sha))
	}
	return all
}

// modelBytes are read by the library's numbers; what is read is held against the
// bytes that it makes.
type modelBytes struct {
	*bytes.Reader
	wrong bool
}

func (m *modelBytes) number() int {
	n, err := binary.ReadUvarint(m)
	if err != nil || n > greatest {
		m.wrong = true
		return 0
	}
	return int(n)
}

func (m *modelBytes) text() string {
	n := m.number()
	if n > m.Len() {
		m.wrong = true
		return ""
	}
	text := make([]byte, n)
	m.Read(text)
	return string(text)
}

func modelReadJob(b []byte) (impl.Job, int) {
	m := modelBytes{Reader: bytes.NewReader(b)}
	j := impl.Job{Client: m.number(), Seq: m.number(), File: m.text(), Version: m.number(), Script: m.text(), Text: m.text()}
	last, err := m.ReadByte()
	j.Ere, j.Quiet = last == 1 || last == 3, last == 2 || last == 3
	if err != nil || m.wrong || !bytes.Equal(bytesOfJob(j), b) {
		return impl.Job{}, impl.ErrForm
	}
	if min(j.Client, j.Seq) < 1 || max(j.Client, j.Seq, j.Version) > 1000000 || len(j.File) > 40 || max(len(j.Script), len(j.Text)) > 2000 {
		return impl.Job{}, impl.ErrBad
	}
	return j, impl.OK
}

func modelReadState(b []byte) (impl.State, int) {
	m := modelBytes{Reader: bytes.NewReader(b)}
	var s impl.State
	for n := m.number(); len(s.Files) < n && !m.wrong; {
		s.Files = append(s.Files, impl.File{Name: m.text(), Version: m.number(), Text: m.text()})
	}
	for n := m.number(); len(s.Sessions) < n && !m.wrong; {
		s.Sessions = append(s.Sessions, impl.Session{Client: m.number(), Seq: m.number(), Reply: impl.Reply{Code: m.number(), Version: m.number(), Sha: m.text()}})
	}
	if m.wrong || !bytes.Equal(bytesOfState(s), b) {
		return impl.State{}, impl.ErrForm
	}
	if !impl.StateOK(s) {
		return impl.State{}, impl.ErrBad
	}
	return s, impl.OK
}

// wantReadJob and wantReadState hold what is read against the model, and answer its code.
func wantReadJob(t *testing.T, b []byte) int {
	t.Helper()
	want, wantCode := modelReadJob(b)
	if got, code := impl.ReadJob(b); code != wantCode || got != want {
		t.Fatalf("ReadJob(%.200q): %.200s with code %d, want %.200s with code %d", b, shownJob(got), code, shownJob(want), wantCode)
	}
	return wantCode
}

func wantReadState(t *testing.T, b []byte) int {
	t.Helper()
	want, wantCode := modelReadState(b)
	if got, code := impl.ReadState(b); code != wantCode || !sameState(got, want) {
		t.Fatalf("ReadState(%.200q): %.200s with code %d, want %.200s with code %d", b, shownState(got), code, shownState(want), wantCode)
	}
	return wantCode
}

func wantJobForm(t *testing.T, b []byte, want int) {
	t.Helper()
	if j, code := impl.ReadJob(b); code != want || j != (impl.Job{}) {
		t.Errorf("ReadJob(%.200q): %.200s with code %d, want code %d", b, shownJob(j), code, want)
	}
}

func wantStateForm(t *testing.T, b []byte, want int) {
	t.Helper()
	if s, code := impl.ReadState(b); code != want || !isZeroState(s) {
		t.Errorf("ReadState(%.200q): %.200s with code %d, want code %d", b, shownState(s), code, want)
	}
}

// The bytes themselves, written out.
func TestJobBytesWrittenOut(t *testing.T) {
	for _, c := range []struct {
		job  impl.Job
		want string
	}{
		{jobOf(1, 2, "a", 3, "p", ""), "\x01\x02\x01a\x03\x01p\x00\x00"},
		{impl.Job{Client: 1, Seq: 2, File: "a", Version: 3, Script: "p", Ere: true}, "\x01\x02\x01a\x03\x01p\x00\x01"},
		{impl.Job{Client: 1, Seq: 2, File: "a", Version: 3, Script: "p", Quiet: true}, "\x01\x02\x01a\x03\x01p\x00\x02"},
		{impl.Job{Client: 1, Seq: 2, File: "a", Version: 3, Script: "p", Ere: true, Quiet: true}, "\x01\x02\x01a\x03\x01p\x00\x03"},
		{jobOf(1, 1, "", 0, "", ""), "\x01\x01\x00\x00\x00\x00\x00"},
		{jobOf(127, 128, "f-", 300, "\n", "\x00\xff"), "\x7f\x80\x01\x02f-\xac\x02\x01\n\x02\x00\xff\x00"},
		{jobOf(1000000, 1, "", 1000000, long(128), ""), "\xc0\x84\x3d\x01\x00\xc0\x84\x3d\x80\x01" + long(128) + "\x00\x00"},
	} {
		if b, code := impl.JobBytes(c.job); code != impl.OK || string(b) != c.want {
			t.Errorf("JobBytes(%v): %q with code %d, want %q", c.job, b, code, c.want)
		}
		if j, code := impl.ReadJob([]byte(c.want)); code != impl.OK || j != c.job {
			t.Errorf("ReadJob(%q): %v with code %d, want %v", c.want, j, code, c.job)
		}
	}
	for _, c := range []struct {
		state impl.State
		want  string
	}{
		{impl.State{}, "\x00\x00"},
		{stateOf([]impl.File{fileOf("a", 2, "x\n")}), "\x01\x01a\x02\x02x\n\x00"},
		{stateOf(nil, sessionOf(3, 4, failed(impl.ErrName))), "\x00\x01\x03\x04\x09\x00\x00"},
		{stateOf([]impl.File{fileOf("b", 1000000, ""), fileOf("a", 1, "y")}, sessionOf(200, 1, done(7, "x")), sessionOf(1, 300, impl.Reply{})), "\x02\x01b\xc0\x84\x3d\x00\x01a\x01\x01y\x02\xc8\x01\x01\x00\x07\x40" + keyOf("x") + "\x01\xac\x02\x00\x00\x00"},
	} {
		if b, code := impl.StateBytes(c.state); code != impl.OK || string(b) != c.want {
			t.Errorf("StateBytes(%s): %q with code %d, want %q", shownState(c.state), b, code, c.want)
		}
		if s, code := impl.ReadState([]byte(c.want)); code != impl.OK || !sameState(s, c.state) {
			t.Errorf("ReadState(%q): %s with code %d, want %s", c.want, shownState(s), code, shownState(c.state))
		}
	}
}

// What is right has bytes that are read back; what is not has none, and bytes
// that would be its own are read as not right.
func TestJobBytesReadBack(t *testing.T) {
	for _, j := range rightJobs() {
		b, code := impl.JobBytes(j)
		if code != impl.OK || !bytes.Equal(b, bytesOfJob(j)) {
			t.Errorf("JobBytes(%.200s): %d bytes with code %d", shownJob(j), len(b), code)
		}
		if again, code := impl.ReadJob(b); code != impl.OK || again != j {
			t.Errorf("ReadJob of the bytes of %.200s: %.200s with code %d", shownJob(j), shownJob(again), code)
		}
	}
	for _, j := range wrongJobs() {
		if b, code := impl.JobBytes(j); code != impl.ErrBad || b != nil {
			t.Errorf("JobBytes(%.200s): %d bytes with code %d", shownJob(j), len(b), code)
		}
		if b := bytesOfJob(j); len(b) <= impl.MaxText && min(j.Client, j.Seq, j.Version) >= 0 {
			wantJobForm(t, b, impl.ErrBad)
		}
	}
}

func TestStateBytesReadBack(t *testing.T) {
	for _, s := range rightStates() {
		b, code := impl.StateBytes(s)
		if code != impl.OK || !bytes.Equal(b, bytesOfState(s)) {
			t.Errorf("StateBytes(%.200s): %d bytes with code %d", shownState(s), len(b), code)
		}
		if again, code := impl.ReadState(b); code != impl.OK || !sameState(again, s) {
			t.Errorf("ReadState of the bytes of %.200s: %.200s with code %d", shownState(s), shownState(again), code)
		}
	}
	read := 0
	for _, s := range wrongStates() {
		if b, code := impl.StateBytes(s); code != impl.ErrBad || b != nil {
			t.Errorf("StateBytes(%.200s): %d bytes with code %d", shownState(s), len(b), code)
		}
		if b := bytesOfState(s); len(b) <= impl.MaxText && !hasNegative(s) {
			wantStateForm(t, b, impl.ErrBad)
			read++
		}
	}
	if read < 1000 {
		t.Error("too few states that are not right were read:", read)
	}
}

func hasNegative(s impl.State) bool {
	for _, f := range s.Files {
		if f.Version < 0 {
			return true
		}
	}
	for _, x := range s.Sessions {
		if min(x.Client, x.Seq, x.Reply.Code, x.Reply.Version) < 0 {
			return true
		}
	}
	return false
}

// byteJobs and byteStates are small ones whose bytes are changed one by one.
func byteJobs() []impl.Job {
	return []impl.Job{jobOf(1, 1, "", 0, "", ""), {Client: 1, Seq: 2, File: "a", Version: 3, Script: "p", Text: "x\ny\n", Ere: true}, {Client: 1000000, Seq: 128, File: long(40), Version: 300, Script: "s/a/b/;p", Text: long(130), Quiet: true}}
}

func byteStates() []impl.State {
	return []impl.State{{}, stateOf(manyFiles(1)), stateOf(nil, sessionOf(1, 2, failed(3))), stateOf([]impl.File{fileOf("a", 1, "x\n"), fileOf("b", 130, ""), fileOf("c", 3, long(5))}, sessionOf(1, 5, done(1, "x\n")), sessionOf(2, 130, failed(impl.ErrForm)), sessionOf(130, 1, done(1000000, "")), sessionOf(4, 1, impl.Reply{}))}
}

// Each byte changed to each other one, taken out, and put in.
func TestJobBytesChanged(t *testing.T) {
	codes := make([]int, 16)
	for _, j := range byteJobs() {
		b := bytesOfJob(j)
		for i := range b {
			for c := range 256 {
				changed := slices.Clone(b)
				changed[i] = byte(c)
				codes[wantReadJob(t, changed)]++
				codes[wantReadJob(t, slices.Insert(slices.Clone(b), i, byte(c)))]++
			}
			codes[wantReadJob(t, slices.Delete(slices.Clone(b), i, i+1))]++
		}
	}
	if codes[impl.OK] < 1000 || codes[impl.ErrForm] < 1000 || codes[impl.ErrBad] < 100 {
		t.Error("too few of a code:", codes)
	}
}

func TestStateBytesChanged(t *testing.T) {
	codes := make([]int, 16)
	for _, s := range byteStates() {
		b := bytesOfState(s)
		for i := range b {
			for c := range 256 {
				changed := slices.Clone(b)
				changed[i] = byte(c)
				codes[wantReadState(t, changed)]++
				codes[wantReadState(t, slices.Insert(slices.Clone(b), i, byte(c)))]++
			}
			codes[wantReadState(t, slices.Delete(slices.Clone(b), i, i+1))]++
		}
	}
	if codes[impl.OK] < 1000 || codes[impl.ErrForm] < 1000 || codes[impl.ErrBad] < 1000 {
		t.Error("too few of a code:", codes)
	}
}

// Bytes that are cut off, or have one behind them, are none's.
func TestBytesCutOff(t *testing.T) {
	for _, j := range append(byteJobs(), rightJobs()...) {
		b := bytesOfJob(j)
		for end := range b {
			wantJobForm(t, b[:end], impl.ErrForm)
		}
		for c := range 256 {
			wantJobForm(t, append(slices.Clone(b), byte(c)), impl.ErrForm)
		}
		wantJobForm(t, slices.Concat(b, b), impl.ErrForm)
	}
	for _, s := range append(byteStates(), stateOf(manyFiles(20), manySessions(20)...)) {
		b := bytesOfState(s)
		for end := range b {
			wantStateForm(t, b[:end], impl.ErrForm)
		}
		for c := range 256 {
			wantStateForm(t, append(slices.Clone(b), byte(c)), impl.ErrForm)
		}
		wantStateForm(t, slices.Concat(b, b), impl.ErrForm)
	}
}

// The last byte of a job is at most 3; what is not right behind that is not looked at.
func TestJobLastByte(t *testing.T) {
	for _, j := range append(byteJobs(), impl.Job{}, jobOf(1, 1, long(41), 0, "", "")) {
		b := bytesOfJob(j)
		for c := 4; c < 256; c++ {
			b[len(b)-1] = byte(c)
			wantJobForm(t, b, impl.ErrForm)
		}
	}
}

// numberForms are bytes where a number is due that is none: it ends too early, or
// has more bytes than it needs, or more than nine.
var numberForms = []string{"\x80", "\x80\x00", "\x81\x00", "\x81\x80\x00", "\xff\xff\xff\xff\xff\xff\xff\xff\xff\x01", "\x81\x80\x80\x80\x80\x80\x80\x80\x80\x00", "\xff\xff\xff\xff\xff\xff\xff\xff\xff", "\x80\x80\x80\x80\x80\x80\x80\x80\x80\x80"}

// greatNumbers are numbers that no text and no list has here.
var greatNumbers = []int{1 << 20, 1 << 31, 1 << 32, 1 << 62, greatest - 1, greatest}

// A number with more bytes than it needs, at each place where one stands, is none.
func TestBytesNumbers(t *testing.T) {
	// The pieces of a job and of a state; the numbers among them are those at even places.
	job := []string{"\x01", "", "\x02", "", "\x01", "a", "\x03", "", "\x01", "p", "\x02", "xy", "", "\x00"}
	state := []string{"\x01", "", "\x01", "a", "\x02", "", "\x01", "x", "\x01", "", "\x01", "", "\x02", "", "\x00", "", "\x03", "", "\x40", keyOf("x")}
	if code := wantReadJob(t, []byte(strings.Join(job, ""))); code != impl.OK {
		t.Fatal(code)
	}
	if code := wantReadState(t, []byte(strings.Join(state, ""))); code != impl.OK {
		t.Fatal(code)
	}
	for i := 0; i < len(job)-2; i += 2 {
		for _, odd := range append(numberForms, string([]byte{job[i][0] | 128, 0})) {
			pieces := slices.Clone(job)
			pieces[i] = odd
			wantJobForm(t, []byte(strings.Join(pieces, "")), impl.ErrForm)
		}
	}
	for i := 0; i < len(state); i += 2 {
		for _, odd := range append(numberForms, string([]byte{state[i][0] | 128, 0})) {
			pieces := slices.Clone(state)
			pieces[i] = odd
			wantStateForm(t, []byte(strings.Join(pieces, "")), impl.ErrForm)
		}
	}
	// Numbers that are right ones of nine bytes, but of nothing that is right.
	for _, great := range greatNumbers {
		for _, i := range []int{0, 2, 6} {
			pieces := slices.Clone(job)
			pieces[i] = string(number(great))
			wantJobForm(t, []byte(strings.Join(pieces, "")), impl.ErrBad)
		}
		for _, i := range []int{4, 10, 12, 14, 16} {
			pieces := slices.Clone(state)
			pieces[i] = string(number(great))
			wantStateForm(t, []byte(strings.Join(pieces, "")), impl.ErrBad)
		}
		// Texts longer than what is left, and lists likewise.
		for _, i := range []int{4, 8, 10} {
			pieces := slices.Clone(job)
			pieces[i] = string(number(great))
			wantJobForm(t, []byte(strings.Join(pieces, "")), impl.ErrForm)
		}
		for _, i := range []int{0, 2, 6, 8, 18} {
			pieces := slices.Clone(state)
			pieces[i] = string(number(great))
			wantStateForm(t, []byte(strings.Join(pieces, "")), impl.ErrForm)
		}
	}
}

// Texts that end just where the bytes end, and one byte behind them.
func TestBytesTextsLongerThanLeft(t *testing.T) {
	wantJobForm(t, []byte("\x01\x01\x05abcd"), impl.ErrForm)
	wantJobForm(t, []byte("\x01\x01\x04abcd"), impl.ErrForm)
	wantJobForm(t, []byte("\x01\x01\x01a\x00\x00\x02xy"), impl.ErrForm)
	wantJobForm(t, []byte("\x01\x01\x01a\x00\x00\x03xy\x00"), impl.ErrForm)
	wantJobForm(t, []byte("\x01\x01\x01a\x00\x00\x04xy\x00"), impl.ErrForm)
	if j, code := impl.ReadJob([]byte("\x01\x01\x01a\x00\x00\x02xy\x00")); code != impl.OK || j.Text != "xy" {
		t.Error("ReadJob", j, code)
	}
	wantStateForm(t, []byte("\x00\x01\x01\x01\x00\x01\x41"+keyOf("")), impl.ErrForm)
	wantStateForm(t, []byte("\x00\x01\x01\x01\x00\x01\x3f"+keyOf("")), impl.ErrForm)
	wantStateForm(t, []byte("\x01\x01a\x01\x02x"), impl.ErrForm)
	wantStateForm(t, []byte("\x01\x01a\x01\x02x\x00"), impl.ErrForm)
	// More files or sessions than there are bytes for.
	wantStateForm(t, []byte("\x02\x01a\x01\x01x\x00"), impl.ErrForm)
	wantStateForm(t, []byte("\x00\x02\x01\x01\x01\x00\x00"), impl.ErrForm)
	wantStateForm(t, []byte("\x00\x00\x00"), impl.ErrForm)
	wantStateForm(t, []byte("\x01"), impl.ErrForm)
	for _, b := range [][]byte{nil, {}, {0}, {1}, {128}} {
		wantStateForm(t, b, impl.ErrForm)
		wantJobForm(t, b, impl.ErrForm)
	}
}

// What is no bytes of any is told ahead of what is not right.
func TestBytesFormAheadOfBad(t *testing.T) {
	bad := bytesOfJob(impl.Job{})
	wantJobForm(t, bad, impl.ErrBad)
	wantJobForm(t, bad[:len(bad)-1], impl.ErrForm)
	wantJobForm(t, append(bad, 0), impl.ErrForm)
	for _, s := range []impl.State{stateOf(manyFiles(21)), stateOf(nil, manySessions(201)...), stateOf([]impl.File{fileOf("a", 1, ""), fileOf("a", 1, "")}), stateOf(nil, sessionOf(1, 1, impl.Reply{Code: 16})), stateOf(make([]impl.File, 20000)), stateOf(nil, make([]impl.Session, 13000)...)} {
		b := bytesOfState(s)
		if len(b) > impl.MaxText {
			t.Fatal(len(b))
		}
		wantStateForm(t, b, impl.ErrBad)
		wantStateForm(t, b[:len(b)-1], impl.ErrForm)
		wantStateForm(t, append(slices.Clone(b), 0), impl.ErrForm)
	}
}

// stateOfSize is a right state of so many bytes.
func stateOfSize(t *testing.T, size int) impl.State {
	t.Helper()
	var s impl.State
	for i := range 20 {
		left := size - len(bytesOfState(s))
		s.Files = append(s.Files, fileOf("g"+string(rune('a'+i)), 1, long(max(0, min(8000, left-8)))))
		for len(bytesOfState(s)) < size && len(s.Files[i].Text) < 8000 {
			s.Files[i].Text += "x"
		}
		if len(bytesOfState(s)) == size {
			return s
		}
	}
	t.Fatal("no state of", size, "bytes")
	return s
}

// States of MaxText bytes have bytes and are read back, of one more they are too
// many; bytes that are too long are not looked at.
func TestStateBytesMany(t *testing.T) {
	for _, size := range []int{65535, 65536} {
		s := stateOfSize(t, size)
		b, code := impl.StateBytes(s)
		if code != impl.OK || len(b) != size || !bytes.Equal(b, bytesOfState(s)) {
			t.Errorf("StateBytes: %d bytes with code %d, want %d", len(b), code, size)
		}
		if again, code := impl.ReadState(b); code != impl.OK || !sameState(again, s) {
			t.Errorf("ReadState of %d bytes: code %d", size, code)
		}
	}
	full := stateOf(nil, manySessions(200)...)
	for i := range 20 {
		full.Files = append(full.Files, fileOf("g"+itoa(i), 1000000, long(8000)))
	}
	for _, s := range []impl.State{stateOfSize(t, 65537), stateOfSize(t, 65538), stateOfSize(t, 150000), full} {
		if b, code := impl.StateBytes(s); code != impl.ErrMany || b != nil || !impl.StateOK(s) {
			t.Errorf("StateBytes of a state of %d bytes: %d bytes with code %d", len(bytesOfState(s)), len(b), code)
		}
		wantStateForm(t, bytesOfState(s), impl.ErrLong)
		if _, reply, code := impl.Apply(s, jobOf(9, 6, s.Files[0].Name, s.Files[0].Version, "", "")); code != impl.OK || reply.Code == impl.ErrMany {
			t.Errorf("Apply to a state of many bytes: %s with code %d", shownReply(reply), code)
		}
		s.Sessions = append(s.Sessions, sessionOf(0, 1, impl.Reply{}))
		if b, code := impl.StateBytes(s); code != impl.ErrBad || b != nil {
			t.Errorf("StateBytes of a state that is too long and not right: %d bytes with code %d", len(b), code)
		}
	}
	for _, size := range []int{65537, 100000} {
		for _, b := range [][]byte{make([]byte, size), filled(size), bytes.Repeat([]byte{128}, size)} {
			wantStateForm(t, b, impl.ErrLong)
			wantJobForm(t, b, impl.ErrLong)
		}
	}
	for _, b := range [][]byte{make([]byte, 65536), bytes.Repeat([]byte{128}, 65536), bytes.Repeat([]byte{1}, 65536)} {
		wantStateForm(t, b, impl.ErrForm)
		wantJobForm(t, b, impl.ErrForm)
	}
	most := bytesOfJob(jobOf(1, 1, "a", 0, "", long(65526)))
	wantJobForm(t, most, impl.ErrBad)
	wantJobForm(t, append(most, 0), impl.ErrLong)
	if len(most) != 65536 {
		t.Error(len(most))
	}
}

// Any short bytes, and right ones spoilt in several places.
func TestBytesAtRandom(t *testing.T) {
	for a := range 256 {
		wantReadJob(t, []byte{byte(a)})
		wantReadState(t, []byte{byte(a)})
		for b := range 256 {
			wantReadState(t, []byte{byte(a), byte(b)})
			wantReadState(t, []byte{0, byte(a), byte(b)})
			wantReadState(t, []byte{0, 1, byte(a), byte(b), 0, 0, 0})
			wantReadState(t, []byte{1, 1, 'a', byte(a), byte(b), 0})
			wantReadJob(t, []byte{1, byte(a), byte(b), 0, 0, 0, 0})
		}
	}
	r := rand.New(rand.NewSource(91))
	jobs, states := byteJobs(), byteStates()
	codes := make([]int, 16)
	for range 60000 {
		b := bytesOfJob(jobs[r.Intn(len(jobs))])
		s := bytesOfState(states[r.Intn(len(states))])
		for range 1 + r.Intn(3) {
			b[r.Intn(min(len(b), 12))] = byte(r.Intn(256) >> r.Intn(8))
			s[r.Intn(len(s))] = byte(r.Intn(256) >> r.Intn(8))
		}
		codes[wantReadJob(t, b)]++
		codes[wantReadState(t, s)]++
		few := make([]byte, r.Intn(14))
		for i := range few {
			few[i] = byte(r.Intn(4))
		}
		codes[wantReadJob(t, few)]++
		codes[wantReadState(t, few)]++
	}
	if codes[impl.OK] < 1000 || codes[impl.ErrForm] < 1000 || codes[impl.ErrBad] < 1000 {
		t.Error("too few of a code:", codes)
	}
}
