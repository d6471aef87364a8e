package tests

import (
	"bytes"
	"go/ast"
	"go/parser"
	"go/token"
	"math/rand"
	"slices"
	"strings"
	"sync"
	"testing"

	"loop.example/g00142/impl"
)

// guardState is a state whose lists have room behind their ends, and whether it stayed.
func guardState(s impl.State) (impl.State, func() bool) {
	files := append(slices.Clone(s.Files), fileOf("behind", mark, "x"), fileOf("behind", mark, "y"))
	sessions := append(slices.Clone(s.Sessions), sessionOf(mark, mark, failed(1)), sessionOf(mark, mark, failed(2)))
	wasFiles, wasSessions := slices.Clone(files), slices.Clone(sessions)
	same := func() bool { return slices.Equal(files, wasFiles) && slices.Equal(sessions, wasSessions) }
	return impl.State{Files: files[:len(s.Files)], Sessions: sessions[:len(s.Sessions)]}, same
}

// spoilState writes over all that a state holds, and over the room behind it.
func spoilState(s impl.State) {
	files, sessions := s.Files[:cap(s.Files)], s.Sessions[:cap(s.Sessions)]
	for i := range files {
		files[i] = fileOf("spoilt", mark, "spoilt")
	}
	for i := range sessions {
		sessions[i] = sessionOf(mark, mark, failed(mark))
	}
}

// ruleStates and ruleJobs are right and wrong ones, of each code.
func ruleStates() []impl.State {
	right, wrong := rightStates(), wrongStates()
	return append(append(slices.Clone(right[:12]), wrong[:40]...), stateOf(manyFiles(20), manySessions(200)...), stateOf(manyFiles(3), manySessions(5)...))
}

func ruleJobs() []impl.Job {
	jobs := []impl.Job{
		jobOf(1, 6, "f1", 1, "p", ""), jobOf(1, 5, "f1", 1, "p", ""), jobOf(1, 4, "f1", 1, "p", ""), jobOf(9, 1, "new", 0, "p", "x\n"), jobOf(2, 7, "f2", 1, "p", ""), jobOf(2, 7, "-", 1, "p", ""), jobOf(3, 6, "f3", 3, "0p", ""), jobOf(300, 6, "f3", 3, "d", ""), jobOf(4, 9, "f3", 3, ":a;b a", ""),
	}
	return append(jobs, wrongJobs()[:12]...)
}

// P1: arguments stay, and no answer shares memory with one.
func TestJobArgumentsStay(t *testing.T) {
	for _, s := range ruleStates() {
		g, same := guardState(s)
		impl.StateOK(g)
		b, _ := impl.StateBytes(g)
		spoil(b)
		if !same() {
			t.Fatalf("a state was changed: %.300s", shownState(s))
		}
		for _, j := range ruleJobs() {
			next, _, _ := impl.Apply(g, j)
			if !same() {
				t.Fatalf("Apply changed its state: %.300s, %.200s", shownState(s), shownJob(j))
			}
			_ = append(append(next.Files, impl.File{}), impl.File{})
			spoilState(next)
			if !same() {
				t.Fatalf("an answer of Apply shares memory with its state: %.300s, %.200s", shownState(s), shownJob(j))
			}
		}
	}
	for size := range 12 {
		jobs := append(manyJobs(size), jobOf(mark, mark, "behind", 0, "", ""), jobOf(mark, mark, "behind", 0, "", ""))
		was := slices.Clone(jobs)
		s, replies, _ := impl.Fold(jobs[:size])
		spoilState(s)
		for i := range replies {
			replies[i] = failed(mark)
		}
		if !slices.Equal(jobs, was) {
			t.Fatalf("Fold changed its %d jobs", size)
		}
	}
}

// P1: bytes stay when they are read, and what was read stays when they change.
func TestJobBytesStay(t *testing.T) {
	var all [][]byte
	for _, j := range append(byteJobs(), wrongJobs()[3]) {
		all = append(all, bytesOfJob(j))
	}
	for _, s := range append(byteStates(), stateOf(manyFiles(21))) {
		all = append(all, bytesOfState(s))
	}
	for _, b := range append(all, inputs(t)...) {
		g := guard(b)
		j, jobCode := impl.ReadJob(g.arg())
		s, stateCode := impl.ReadState(g.arg())
		if !g.same() {
			t.Fatalf("bytes were changed: %.200q", b)
		}
		spoil(g.all)
		again, againCode := impl.ReadJob(b)
		if again != j || againCode != jobCode {
			t.Fatalf("a job hangs on its bytes: %.200q", b)
		}
		if again, code := impl.ReadState(b); !sameState(again, s) || code != stateCode {
			t.Fatalf("a state hangs on its bytes: %.200q", b)
		}
	}
	for _, j := range byteJobs() {
		first, _ := impl.JobBytes(j)
		spoil(first)
		if second, _ := impl.JobBytes(j); !bytes.Equal(second, bytesOfJob(j)) {
			t.Errorf("JobBytes hangs on what it answered ahead: %.200s", shownJob(j))
		}
	}
	for _, s := range byteStates() {
		first, _ := impl.StateBytes(s)
		spoil(first)
		if second, _ := impl.StateBytes(s); !bytes.Equal(second, bytesOfState(s)) {
			t.Errorf("StateBytes hangs on what it answered ahead: %.200s", shownState(s))
		}
	}
}

// An empty list and nil are the same value.
func TestJobEmptyIsNil(t *testing.T) {
	empty := impl.State{Files: []impl.File{}, Sessions: []impl.Session{}}
	if !impl.StateOK(empty) || !impl.StateOK(impl.State{}) {
		t.Error("StateOK of an empty state")
	}
	for _, j := range ruleJobs() {
		one, oneReply, oneCode := impl.Apply(impl.State{}, j)
		two, twoReply, twoCode := impl.Apply(empty, j)
		if !sameState(one, two) || oneReply != twoReply || oneCode != twoCode {
			t.Errorf("Apply of %.200s to nil and to empty lists", shownJob(j))
		}
	}
	for _, s := range []impl.State{{}, empty} {
		if b, code := impl.StateBytes(s); code != impl.OK || string(b) != "\x00\x00" {
			t.Errorf("StateBytes of an empty state: %q with code %d", b, code)
		}
	}
	for _, b := range [][]byte{nil, {}} {
		wantJobForm(t, b, impl.ErrForm)
		wantStateForm(t, b, impl.ErrForm)
	}
	for _, jobs := range [][]impl.Job{nil, {}} {
		if s, replies, code := impl.Fold(jobs); code != impl.OK || len(replies) != 0 || len(s.Files)+len(s.Sessions) != 0 {
			t.Errorf("Fold of no jobs: %s with code %d", shownState(s), code)
		}
	}
}

// jobOutcome is what all functions answer of a state and a job, in one text.
func jobOutcome(s impl.State, j impl.Job) string {
	next, reply, code := impl.Apply(s, j)
	out := []string{shownState(next), shownReply(reply), itoa(code)}
	b, code := impl.JobBytes(j)
	again, readCode := impl.ReadJob(b)
	out = append(out, string(b), itoa(code), shownJob(again), itoa(readCode))
	b, code = impl.StateBytes(s)
	state, readCode := impl.ReadState(b)
	out = append(out, string(b), itoa(code), shownState(state), itoa(readCode))
	folded, replies, code := impl.Fold([]impl.Job{j, jobOf(1, 1, "a", 0, "p", "x"), j})
	for _, reply := range replies {
		out = append(out, shownReply(reply))
	}
	if impl.StateOK(s) {
		out = append(out, "right")
	}
	return strings.Join(append(out, shownState(folded), itoa(code)), "|")
}

// P1: alike arguments have alike answers, whatever was called ahead, and from many sides.
func TestJobsHangOnNothingElse(t *testing.T) {
	states, jobs := ruleStates(), ruleJobs()
	want := make([][]string, len(states))
	for i, s := range states {
		for _, j := range jobs {
			want[i] = append(want[i], jobOutcome(s, j))
		}
	}
	for i := range slices.Backward(states) {
		for k := range slices.Backward(jobs) {
			g, _ := guardState(states[i])
			if jobOutcome(g, jobs[k]) != want[i][k] {
				t.Fatalf("an answer hangs on what was called ahead: %.300s, %.200s", shownState(states[i]), shownJob(jobs[k]))
			}
		}
	}
	var all sync.WaitGroup
	for i := range states {
		all.Go(func() {
			for k := range jobs {
				if jobOutcome(states[i], jobs[k]) != want[i][k] {
					t.Errorf("an answer hangs on what is called beside: %.300s, %.200s", shownState(states[i]), shownJob(jobs[k]))
				}
			}
		})
	}
	all.Wait()
}

// P1: nothing panics, and all ends, whatever is handed in; with a code all else is zero.
func TestJobsNothingPanics(t *testing.T) {
	r := rand.New(rand.NewSource(97))
	ints := []int{least, -1, 0, 1, 2, 3, 15, 16, 1000000, 1000001, greatest}
	some := func() int { return ints[r.Intn(len(ints))] }
	texts := []string{"", "a", "f1", "-", "\x00", long(40), long(41), long(2000), long(2001), long(8001), keyOf(""), "p", "s/(", "x\n"}
	word := func() string { return texts[r.Intn(len(texts))] }
	one := func() impl.Job {
		j := jobOf(1+r.Intn(3), 1+r.Intn(3), "f1", r.Intn(2), "p", "")
		switch r.Intn(8) {
		case 0:
			j.Client = some()
		case 1:
			j.Seq = some()
		case 2:
			j.Version = some()
		case 3:
			j.File = word()
		case 4:
			j.Script = word()
		case 5:
			j.Text = word()
		}
		return j
	}
	counts := make([]int, 16)
	for range 20000 {
		var s impl.State
		for i := range r.Intn(4) {
			s.Files = append(s.Files, fileOf("f"+itoa(i), 1, "x\n"))
			s.Sessions = append(s.Sessions, sessionOf(i+1, 2, failed(impl.ErrName)))
		}
		if n := len(s.Files); n > 0 {
			f, x := &s.Files[r.Intn(n)], &s.Sessions[r.Intn(n)]
			switch r.Intn(12) {
			case 0:
				f.Version = some()
			case 1:
				f.Name = word()
			case 2:
				f.Text = word()
			case 3:
				x.Client = some()
			case 4:
				x.Seq = some()
			case 5:
				x.Reply = impl.Reply{Code: some(), Version: some(), Sha: word()}
			}
		}
		j := one()
		next, reply, code := impl.Apply(s, j)
		_, jobCode := impl.JobBytes(j)
		b, stateCode := impl.StateBytes(s)
		counts[code]++
		if wrong := !impl.StateOK(s) || jobCode != impl.OK; wrong != (code == impl.ErrBad) || wrong && (!isZeroState(next) || reply != (impl.Reply{})) {
			t.Fatalf("Apply(%.300s, %.200s): %.300s and %s with code %d", shownState(s), shownJob(j), shownState(next), shownReply(reply), code)
		}
		if impl.StateOK(s) != (stateCode == impl.OK) || stateCode != impl.OK && b != nil {
			t.Fatalf("StateBytes(%.300s): %d bytes with code %d", shownState(s), len(b), stateCode)
		}
		impl.Fold([]impl.Job{one(), one(), one()})
	}
	if counts[impl.OK] < 1000 || counts[impl.ErrBad] < 1000 {
		t.Error("too few of a code:", counts)
	}
	for _, in := range inputs(t) {
		impl.ReadJob(in)
		impl.ReadState(in)
	}
}

// The chapter 'Ways': maps with sessions and files; a defer that notes a reply.
func TestWaysOfTheJobs(t *testing.T) {
	f, err := parser.ParseFile(token.NewFileSet(), "../impl/l09_jobs.go", nil, 0)
	if err != nil {
		t.Fatal(err)
	}
	maps, noting := map[string]bool{}, 0
	ast.Inspect(f, func(n ast.Node) bool {
		switch x := n.(type) {
		case *ast.MapType:
			if value, ok := x.Value.(*ast.Ident); ok {
				maps[value.Name] = true
			}
		case *ast.DeferStmt:
			ast.Inspect(x, func(n ast.Node) bool {
				if name, ok := n.(*ast.Ident); ok && name.Name == "reply" {
					noting++
				}
				return true
			})
		}
		return true
	})
	if !maps["File"] || !maps["Session"] || noting == 0 {
		t.Error("maps", maps, "a reply that is noted", noting)
	}
}
