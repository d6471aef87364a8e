package tests

import (
	"math/rand"
	"slices"
	"strings"
	"testing"

	"loop.example/g00142/impl"
)

// modelJob is a job that was done or refused for good, with its reply and what was said.
type modelJob struct {
	job   impl.Job
	reply impl.Reply
	said  string
}

// modelPast is all such jobs. There is no state beside them: what stands is sought
// in the past whenever it is asked for.
type modelPast []modelJob

func (m modelPast) where(holds func(modelJob) bool) modelPast {
	var some modelPast
	for _, x := range m {
		if holds(x) {
			some = append(some, x)
		}
	}
	return some
}

func (m modelPast) edits(file string) modelPast {
	return m.where(func(x modelJob) bool { return x.reply.Code == impl.OK && x.job.File == file })
}

func (m modelPast) of(client int) modelPast {
	return m.where(func(x modelJob) bool { return x.job.Client == client })
}

// firsts are those that come first of their kind.
func (m modelPast) firsts(same func(a, b modelJob) bool) modelPast {
	var some modelPast
	for _, x := range m {
		if !slices.ContainsFunc(some, func(y modelJob) bool { return same(x, y) }) {
			some = append(some, x)
		}
	}
	return some
}

func (m modelPast) files() []impl.File {
	var files []impl.File
	made := m.where(func(x modelJob) bool { return x.reply.Code == impl.OK })
	for _, x := range made.firsts(func(a, b modelJob) bool { return a.job.File == b.job.File }) {
		edits := m.edits(x.job.File)
		files = append(files, fileOf(x.job.File, len(edits), edits[len(edits)-1].said))
	}
	return files
}

func (m modelPast) sessions() []impl.Session {
	var sessions []impl.Session
	for _, x := range m.firsts(func(a, b modelJob) bool { return a.job.Client == b.job.Client }) {
		all := m.of(x.job.Client)
		last := all[len(all)-1]
		sessions = append(sessions, sessionOf(last.job.Client, last.job.Seq, last.reply))
	}
	return sessions
}

// apply answers a job, and the past with it.
func (m modelPast) apply(j impl.Job) (modelPast, impl.Reply) {
	ahead := m.of(j.Client)
	for _, x := range ahead {
		if x.job.Seq > j.Seq {
			return m, failed(impl.ErrStale)
		}
	}
	for _, x := range ahead {
		if x.job.Seq == j.Seq {
			return m, x.reply
		}
	}
	if len(ahead) == 0 && len(m.sessions()) >= 200 {
		return m, failed(impl.ErrMany)
	}
	reply, said := m.look(j)
	return append(m, modelJob{j, reply, said}), reply
}

func (m modelPast) look(j impl.Job) (impl.Reply, string) {
	edits := m.edits(j.File)
	text := j.Text
	if len(edits) > 0 {
		text = edits[len(edits)-1].said
	}
	said, code, _ := impl.Edit(j.Script, text, j.Ere, j.Quiet)
	switch {
	case !impl.NameOK(j.File):
		return failed(impl.ErrName), ""
	case len(edits) != j.Version || len(edits) > 0 && len(j.Text) > 0:
		return failed(impl.ErrVersion), ""
	case code != impl.OK:
		return failed(code), ""
	case len(edits) == 0 && len(m.files()) >= 20:
		return failed(impl.ErrMany), ""
	}
	return done(len(edits)+1, said), said
}

// jobMaker makes jobs that are mostly such as a past takes.
type jobMaker struct {
	*rand.Rand
	clients, names int
	past           modelPast
}

var makerScripts = []string{"", "p", "d", "s/a/b/g", "s/$/x/", "1!G;h;$!d", "a y", "$d", "y/abx/bxa/", "i z", "N;P;D", "s/(a|b)+/[&]/"}

var makerFaults = []string{"0p", "s/(", "w f", "b x", ":a;b a", "s/.*/" + long(999) + "&/", strings.Repeat("p;", 61), "}"}

func (m *jobMaker) job() impl.Job {
	j := impl.Job{Client: 1 + m.Intn(m.clients), Seq: 1, File: "f" + itoa(m.Intn(m.names)), Script: makerScripts[m.Intn(len(makerScripts))], Ere: m.Intn(2) == 0, Quiet: m.Intn(5) == 0}
	if all := m.past.of(j.Client); len(all) > 0 {
		j.Seq = max(1, all[len(all)-1].job.Seq+[]int{1, 1, 1, 1, 2, 7, 0, 0, -1, -2}[m.Intn(10)])
	}
	j.Version = len(m.past.edits(j.File))
	if j.Version == 0 {
		j.Text = randomLines(m.Rand, "abx", 4, 5)
	}
	switch m.Intn(24) {
	case 0:
		j.File = []string{"", "-", "1", "f 1"}[m.Intn(4)]
	case 1:
		j.Version = max(0, j.Version+m.Intn(5)-2)
	case 2:
		j.Version = []int{0, 1, 2, 1000000}[m.Intn(4)]
	case 3:
		j.Text = "x\n"
	case 4, 5:
		j.Script = makerFaults[m.Intn(len(makerFaults))]
	}
	return j
}

// Runs of many jobs, applied one by one and all at once, against the past alone.
func TestJobsAgainstTheirPast(t *testing.T) {
	r := rand.New(rand.NewSource(92))
	codes := make([]int, 16)
	for run := range 400 {
		m := jobMaker{Rand: r, clients: 1 + r.Intn(6), names: 1 + r.Intn(5)}
		if run%10 == 0 {
			m.clients, m.names = 60, 30
		}
		var s impl.State
		var jobs []impl.Job
		var replies []impl.Reply
		for range 100 {
			j := m.job()
			var want impl.Reply
			m.past, want = m.past.apply(j)
			got, reply, code := impl.Apply(s, j)
			if state := (impl.State{Files: m.past.files(), Sessions: m.past.sessions()}); code != impl.OK || reply != want || !sameState(got, state) {
				t.Fatalf("Apply(%.300s, %.200s): %.300s and %s with code %d, want %.300s and %s", shownState(s), shownJob(j), shownState(got), shownReply(reply), code, shownState(state), shownReply(want))
			}
			s, jobs, replies = got, append(jobs, j), append(replies, want)
			codes[want.Code]++
		}
		folded, all, code := impl.Fold(jobs)
		if code != impl.OK || !sameState(folded, s) || !slices.Equal(all, replies) {
			t.Fatalf("Fold of %d jobs: %.300s with code %d, want %.300s", len(jobs), shownState(folded), code, shownState(s))
		}
	}
	for _, code := range []int{impl.OK, impl.ErrSyntax, impl.ErrRange, impl.ErrMany, impl.ErrName, impl.ErrVersion, impl.ErrForbid, impl.ErrLabel, impl.ErrSteps, impl.ErrSize, impl.ErrStale} {
		if codes[code] < 50 {
			t.Error("too few of code", code, codes[code])
		}
	}
}

// More clients than there may be, over a run that is longer than a Fold takes.
func TestJobsOfManyClients(t *testing.T) {
	m := jobMaker{Rand: rand.New(rand.NewSource(93)), clients: 240, names: 26}
	var s impl.State
	many := 0
	for range 1500 {
		j := m.job()
		past, want := m.past.apply(j)
		got, reply, code := impl.Apply(s, j)
		if code != impl.OK || reply != want {
			t.Fatalf("Apply of %.200s: %s with code %d, want %s", shownJob(j), shownReply(reply), code, shownReply(want))
		}
		if want.Code == impl.ErrMany && len(past) == len(m.past) {
			many++
		}
		m.past, s = past, got
	}
	if want := (impl.State{Files: m.past.files(), Sessions: m.past.sessions()}); !sameState(s, want) || !impl.StateOK(s) || many < 50 || len(s.Files) != 20 || len(s.Sessions) != 200 {
		t.Errorf("a state of %d files and %d sessions behind %d jobs too many", len(s.Files), len(s.Sessions), many)
	}
}

// P10: a job that comes as often as one likes is done once, and its answer stays
// while its client asks nothing else, whatever the other clients ask.
func TestJobsAreDoneOnce(t *testing.T) {
	r := rand.New(rand.NewSource(94))
	for range 300 {
		m := jobMaker{Rand: r, clients: 1 + r.Intn(5), names: 1 + r.Intn(3)}
		var s impl.State
		var last []modelJob // of each client that has asked, its job asked last and the answer
		for range 60 {
			j := m.job()
			m.past, _ = m.past.apply(j)
			next, reply, _ := impl.Apply(s, j)
			wantRaised(t, s, next, j, reply)
			s = next
			at := slices.IndexFunc(last, func(x modelJob) bool { return x.job.Client == j.Client })
			switch {
			case at < 0:
				last = append(last, modelJob{job: j, reply: reply})
			case j.Seq > last[at].job.Seq:
				last[at] = modelJob{job: j, reply: reply}
			}
			for _, x := range last {
				for _, again := range []impl.Job{x.job, {Client: x.job.Client, Seq: x.job.Seq}, with(x.job, func(j *impl.Job) { j.Script, j.Version = "d", 5 })} {
					same, answer, code := impl.Apply(s, again)
					if code != impl.OK || answer != x.reply || !sameState(same, s) {
						t.Fatalf("Apply(%.300s, %.200s) again: %.300s and %s with code %d, want %s", shownState(s), shownJob(again), shownState(same), shownReply(answer), code, shownReply(x.reply))
					}
				}
			}
		}
	}
}

// wantRaised holds that a job raises just its file's version, by one, if it was
// done now, and else none; its answer has the file's Sha.
func wantRaised(t *testing.T, s, next impl.State, j impl.Job, reply impl.Reply) {
	t.Helper()
	was := slices.Clone(s.Files)
	came := !slices.ContainsFunc(s.Sessions, func(x impl.Session) bool { return x.Client == j.Client && x.Seq >= j.Seq })
	if came && reply.Code == impl.OK {
		at := slices.IndexFunc(was, func(f impl.File) bool { return f.Name == j.File })
		if at < 0 {
			at = len(was)
			was = append(was, impl.File{Name: j.File})
		}
		if len(next.Files) != len(was) || next.Files[at].Version != was[at].Version+1 || reply.Version != was[at].Version+1 || reply.Sha != keyOf(next.Files[at].Text) {
			t.Fatalf("Apply(%.300s, %.200s): %.300s and %s", shownState(s), shownJob(j), shownState(next), shownReply(reply))
		}
		was[at] = next.Files[at]
	}
	if !slices.Equal(was, next.Files) {
		t.Fatalf("Apply(%.300s, %.200s) changed other files: %.300s", shownState(s), shownJob(j), shownState(next))
	}
}

// P10: whatever comes again among jobs, and wherever, their files are as without it.
func TestJobsWithRepeatsMakeTheSameFiles(t *testing.T) {
	r := rand.New(rand.NewSource(95))
	for range 300 {
		m := jobMaker{Rand: r, clients: 1 + r.Intn(4), names: 1 + r.Intn(3)}
		var jobs, repeated []impl.Job
		for len(repeated) < 80 {
			j := m.job()
			m.past, _ = m.past.apply(j)
			jobs, repeated = append(jobs, j), append(repeated, j)
			for range r.Intn(3) {
				repeated = append(repeated, jobs[r.Intn(len(jobs))])
			}
		}
		once, _, code := impl.Fold(jobs)
		often, replies, oftenCode := impl.Fold(repeated)
		if code != impl.OK || oftenCode != impl.OK || !sameState(once, often) {
			t.Fatalf("Fold of %d jobs: %.300s with code %d; of %d with repeats: %.300s with code %d", len(jobs), shownState(once), code, len(repeated), shownState(often), oftenCode)
		}
		edits := make(map[string]int)
		seen := make(map[[2]int]bool)
		for i, j := range repeated {
			if key := [2]int{j.Client, j.Seq}; !seen[key] && replies[i].Code == impl.OK {
				seen[key] = true
				edits[j.File]++
			}
		}
		for _, f := range often.Files {
			if f.Version != edits[f.Name] {
				t.Fatalf("file %s has version %d behind %d edits", f.Name, f.Version, edits[f.Name])
			}
		}
	}
}

// Jobs go on from a state that was told in bytes as from the state itself.
func TestJobsGoOnFromBytes(t *testing.T) {
	r := rand.New(rand.NewSource(96))
	for range 200 {
		m := jobMaker{Rand: r, clients: 4, names: 4}
		var s, told impl.State
		for range 60 {
			j := m.job()
			m.past, _ = m.past.apply(j)
			b, _ := impl.JobBytes(j)
			again, code := impl.ReadJob(b)
			if code != impl.OK || again != j {
				t.Fatalf("ReadJob of the bytes of %.200s: %.200s with code %d", shownJob(j), shownJob(again), code)
			}
			s, _, _ = impl.Apply(s, j)
			told, _, _ = impl.Apply(told, again)
			b, _ = impl.StateBytes(told)
			if told, code = impl.ReadState(b); code != impl.OK || !sameState(s, told) {
				t.Fatalf("ReadState: %.300s with code %d, want %.300s", shownState(told), code, shownState(s))
			}
		}
	}
}
