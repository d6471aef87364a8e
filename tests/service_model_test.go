package tests

import (
	"math/rand"
	"slices"
	"strings"
	"testing"

	"loop.example/g00142/impl"
)

// modelFolded is what records make: the past of their jobs, and an answer for each.
type modelFolded struct {
	past    modelPast
	replies []impl.Reply
}

func (f modelFolded) state() impl.State {
	return impl.State{Files: f.past.files(), Sessions: f.past.sessions()}
}

// modelFolds knows what was made already, by the Data of all records up to one.
type modelFolds map[string]modelFolded

func (known modelFolds) of(list []impl.Rec) modelFolded {
	if len(list) == 0 {
		return modelFolded{}
	}
	var key strings.Builder
	for _, r := range list {
		key.WriteString(string(textBytes(string(r.Data))))
	}
	if f, there := known[key.String()]; there {
		return f
	}
	f := known.of(list[:len(list)-1])
	reply := failed(impl.ErrForm)
	if j, code := modelReadJob(list[len(list)-1].Data); code == impl.OK {
		var past modelPast
		past, reply = f.past.apply(j)
		f.past = slices.Clip(past)
	}
	f.replies = slices.Clip(append(f.replies, reply))
	known[key.String()] = f
	return f
}

// modelService is a second service: a cluster told otherwise, lines by patterns,
// and states by the past of their jobs.
type modelService struct {
	cluster *modelCluster
	folds   modelFolds
	said    strings.Builder
	met     map[string]int
}

func newModelService(met map[string]int) *modelService {
	return &modelService{cluster: newModel(3, met), folds: modelFolds{}, met: met}
}

func (s *modelService) do(line string) {
	switch {
	case line == "" || line[0] == '#':
		s.met["nothing"]++
	case slices.Contains([]string{"show 0", "show 1", "show 2", "show 0 ", "show 1 ", "show 2 "}, line):
		s.show(int(line[5] - '0'))
	default:
		e, code := modelEventOf(line)
		if code == impl.OK {
			code = s.cluster.do(e)
		}
		s.met["code "+impl.CodeWord(code)]++
		if code != impl.OK {
			s.said.WriteString("error " + impl.CodeWord(code) + "\n")
			return
		}
		s.said.WriteString("ok " + itoa(len(s.cluster.net)) + "\n")
	}
}

func (s *modelService) show(number int) {
	p := s.cluster.peers[number]
	role := []string{"follower", "candidate", "leader"}[p.role()]
	if p.down {
		role = "down"
	}
	s.said.WriteString(role + " " + itoa(p.term) + " " + itoa(p.commit) + " " + itoa(len(p.log)) + "\n")
	files := s.folds.of(p.log[:p.commit]).past.files()
	for _, f := range files {
		s.said.WriteString(shownFile(f.Name, f.Version, f.Text))
	}
	s.met["show "+role]++
	if len(files) > 0 {
		s.met["files of "+role]++
	}
	if p.commit < len(s.cluster.chosen) && p.commit > 0 {
		s.met["show of less than is chosen"]++
	}
}

// serviceMaker draws lines that mostly fit a cluster as it stands.
type serviceMaker struct {
	clusterMaker
	lines lineMaker
	folds modelFolds
	seqs  map[int]int // by client: the last Seq that was asked for
}

func newServiceMaker(r *rand.Rand, model *modelCluster, way int) *serviceMaker {
	weights := makers()[way%len(makers())]
	weights[7] = 0
	return &serviceMaker{clusterMaker: clusterMaker{Rand: r, model: model, weights: weights, order: r.Intn(3)}, lines: lineMaker{r}, folds: modelFolds{}, seqs: map[int]int{}}
}

var lineScripts = []string{"", "p", "d", "s/o/0/g", "s/$/x y/", "1!G;h;$!d", "a b  c ", "$d", "y/one/eno/", "i z", "N;P;D", " p ", "#"}

// job is a line that asks a peer for an edit of what the peer's log makes, or for
// one that was asked for already.
func (m *serviceMaker) job(node int) string {
	past := m.folds.of(m.model.peers[node].log).past
	client, file := 1+m.Intn(5), "f"+itoa(m.Intn(4))
	if m.Intn(8) == 0 {
		file = "g" + itoa(m.Intn(30))
	}
	seq := max(1, m.seqs[client]+[]int{1, 1, 1, 1, 1, 1, 3, 0, 0, -1}[m.Intn(10)])
	m.seqs[client] = max(seq, m.seqs[client])
	version := len(past.edits(file))
	script := lineScripts[m.Intn(len(lineScripts))]
	switch m.Intn(20) {
	case 0:
		file = []string{"", "-", "1", "a.b"}[m.Intn(4)]
	case 1:
		version = max(0, version+m.Intn(5)-2)
	case 2:
		script = makerFaults[m.Intn(len(makerFaults))]
	case 3:
		script = "#" + long(940+m.Intn(60))
	}
	behind := " " + script
	if script == "" && m.Intn(2) == 0 {
		behind = ""
	}
	return jobLine(itoa(node), itoa(client), itoa(seq), file, itoa(version), behind)
}

// eventLine is a line of an event that mostly fits.
func (m *serviceMaker) eventLine() string {
	e := m.event()
	if e.Kind == impl.EvPropose {
		return m.job(e.N)
	}
	line := wordKinds[e.Kind-1].word + " " + itoa(e.N)
	if m.Intn(20) == 0 {
		line += " "
	}
	return line
}

func (m *serviceMaker) line() string {
	switch at := m.Intn(40); {
	case at < 6:
		return "show " + itoa(m.Intn(3)) + []string{"", "", "", " "}[m.Intn(4)]
	case at == 6:
		return []string{"", "#", "# " + m.eventLine(), "#tick 0"}[m.Intn(4)]
	case at == 7:
		return strings.ReplaceAll(m.lines.line(), "\n", " ")
	}
	return m.eventLine()
}

// drawnText is a text of so many lines, and what the model says to it.
func drawnText(r *rand.Rand, size, way int, met map[string]int) ([]string, string) {
	model := newModelService(met)
	m := newServiceMaker(r, model.cluster, way)
	var lines []string
	room := impl.MaxText
	for range size {
		line := m.line()
		if room -= len(line) + 1; room < 0 {
			break
		}
		model.do(line)
		lines = append(lines, line)
	}
	return lines, model.said.String()
}

func TestServiceAgainstTheModel(t *testing.T) {
	r := rand.New(rand.NewSource(129))
	met := map[string]int{}
	for round := range 1500 {
		size := r.Intn(301)
		if round%2 == 0 {
			size = 300
		}
		lines, want := drawnText(r, size, round, met)
		text := strings.Join(lines, "\n")
		if round%3 > 0 {
			text += "\n"
		}
		got, code := impl.Service(text)
		if code != impl.OK || got != want {
			at := 0
			gotLines, wantLines := strings.Split(got, "\n"), strings.Split(want, "\n")
			for at < min(len(gotLines), len(wantLines)) && gotLines[at] == wantLines[at] {
				at++
			}
			t.Fatalf("round %d: code %d, and what is said differs from line %d on: %q\nwant %q\n%s", round, code, at, gotLines[at:min(at+3, len(gotLines))], wantLines[at:min(at+3, len(wantLines))], text)
		}
	}
	for _, name := range []string{"nothing", "show follower", "show candidate", "show leader", "show down", "files of follower", "files of candidate", "files of leader", "show of less than is chosen", "code ok", "code syntax", "code none", "code stale", "code size", "lost", "commits", "cut"} {
		if met[name] < 20 {
			t.Error(name, "was met", met[name], "times")
		}
	}
}

// All texts of a few lines of those that matter at first.
func TestServiceAllShort(t *testing.T) {
	some := []string{"tick 0", "tick 1 ", "deliver 0", "deliver 1", "drop 0", "double 0", "crash 0", "start 0", "job 0 1 1 a 0 p", "show 0", "show 1", "#", "go"}
	// Behind these peer 0 leads and one record is on its way.
	heads := []string{"", "tick 0\ndeliver 0\ndeliver 1\n", "tick 0\ndeliver 0\ndeliver 1\ndrop 2\ndrop 0\njob 0 1 1 a 0 p\ndrop 0\ntick 0\ndeliver 0\n"}
	for _, head := range heads {
		for _, a := range some {
			for _, b := range some {
				for _, c := range some {
					text := head + a + "\n" + b + "\n" + c
					model := newModelService(map[string]int{})
					for _, line := range strings.Split(text, "\n") {
						model.do(line)
					}
					wantService(t, text, model.said.String())
				}
			}
		}
	}
}

// jobRun is a drawn run of n peers whose records are mostly jobs.
func jobRun(r *rand.Rand, n, size, way int) []impl.Event {
	model := newModel(n, map[string]int{})
	m := newServiceMaker(r, model, way)
	var events []impl.Event
	for range size {
		e, code := modelEventOf(m.eventLine())
		if code != impl.OK {
			continue
		}
		if e.Kind == impl.EvPropose {
			e.Data = m.turned(e.Data)
		}
		model.do(e)
		events = append(events, e)
	}
	return events
}

// turned are a job's Data as they are, or quiet, or of no job, or of one that no
// line asks for, without a File.
func (m *serviceMaker) turned(of []byte) []byte {
	j, _ := modelReadJob(of)
	switch m.Intn(12) {
	case 0:
		return filled(m.Intn(12))
	case 1:
		j.Seq = 0
	case 2, 3:
		j.Ere, j.Quiet = m.Intn(2) == 0, m.Intn(2) == 0
	case 4:
		j.File = ""
	}
	return bytesOfJob(j)
}
