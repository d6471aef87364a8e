package tests

import (
	"slices"
	"strings"
	"testing"

	"loop.example/g00142/impl"
)

// recsWith are records of term 1 with these Data, one each.
func recsWith(data ...string) []impl.Rec {
	var list []impl.Rec
	for i, d := range data {
		list = append(list, rec(1, i+1, d))
	}
	return list
}

// dataOf are the bytes of a job, right or not, as a record's Data.
func dataOf(client, seq int, file string, version int, script, text string) string {
	return string(bytesOfJob(jobOf(client, seq, file, version, script, text)))
}

// committing is a cluster whose peers have all records, which are chosen, and have
// committed so many of them.
func committing(list []impl.Rec, commits ...int) impl.Cluster {
	c := impl.Cluster{Chosen: cloneRecs(list)}
	for _, commit := range commits {
		c.Peers = append(c.Peers, impl.Peer{Up: true, Term: 1, Commit: commit, Log: cloneRecs(list)})
	}
	return c
}

func shownReplies(list []impl.Reply) string {
	var out []string
	for _, r := range list {
		out = append(out, shownReply(r))
	}
	return strings.Join(out, " ")
}

func wantApplied(t *testing.T, c impl.Cluster, peer int, want impl.State, replies ...impl.Reply) {
	t.Helper()
	s, got, code := impl.Applied(c, peer)
	if code != impl.OK || !sameState(s, want) || !slices.Equal(got, replies) {
		t.Errorf("Applied at peer %d: %.400s and %.400s with code %d, want %.400s and %.400s", peer, shownState(s), shownReplies(got), code, shownState(want), shownReplies(replies))
	}
	if !impl.StateOK(s) {
		t.Errorf("Applied at peer %d makes a state that is not right: %.400s", peer, shownState(s))
	}
}

func wantAppliedCode(t *testing.T, c impl.Cluster, peer, want int) {
	t.Helper()
	s, replies, code := impl.Applied(c, peer)
	if code != want || !isZeroState(s) || replies != nil {
		t.Errorf("Applied at peer %d: %.200s and %d replies with code %d, want code %d", peer, shownState(s), len(replies), code, want)
	}
}

func wantAnswer(t *testing.T, c impl.Cluster, client, seq int, want impl.Reply) {
	t.Helper()
	if got, code := impl.Answer(c, client, seq); code != impl.OK || got != want {
		t.Errorf("Answer to %d:%d: %s with code %d, want %s", client, seq, shownReply(got), code, shownReply(want))
	}
}

func wantAnswerCode(t *testing.T, c impl.Cluster, client, seq, want int) {
	t.Helper()
	if got, code := impl.Answer(c, client, seq); code != want || got != (impl.Reply{}) {
		t.Errorf("Answer to %d:%d: %s with code %d, want code %d", client, seq, shownReply(got), code, want)
	}
}

// mixed are records of jobs that are done, refused, come again and come late, with
// some that are none among them; and what stands behind each, from none on.
func mixed() (list []impl.Rec, states []impl.State, replies []impl.Reply) {
	made, edited, other := done(1, "x\n"), done(2, "x\nx\n"), done(1, "b\n")
	a1, a2, b := fileOf("a", 1, "x\n"), fileOf("a", 2, "x\nx\n"), fileOf("b", 1, "b\n")
	files := [][]impl.File{nil, nil, {a1}, {a1}, {a2}, {a2}, {a2}, {a2}, {a2, b}, {a2, b}}
	stale, late := failed(impl.ErrVersion), failed(impl.ErrStale)
	sessions := [][]impl.Session{nil, nil, {sessionOf(5, 1, made)}, {sessionOf(5, 1, made)}, {sessionOf(5, 1, made), sessionOf(2, 3, edited)}}
	again := sessions[4]
	refused := []impl.Session{sessionOf(5, 2, stale), sessionOf(2, 3, edited)}
	last := []impl.Session{sessionOf(5, 2, stale), sessionOf(2, 4, other)}
	sessions = append(sessions, again, refused, refused, last, last)
	for i := range files {
		states = append(states, stateOf(files[i], sessions[i]...))
	}
	list = recsWith("no job",
		dataOf(5, 1, "a", 0, "", "x"),
		dataOf(5, 0, "a", 1, "d", ""), // not right: Seq is 0
		dataOf(2, 3, "a", 1, "p", ""),
		dataOf(5, 1, "a", 2, "d", ""), // comes again, whatever else it has
		dataOf(5, 2, "a", 1, "d", ""), // of a version that is gone
		dataOf(2, 2, "a", 2, "d", ""), // comes late
		dataOf(2, 4, "b", 0, "", "b"),
		"")
	return list, states, []impl.Reply{failed(impl.ErrForm), made, failed(impl.ErrForm), edited, made, stale, late, other, failed(impl.ErrForm)}
}

// What a peer has committed, and no more, makes its state: at each Commit, at each peer.
func TestAppliedAtEachCommit(t *testing.T) {
	list, states, replies := mixed()
	for commit := range states {
		c := committing(list, commit, 9-commit, 9, 0)
		wantApplied(t, c, 0, states[commit], replies[:commit]...)
		wantApplied(t, c, 1, states[9-commit], replies[:9-commit]...)
		wantApplied(t, c, 2, states[9], replies...)
		wantApplied(t, c, 3, impl.State{})
		// Just what is committed is there, or others stand behind it.
		c.Peers[0].Log = c.Peers[0].Log[:commit]
		c.Peers[1].Log = append(c.Peers[1].Log[:9-commit], rec(7, 77, dataOf(9, 9, "z", 0, "", "")))
		wantApplied(t, c, 0, states[commit], replies[:commit]...)
		wantApplied(t, c, 1, states[9-commit], replies[:9-commit]...)
	}
}

// Only the records count: not whether a peer is up, nor its Term, Vote and Role, nor Net.
func TestAppliedLooksAtRecordsAlone(t *testing.T) {
	list, states, replies := mixed()
	c := committing(list, 9, 4)
	c.Net = []impl.Msg{{Kind: 9, To: 77}}
	for i := range c.Peers {
		p := &c.Peers[i]
		p.Up, p.Term, p.Vote, p.Role, p.Votes, p.Next, p.Match = false, -3, greatest, least, make([]bool, 9), make([]int, 9), []int{least}
	}
	wantApplied(t, c, 0, states[9], replies...)
	wantApplied(t, c, 1, states[4], replies[:4]...)
	// Terms and indexes of records are whatever they are, if the peers agree on them.
	for i := range list {
		list[i].Term, list[i].Index = least+i, greatest-i
	}
	c = committing(list, 9)
	wantApplied(t, c, 0, states[9], replies...)
	wantAnswer(t, c, 2, 4, replies[7])
}

// Each kind of Data: of right jobs, of jobs that are not, of none.
func TestAppliedData(t *testing.T) {
	for _, j := range rightJobs() {
		s, reply, _ := impl.Apply(impl.State{}, j)
		c := committing(recsWith("none", string(bytesOfJob(j))), 2)
		wantApplied(t, c, 0, s, failed(impl.ErrForm), reply)
		wantAnswer(t, c, j.Client, j.Seq, reply)
	}
	var odd []string
	for _, j := range wrongJobs() {
		if min(j.Client, j.Seq, j.Version) >= 0 {
			odd = append(odd, string(bytesOfJob(j)))
		}
	}
	for _, j := range byteJobs() {
		whole := string(bytesOfJob(j))
		odd = append(odd, whole[:len(whole)-1], whole+"\x00", whole+whole, "\x00"+whole, whole[:len(whole)-1]+"\x04", whole[:len(whole)-1]+"\xff", whole[:len(whole)/2])
	}
	// More bytes than a text has, and bytes of what is no job.
	odd = append(odd, "", "\x00", "job 0 1 1 a 0 p", string(filled(1000)), string(filled(65536)), string(filled(65537)), string(bytesOfJob(byteJobs()[1]))+strings.Repeat("\x00", 70000), string(bytesOfState(impl.State{})), string(bytesOfState(stateOf(manyFiles(3)))))
	first := jobOf(4, 4, "a", 0, "", "x")
	s, reply, _ := impl.Apply(impl.State{}, first)
	for _, data := range odd {
		if _, code := modelReadJob([]byte(data)); code == impl.OK {
			t.Fatalf("%.100q are a job's bytes", data)
		}
		c := committing(recsWith(data, string(bytesOfJob(first)), data), 3, 1)
		wantApplied(t, c, 0, s, failed(impl.ErrForm), reply, failed(impl.ErrForm))
		wantApplied(t, c, 1, impl.State{}, failed(impl.ErrForm))
	}
}

// MaxLog may be chosen; one more is ErrBad, also if no peer has committed it, or any.
func TestAppliedChosenMany(t *testing.T) {
	for _, size := range []int{0, 1, 99, 100, 101, 102, 200, 4096, 4097} {
		list := make([]impl.Rec, size)
		for i := range list {
			list[i] = rec(1, i+1, dataOf(1, i+1, "f"+itoa(i%7), i/7, "s/$/./", ""))
		}
		var jobs []impl.Job
		for _, r := range list[:min(size, 100)] {
			j, _ := impl.ReadJob(r.Data)
			jobs = append(jobs, j)
		}
		c := committing(list, size, 0, size/2)
		if size > 100 {
			for peer := -1; peer <= 3; peer++ {
				wantAppliedCode(t, c, peer, impl.ErrBad)
			}
			wantAnswerCode(t, c, 1, 1, impl.ErrBad)
			wantAnswerCode(t, c, 1, greatest, impl.ErrBad)
			wantAppliedCode(t, impl.Cluster{Chosen: list, Peers: make([]impl.Peer, 3)}, 0, impl.ErrBad)
			wantAppliedCode(t, impl.Cluster{Chosen: list}, 0, impl.ErrBad)
			continue
		}
		for peer, commit := range []int{size, 0, size / 2} {
			s, replies, code := impl.Fold(jobs[:commit])
			if code != impl.OK {
				t.Fatal(code)
			}
			wantApplied(t, c, peer, s, replies...)
		}
		// A log may be longer than what is chosen.
		c.Peers[1].Log = append(c.Peers[1].Log, slices.Repeat(recsWith("more"), 200)...)
		wantApplied(t, c, 1, impl.State{})
		_, replies, _ := impl.Fold(jobs)
		for i := range jobs {
			wantAnswer(t, c, 1, i+1, replies[i])
		}
		wantAnswerCode(t, c, 1, size+1, impl.ErrNone)
	}
}

// ErrBad unless Agree: whoever it is that does not, whichever peer is asked, also
// one that there is not.
func TestAppliedUnlessAgree(t *testing.T) {
	list, states, replies := mixed()
	right := committing(list, 9, 4, 0)
	wantApplied(t, right, 1, states[4], replies[:4]...)
	wrong := []func(*impl.Cluster){func(c *impl.Cluster) { c.Conflict = true }}
	for p := range 3 {
		wrong = append(wrong,
			func(c *impl.Cluster) { c.Peers[p].Commit = -1 }, func(c *impl.Cluster) { c.Peers[p].Commit = least },
			func(c *impl.Cluster) { c.Peers[p].Commit = 10 }, func(c *impl.Cluster) { c.Peers[p].Commit = greatest },
			func(c *impl.Cluster) { c.Peers[p].Log, c.Peers[p].Commit = c.Peers[p].Log[:3], 4 },
			func(c *impl.Cluster) { c.Peers[p].Log, c.Peers[p].Commit = append(c.Peers[p].Log, rec(1, 10, "x")), 10 },
			func(c *impl.Cluster) { c.Chosen, c.Peers[p].Commit = c.Chosen[:3], 4 })
		for _, change := range changes() {
			wrong = append(wrong, func(c *impl.Cluster) {
				c.Peers[p].Commit = max(c.Peers[p].Commit, 1)
				change(&c.Peers[p].Log[0])
			})
		}
	}
	for _, change := range changes() {
		wrong = append(wrong, func(c *impl.Cluster) { change(&c.Chosen[3]) })
	}
	for i, spoilt := range wrong {
		c := cloneCluster(right)
		spoilt(&c)
		if impl.Agree(c) {
			t.Fatal("change", i, "does no harm")
		}
		for _, peer := range []int{least, -1, 0, 1, 2, 3, greatest} {
			wantAppliedCode(t, c, peer, impl.ErrBad)
		}
		wantAnswerCode(t, c, 5, 1, impl.ErrBad)
		wantAnswerCode(t, c, 77, 1, impl.ErrBad)
	}
	wantAppliedCode(t, impl.Cluster{Conflict: true}, 0, impl.ErrBad)
	wantAnswerCode(t, impl.Cluster{Conflict: true}, 1, 1, impl.ErrBad)
}

// ErrRange unless there is such a peer; there may be any number of them.
func TestAppliedPeers(t *testing.T) {
	list, states, replies := mixed()
	for _, n := range []int{0, 1, 2, 3, 7, 8, 50, 5000} {
		c := committing(list, slices.Repeat([]int{9}, n)...)
		for _, peer := range []int{least, least + 1, -2, -1, n, n + 1, greatest - 1, greatest} {
			wantAppliedCode(t, c, peer, impl.ErrRange)
		}
		for peer := 0; peer < n; peer += 1 + n/10 {
			wantApplied(t, c, peer, states[9], replies...)
		}
		wantAnswer(t, c, 2, 3, replies[3])
	}
	wantAppliedCode(t, impl.Cluster{}, 0, impl.ErrRange)
	wantAnswerCode(t, impl.Cluster{}, 1, 1, impl.ErrNone)
}

// The answer is that to the first such job among the chosen, as it was applied
// behind those ahead of it, whatever the peers have committed.
func TestAnswer(t *testing.T) {
	list, _, replies := mixed()
	for _, commits := range [][]int{nil, {0}, {9, 9, 9}, {3, 0, 8}} {
		c := committing(list, commits...)
		for _, want := range []struct{ client, seq, at int }{{5, 1, 1}, {2, 3, 3}, {5, 2, 5}, {2, 2, 6}, {2, 4, 7}} {
			wantAnswer(t, c, want.client, want.seq, replies[want.at])
		}
		for _, none := range [][2]int{{5, 0}, {5, 3}, {2, 1}, {2, 5}, {1, 1}, {1, 5}, {3, 2}, {4, 2}, {0, 0}, {-1, 1}, {5, -1}, {least, least}, {greatest, greatest}, {5, 1000001}, {1000001, 1}} {
			wantAnswerCode(t, c, none[0], none[1], impl.ErrNone)
		}
	}
	// Where its place is among the chosen.
	for place := range 10 {
		for _, ahead := range []string{"none", "", dataOf(1, 1, "a", 0, "", ""), dataOf(2, 2, "b", 0, "p", "b"), dataOf(3, 0, "a", 1, "p", "")} {
			data := slices.Repeat([]string{ahead}, 10)
			data[place] = dataOf(3, 7, "c", 0, "s/c/d/", "c\n")
			wantAnswer(t, committing(recsWith(data...)), 3, 7, done(1, "d\n"))
			wantAnswerCode(t, committing(recsWith(append(data[:place], "none")...)), 3, 7, impl.ErrNone)
		}
	}
}

// A job that is there several times: the first of them is answered, not the last.
func TestAnswerOfTheFirst(t *testing.T) {
	first, second := dataOf(1, 2, "a", 0, "", "x"), dataOf(1, 2, "b", 0, "", "y")
	for _, data := range [][]string{{first, second}, {first, first, second}, {"none", first, dataOf(1, 3, "c", 0, "", "z"), second}, {first, dataOf(1, 3, "c", 0, "", "z"), first}} {
		wantAnswer(t, committing(recsWith(data...), 1), 1, 2, done(1, "x\n"))
	}
	// What comes behind a greater Seq is late, and that is its answer, though it was never done.
	c := committing(recsWith(dataOf(1, 3, "c", 0, "", "z"), first, dataOf(1, 1, "a", 0, "", "x")))
	wantAnswer(t, c, 1, 2, failed(impl.ErrStale))
	wantAnswer(t, c, 1, 1, failed(impl.ErrStale))
	wantAnswer(t, c, 1, 3, done(1, "z\n"))
	// The first has its own answer, also if it comes again when it is late.
	c = committing(recsWith(first, dataOf(1, 3, "c", 0, "", "z"), first))
	wantApplied(t, committing(c.Chosen, 3), 0, stateOf([]impl.File{fileOf("a", 1, "x\n"), fileOf("c", 1, "z\n")}, sessionOf(1, 3, done(1, "z\n"))), done(1, "x\n"), done(1, "z\n"), failed(impl.ErrStale))
	wantAnswer(t, c, 1, 2, done(1, "x\n"))
	// Clients and Seqs of one number are not mixed up.
	c = committing(recsWith(dataOf(1, 2, "a", 0, "", "1"), dataOf(2, 1, "b", 0, "", "2"), dataOf(2, 2, "c", 0, "", "3"), dataOf(12, 1, "d", 0, "", "4")))
	for _, want := range []struct {
		client, seq int
		said        string
	}{{1, 2, "1\n"}, {2, 1, "2\n"}, {2, 2, "3\n"}, {12, 1, "4\n"}} {
		wantAnswer(t, c, want.client, want.seq, done(1, want.said))
	}
	wantAnswerCode(t, c, 1, 1, impl.ErrNone)
}

// Each code that a job may have is told as its answer: the call itself has none.
func TestAppliedCodes(t *testing.T) {
	var data []string
	var want []impl.Reply
	add := func(file string, version int, script, text string, reply impl.Reply) {
		data = append(data, dataOf(1, len(data)+1, file, version, script, text))
		want = append(want, reply)
	}
	for i := range 20 {
		add("f"+itoa(i), 0, "", "x", done(1, "x\n"))
	}
	add("f20", 0, "", "x", failed(impl.ErrMany))
	add("f 1", 0, "", "x", failed(impl.ErrName))
	add("", 0, "", "x", failed(impl.ErrName))
	add("f1", 2, "", "", failed(impl.ErrVersion))
	add("f1", 1, "", "x", failed(impl.ErrVersion))
	add("f20", 1, "", "", failed(impl.ErrVersion))
	for _, c := range editFaults {
		if c.text == "x" && c.code != impl.OK && !c.ere {
			add("f0", 1, c.script, "", failed(c.code))
		}
	}
	add("f0", 1, "w x", "", failed(impl.ErrForbid))
	add("f0", 1, "0p", "", failed(impl.ErrRange))
	add("f0", 1, "b x", "", failed(impl.ErrLabel))
	add("f0", 1, "s/x/"+long(999)+"&&/", "", failed(impl.ErrSize))
	add("f0", 1, "p", "", done(2, "x\nx\n"))
	c := committing(recsWith(data...), len(data))
	s, replies, code := impl.Applied(c, 0)
	if code != impl.OK || !slices.Equal(replies, want) || len(s.Files) != 20 || len(s.Sessions) != 1 {
		t.Errorf("%s with code %d, want %s", shownReplies(replies), code, shownReplies(want))
	}
	for i := range data {
		wantAnswer(t, c, 1, i+1, want[i])
	}
}
