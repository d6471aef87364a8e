package tests

import (
	"bytes"
	"math/rand"
	"slices"
	"strings"
	"testing"

	"loop.example/g00142/impl"
)

// jobsIn are the jobs whose bytes records have, and the places of these.
func jobsIn(list []impl.Rec) ([]impl.Job, []int) {
	var jobs []impl.Job
	var places []int
	for i, r := range list {
		if j, code := modelReadJob(r.Data); code == impl.OK {
			jobs, places = append(jobs, j), append(places, i)
		}
	}
	return jobs, places
}

// wantWhatChosenMake holds promise 12 at each peer: the jobs among the first of the
// chosen records, as many as the peer has committed, make its state.
func wantWhatChosenMake(t *testing.T, c impl.Cluster, folds modelFolds) {
	t.Helper()
	for peer, p := range c.Peers {
		s, replies, code := impl.Applied(c, peer)
		jobs, places := jobsIn(c.Chosen[:p.Commit])
		state, answers, foldCode := impl.Fold(jobs)
		if code != impl.OK || foldCode != impl.OK || len(replies) != p.Commit || !sameState(s, state) || !sameState(s, folds.of(c.Chosen[:p.Commit]).state()) {
			t.Fatalf("peer %d has applied %.300s with code %d; what was chosen makes %.300s with code %d", peer, shownState(s), code, shownState(state), foldCode)
		}
		want := slices.Repeat([]impl.Reply{failed(impl.ErrForm)}, p.Commit)
		for i, at := range places {
			want[at] = answers[i]
		}
		if !slices.Equal(replies, want) {
			t.Fatalf("peer %d answers %.300s, want %.300s", peer, shownReplies(replies), shownReplies(want))
		}
	}
}

// wantAnswersOf holds the answer to the first job of each client and Seq.
func wantAnswersOf(t *testing.T, c impl.Cluster, folds modelFolds) {
	t.Helper()
	replies := folds.of(c.Chosen).replies
	first := map[[2]int]impl.Reply{}
	jobs, places := jobsIn(c.Chosen)
	for i, j := range jobs {
		if _, there := first[[2]int{j.Client, j.Seq}]; !there {
			first[[2]int{j.Client, j.Seq}] = replies[places[i]]
		}
	}
	for client := range 7 {
		for seq := 0; seq <= 25; seq += 1 + seq/6 {
			want, there := first[[2]int{client, seq}]
			if !there {
				wantAnswerCode(t, c, client, seq, impl.ErrNone)
				continue
			}
			wantAnswer(t, c, client, seq, want)
		}
	}
}

// P12: what a peer has applied is what the chosen jobs make, at each peer, along runs
// that lose, double and crash.
func TestPeersApplyWhatWasChosen(t *testing.T) {
	r := rand.New(rand.NewSource(131))
	applied, less := 0, 0
	for round := range 200 {
		n := 1 + round%7
		if round%2 == 0 {
			n = 3
		}
		events := jobRun(r, n, 300, round)
		folds := modelFolds{}
		for size := 0; size <= len(events); size += 1 + r.Intn(60) {
			c, _, _ := impl.ClusterRun(n, events[:size])
			wantWhatChosenMake(t, c, folds)
			for _, p := range c.Peers {
				applied += p.Commit
				less += min(1, len(c.Chosen)-p.Commit)
			}
		}
		c, _, _ := impl.ClusterRun(n, events)
		wantAnswersOf(t, c, folds)
	}
	if applied < 10000 || less < 500 {
		t.Error("applied", applied, "peers that had not all of it", less)
	}
}

// textOf are lines, each with its end, as many as a text has room for.
func textOf(lines []string, room int) string {
	var text strings.Builder
	for _, line := range lines {
		if text.Len()+len(line)+1 > room {
			break
		}
		text.WriteString(line + "\n")
	}
	return text.String()
}

// P13: what a service says to the first of its lines does not hang on the later ones:
// there may be none, fewer, or others, up to as many as it takes.
func TestServiceSaysNothingOfWhatComes(t *testing.T) {
	r := rand.New(rand.NewSource(133))
	for round := range 100 {
		lines, said := drawnText(r, 300, round, map[string]int{})
		others, _ := drawnText(r, 300, round+1, map[string]int{})
		wantService(t, strings.Join(lines, "\n"), said)
		model := newModelService(map[string]int{})
		for size := range len(lines) + 1 {
			if size > 0 {
				model.do(lines[size-1])
			}
			if size%40 != round%40 && size < 299 {
				continue
			}
			// Just this is said to these lines, and stands ahead of all that is said to more.
			head, first := textOf(lines[:size], impl.MaxText), model.said.String()
			wantService(t, head, first)
			rest := textOf(others[:min(len(others), 300-size)], impl.MaxText-len(head))
			full := textOf(slices.Repeat([]string{"show 1"}, 300-size), impl.MaxText-len(head))
			for _, behind := range []string{rest, full, textOf(lines[size:], impl.MaxText-len(head))} {
				if all, code := impl.Service(head + behind); code != impl.OK || !strings.HasPrefix(all, first) {
					t.Fatalf("round %d: what is said to %d lines hangs on others behind them, with code %d:\n%s%s", round, size, code, head, behind)
				}
			}
		}
	}
	// A service says nothing at all to more lines than it takes.
	wantServiceCode(t, strings.Repeat("tick 0\n", 301), impl.ErrMany)
}

// readBack is a state that was told in bytes, if these are no more than there may be.
func readBack(t *testing.T, s impl.State) bool {
	t.Helper()
	b, code := impl.StateBytes(s)
	want := bytesOfState(s)
	if len(want) > impl.MaxText {
		if code != impl.ErrMany {
			t.Fatalf("a state of %d bytes: code %d", len(want), code)
		}
		return false
	}
	again, readCode := impl.ReadState(b)
	if code != impl.OK || readCode != impl.OK || !bytes.Equal(b, want) || !sameState(again, s) {
		t.Fatalf("a state of %d bytes is read back as %.300s with codes %d and %d, want %.300s", len(want), shownState(again), code, readCode, shownState(s))
	}
	return true
}

// recovered is a peer's log as it comes back from its bytes, by way of a disk that
// crashes behind a sync if it has room for them; and whether there is one.
func recovered(t *testing.T, r *rand.Rand, p impl.Peer) ([]impl.Rec, bool) {
	t.Helper()
	b, code := impl.WalOf(impl.Wal{Term: p.Term, Vote: p.Vote, Log: p.Log})
	if code == impl.ErrMany {
		return nil, false
	}
	if len(b) <= impl.MaxDisk {
		var acts []impl.DiskAct
		for _, piece := range cutUp(b, 1+len(b)/20, r) {
			acts = append(acts, impl.DiskAct{Kind: impl.DkWrite, Data: piece})
		}
		torn := frameOf(t, []byte{2, 1, 1})
		acts = append(acts, impl.DiskAct{Kind: impl.DkSync}, impl.DiskAct{Kind: impl.DkWrite, Data: torn}, impl.DiskAct{Kind: impl.DkCrash, Torn: r.Intn(len(torn))})
		_, disk, _ := impl.DiskRun(acts)
		b, _ = impl.DiskBytes(disk)
	}
	w, recoverCode := impl.Recover(b)
	if code != impl.OK || recoverCode != impl.OK || w.Term != p.Term || w.Vote != p.Vote || w.Base != 0 || !sameRecs(w.Log, p.Log) {
		t.Fatalf("a log comes back with codes %d and %d: @%d vote %d %.300s, want @%d vote %d %.300s", code, recoverCode, w.Term, w.Vote, shownRecs(w.Log), p.Term, p.Vote, shownRecs(p.Log))
	}
	return w.Log, true
}

// wantOneState holds promise 14 of a cluster as it stands: peers that have committed
// alike have one state, it is read back from its bytes, and so are the logs, which
// make it again. It counts what has at most MaxText bytes.
func wantOneState(t *testing.T, r *rand.Rand, c impl.Cluster) (states, logs int) {
	t.Helper()
	byCommit := map[int]string{}
	again := cloneCluster(c)
	for peer, p := range c.Peers {
		s, _, code := impl.Applied(c, peer)
		if first, there := byCommit[p.Commit]; code != impl.OK || there && first != shownState(s) {
			t.Fatalf("peer %d has %.300s with code %d, another one %.300s", peer, shownState(s), code, first)
		}
		byCommit[p.Commit] = shownState(s)
		if readBack(t, s) {
			states++
		}
		if log, there := recovered(t, r, p); there {
			logs++
			again.Peers[peer].Log = log
		}
	}
	for peer := range c.Peers {
		was, _, _ := impl.Applied(c, peer)
		if now, _, code := impl.Applied(again, peer); code != impl.OK || !sameState(now, was) {
			t.Fatalf("peer %d has %.300s of its own log, %.300s of the one that was recovered, with code %d", peer, shownState(was), shownState(now), code)
		}
	}
	return states, logs
}

// P14: jobs sent into a cluster that loses and crashes make one state, read back from
// its bytes, and a log that is recovered.
func TestTheoremOfTheWay(t *testing.T) {
	r := rand.New(rand.NewSource(137))
	states, logs, ended, files := 0, 0, 0, 0
	for round := range 250 {
		n := 1 + round%7
		s := newStory(t, n)
		s.events = jobRun(r, n, 20+r.Intn(120), round)
		s.add(tickOf(-1))
		someStates, someLogs := wantOneState(t, r, s.c)
		// Where all start again, all messages arrive and one of them stands, all come to have the one state.
		if _, enough := askBehind(s, r); enough {
			s.must(tickOf(leading(s.c)))
			enough = arriveAll(s, r, false)
			if enough {
				ended++
				files += wantAllAlike(t, s.c)
			}
		}
		moreStates, moreLogs := wantOneState(t, r, s.c)
		states, logs = states+someStates+moreStates, logs+someLogs+moreLogs
	}
	if states < 1000 || logs < 1000 || ended < 120 || files < 200 {
		t.Error("states", states, "logs", logs, "runs that came to their end", ended, "files", files)
	}
}

// leading is the peer that leads in the greatest term, -1 if none does.
func leading(c impl.Cluster) int {
	best := -1
	for i, p := range c.Peers {
		if p.Role == impl.RlLeader && (best < 0 || p.Term > c.Peers[best].Term) {
			best = i
		}
	}
	return best
}

// wantAllAlike holds that all peers have applied all that was chosen, and tells how
// many files they have.
func wantAllAlike(t *testing.T, c impl.Cluster) int {
	t.Helper()
	jobs, _ := jobsIn(c.Chosen)
	want, _, code := impl.Fold(jobs)
	for peer := range c.Peers {
		s, replies, appliedCode := impl.Applied(c, peer)
		if code != impl.OK || appliedCode != impl.OK || !sameState(s, want) || len(replies) != len(c.Chosen) {
			t.Fatalf("peer %d at the end: %.300s with %d replies and code %d, want %.300s", peer, shownState(s), len(replies), appliedCode, shownState(want))
		}
	}
	return len(want.Files)
}

// P14, of jobs that their client sends until they are answered, wherever they were lost:
// each is done once, and in order.
func TestJobsSentUntilAnswered(t *testing.T) {
	r := rand.New(rand.NewSource(139))
	for round := range 60 {
		s := newStory(t, 3)
		want := newText
		for seq := 1; seq <= 4; seq++ {
			line := jobLine("%", "7", itoa(seq), "log", itoa(seq-1), " $a line "+itoa(seq))
			for sent := 0; ; sent++ {
				if len(s.events) > 280 {
					t.Fatalf("round %d: no answer to job %d", round, seq)
				}
				if _, code := impl.Answer(s.c, 7, seq); code == impl.OK {
					break
				}
				sendOnce(s, r, line)
			}
			want += "line " + itoa(seq) + "\n"
			wantAnswer(t, s.c, 7, seq, done(seq, want))
		}
		states, logs := wantOneState(t, r, s.c)
		if states != 3 || logs != 3 {
			t.Error("states", states, "logs", logs)
		}
		c := s.c
		c.Peers = append(c.Peers, impl.Peer{Log: c.Chosen, Commit: len(c.Chosen)})
		state, _, code := impl.Applied(c, 3)
		if code != impl.OK || !slices.Equal(state.Files, []impl.File{fileOf("log", 4, want)}) {
			t.Fatalf("round %d: %.300s with code %d", round, shownState(state), code)
		}
	}
}

// sendOnce sends a job to whoever leads, or lets one stand; some messages are lost,
// and now and then a peer crashes and comes again.
func sendOnce(s *story, r *rand.Rand, line string) {
	s.t.Helper()
	leader := leading(s.c)
	if leader < 0 {
		s.must(tickOf(r.Intn(3)))
	} else {
		e, code := impl.ReadLine(strings.Replace(line, "%", itoa(leader), 1))
		if code != impl.OK {
			s.t.Fatal(line, code)
		}
		s.must(e, tickOf(leader))
	}
	for range 6 {
		if len(s.c.Net) == 0 {
			return
		}
		if r.Intn(7) == 0 {
			s.must(dropOf(0))
			continue
		}
		s.must(giveOf(0))
	}
	if r.Intn(8) == 0 {
		p := r.Intn(3)
		s.must(crashOf(p), startOf(p))
	}
}

// A state and a log of more than MaxText bytes are not told; what has been applied is.
func TestTheoremBeyondMaxText(t *testing.T) {
	turns := led(t)
	for i := range 9 {
		turns = append(turns, turn{"job 0 1 " + itoa(i+1) + " f" + itoa(i) + " 0 s/$/" + long(870) + "/;p;p", "ok 0\n"})
	}
	for i := range 65 {
		turns = append(turns, turn{"job 0 1 " + itoa(i+10) + " g 7 #" + long(950), "ok 0\n"})
	}
	var events []impl.Event
	for _, x := range slices.Insert(turns, len(turns)-55, settled(t)...) {
		e, _ := impl.ReadLine(x.line)
		events = append(events, e)
	}
	c, _, _ := impl.ClusterRun(3, events)
	states, logs := wantOneState(t, rand.New(rand.NewSource(141)), c)
	if states != 1 || logs != 2 || len(c.Chosen) != 19 || len(c.Peers[0].Log) != 74 {
		t.Error("states", states, "logs", logs, "chosen", len(c.Chosen), "records", len(c.Peers[0].Log))
	}
}
