package tests

import (
	"math/rand"
	"slices"
	"testing"

	"loop.example/g00142/impl"
)

// past is what was to be seen of a run, event by event.
type past struct {
	committed map[int]string // by index: the record that a peer had committed there first
	leaders   map[int]int    // by term: who led in it
	voted     map[[2]int]int // by peer and term: for whom
	chosen    []impl.Rec
	was       []impl.Peer
}

// look holds promise 11 as a cluster stands now against all that was ahead.
func (x *past) look(t *testing.T, c impl.Cluster) {
	t.Helper()
	for p, peer := range c.Peers {
		for i, r := range peer.Log[:peer.Commit] {
			one := shownRecs([]impl.Rec{r})
			if first, there := x.committed[i]; there && first != one {
				t.Fatalf("peer %d has committed %s where %s was:\n%s", p, one, first, shownCluster(c))
			}
			x.committed[i] = one
		}
		if peer.Role == impl.RlLeader {
			if first, there := x.leaders[peer.Term]; there && first != p {
				t.Fatalf("peers %d and %d lead in %d:\n%s", first, p, peer.Term, shownCluster(c))
			}
			x.leaders[peer.Term] = p
		}
		if first := x.voted[[2]int{p, peer.Term}]; first != 0 && first != peer.Vote {
			t.Fatalf("peer %d gave its vote of term %d twice:\n%s", p, peer.Term, shownCluster(c))
		}
		x.voted[[2]int{p, peer.Term}] = peer.Vote
		if x.was != nil && (peer.Term < x.was[p].Term || peer.Up && x.was[p].Up && peer.Commit < x.was[p].Commit) {
			t.Fatalf("peer %d went back from %s to %s", p, shownPeer(x.was[p]), shownPeer(peer))
		}
	}
	if len(c.Chosen) < len(x.chosen) || !sameRecs(c.Chosen[:len(x.chosen)], x.chosen) {
		t.Fatalf("what was chosen does not stay: %s, then %s", shownRecs(x.chosen), shownRecs(c.Chosen))
	}
	if c.Conflict || !impl.Agree(c) {
		t.Fatalf("the peers do not agree:\n%s", shownCluster(c))
	}
	for i, r := range c.Chosen {
		if x.committed[i] != "" && x.committed[i] != shownRecs([]impl.Rec{r}) {
			t.Fatalf("%s is chosen where %s was committed", shownRecs([]impl.Rec{r}), x.committed[i])
		}
	}
	if len(c.Chosen) != len(x.committed) {
		t.Fatalf("%d are chosen, %d were committed", len(c.Chosen), len(x.committed))
	}
	wantLogsMatch(t, c)
	x.chosen, x.was = c.Chosen, c.Peers
}

// wantLogsMatch holds that two logs with one term at an index are the same up to it,
// and that terms do not fall along a log.
func wantLogsMatch(t *testing.T, c impl.Cluster) {
	t.Helper()
	for p, a := range c.Peers {
		for i, r := range a.Log {
			if r.Index != i+1 || r.Term > a.Term || i > 0 && r.Term < a.Log[i-1].Term {
				t.Fatalf("the log of peer %d: %s", p, shownPeer(a))
			}
		}
		for _, b := range c.Peers[:p] {
			last := min(len(a.Log), len(b.Log))
			for last > 0 && a.Log[last-1].Term != b.Log[last-1].Term {
				last--
			}
			if !sameRecs(a.Log[:last], b.Log[:last]) {
				t.Fatalf("logs with one term at %d differ:\n%s\n%s", last, shownRecs(a.Log), shownRecs(b.Log))
			}
		}
	}
}

// P11: no two peers commit different records at one index, and what was chosen
// stays, event by event, where messages are lost, doubled and out of order and
// peers crash.
func TestPeersAgreeOnOneLog(t *testing.T) {
	r := rand.New(rand.NewSource(119))
	chosen, led := 0, 0
	for round := range 160 {
		n := 1 + r.Intn(7)
		if round%2 == 0 {
			n = 3 + 2*(round/2%2)
		}
		events, codes, _ := drawn(r, n, 300, round, map[string]int{})
		x := past{committed: map[int]string{}, leaders: map[int]int{}, voted: map[[2]int]int{}}
		for size := 0; size <= len(events); size++ {
			c, got, _ := impl.ClusterRun(n, events[:size])
			if !slices.Equal(got, codes[:size]) {
				t.Fatalf("the first %d codes hang on the events behind them", size)
			}
			x.look(t, c)
		}
		chosen, led = chosen+len(x.chosen), led+len(x.leaders)
	}
	if chosen < 1000 || led < 500 {
		t.Error("chosen", chosen, "leaders", led)
	}
}

// arriveAll lets all messages arrive, in an order that is drawn, some of them
// twice; it tells whether a run has events enough for that.
func arriveAll(s *story, r *rand.Rand, doubled bool) bool {
	s.t.Helper()
	for len(s.c.Net) > 0 {
		if len(s.events) >= impl.MaxEvents-2 {
			return false
		}
		at := r.Intn(len(s.c.Net))
		if doubled && len(s.c.Net) < 12 && r.Intn(10) == 0 {
			s.must(doubleOf(at))
		}
		s.must(giveOf(at))
	}
	return true
}

// P11: where one peer stands, all messages arrive and nothing crashes, what it is
// asked for is chosen.
func TestWhatIsAskedForIsChosen(t *testing.T) {
	r := rand.New(rand.NewSource(121))
	for n := 1; n <= 7; n++ {
		for p := range n {
			for round := range 6 {
				s := newStory(t, n).must(tickOf(p))
				arriveAll(s, r, round%2 == 1)
				if s.c.Peers[p].Role != impl.RlLeader {
					t.Fatalf("peer %d of %d stands and does not lead: %s", p, n, shownPeer(s.c.Peers[p]))
				}
				var want []impl.Rec
				for i := range 4 {
					for range 1 + r.Intn(2) {
						data := itoa(p) + "." + itoa(i)
						s.must(proposeOf(p, data))
						want = append(want, rec(1, len(want)+1, data))
					}
					s.must(tickOf(p))
					arriveAll(s, r, round%2 == 1)
					s.wantChosen(shownRecs(want))
				}
				s.must(tickOf(p))
				arriveAll(s, r, false)
				for i, peer := range s.c.Peers {
					if peer.Commit != len(want) || !sameRecs(peer.Log, want) {
						t.Fatalf("peer %d of %d: %s, want %s", i, n, shownPeer(peer), shownRecs(want))
					}
				}
			}
		}
	}
}

// foremost is the peer whose log ends latest.
func foremost(c impl.Cluster) int {
	best, end := 0, []int{-1, -1}
	for p, peer := range c.Peers {
		now := []int{0, 0}
		if n := len(peer.Log); n > 0 {
			now = []int{peer.Log[n-1].Term, n}
		}
		if slices.Compare(now, end) > 0 {
			best, end = p, now
		}
	}
	return best
}

// leadsAll tells whether a peer leads, and none has gone on to a greater term: what
// a leader is asked for in a term that is over need not be chosen.
func leadsAll(c impl.Cluster, p int) bool {
	return c.Peers[p].Role == impl.RlLeader && !slices.ContainsFunc(c.Peers, func(other impl.Peer) bool { return other.Term > c.Peers[p].Term })
}

// askBehind lets all start and all messages arrive, and one peer whose log is
// foremost stand until it leads; then it asks that one, and tells what was chosen
// ahead of that, and whether the run had events enough for it all.
func askBehind(s *story, r *rand.Rand) ([]impl.Rec, bool) {
	s.t.Helper()
	for p := range s.c.Peers {
		if !s.c.Peers[p].Up {
			s.must(startOf(p))
		}
	}
	if !arriveAll(s, r, false) {
		return nil, false
	}
	p := foremost(s.c)
	for !leadsAll(s.c, p) {
		if s.must(tickOf(p)); !arriveAll(s, r, false) {
			return nil, false
		}
	}
	was := s.c.Chosen
	s.must(proposeOf(p, "asked"), tickOf(p))
	return was, arriveAll(s, r, false)
}

// P11, whatever was ahead: what a peer is asked for is chosen, behind all that was.
func TestWhatIsAskedForIsChosenBehindCrashes(t *testing.T) {
	r := rand.New(rand.NewSource(123))
	met, chosen := 0, 0
	for round := range 300 {
		events, _, _ := drawn(r, 1+round%7, 20+r.Intn(100), round, map[string]int{})
		s := newStory(t, 1+round%7)
		s.events = events[:len(events)-1]
		s.add(events[len(events)-1])
		was, enough := askBehind(s, r)
		if !enough {
			continue
		}
		last := len(s.c.Chosen) - 1
		if last < len(was) || !sameRecs(s.c.Chosen[:len(was)], was) || string(s.c.Chosen[last].Data) != "asked" {
			t.Fatalf("round %d: %s, then\n%s", round, shownRecs(was), shownCluster(s.c))
		}
		s.wantChosen(shownRecs(s.c.Chosen))
		met, chosen = met+1, chosen+len(was)
	}
	if met < 200 || chosen < 200 {
		t.Error("only", met, "runs went on to their end, with", chosen, "records ahead")
	}
}
