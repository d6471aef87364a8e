package tests

import (
	"slices"
	"strings"
	"testing"

	"loop.example/g00142/impl"
)

func tickOf(n int) impl.Event   { return impl.Event{Kind: impl.EvTick, N: n} }
func giveOf(n int) impl.Event   { return impl.Event{Kind: impl.EvDeliver, N: n} }
func dropOf(n int) impl.Event   { return impl.Event{Kind: impl.EvDrop, N: n} }
func doubleOf(n int) impl.Event { return impl.Event{Kind: impl.EvDouble, N: n} }
func crashOf(n int) impl.Event  { return impl.Event{Kind: impl.EvCrash, N: n} }
func startOf(n int) impl.Event  { return impl.Event{Kind: impl.EvStart, N: n} }

func proposeOf(n int, data string) impl.Event {
	return impl.Event{Kind: impl.EvPropose, N: n, Data: []byte(data)}
}

func shownNumbers(list []int) string {
	var out []string
	for _, n := range list {
		out = append(out, itoa(n))
	}
	return strings.Join(out, ",")
}

func shownRecs(list []impl.Rec) string {
	var out []string
	for _, r := range list {
		out = append(out, itoa(r.Term)+"."+itoa(r.Index)+string(r.Data))
	}
	return "[" + strings.Join(out, " ") + "]"
}

// shownMsg is a message's kind, from whom it is to whom, its Term, and A, B and
// C; then Ok and the records, if it has any.
func shownMsg(m impl.Msg) string {
	kind := itoa(m.Kind)
	if m.Kind >= 1 && m.Kind <= 4 {
		kind = []string{"vote", "voted", "append", "appended"}[m.Kind-1]
	}
	text := kind + " " + itoa(m.From) + ">" + itoa(m.To) + " @" + itoa(m.Term) + " " + shownNumbers([]int{m.A, m.B, m.C})
	if m.Ok {
		text += " ok"
	}
	if len(m.Log) > 0 {
		text += " " + shownRecs(m.Log)
	}
	return text
}

// shownPeer is a peer's role, Term, Vote, Commit and records; then whatever it
// has of Votes (the peers that gave theirs), Next and Match.
func shownPeer(p impl.Peer) string {
	role := itoa(p.Role)
	if p.Role >= 0 && p.Role <= 2 {
		role = []string{"follower", "candidate", "leader"}[p.Role]
	}
	text := role + " @" + itoa(p.Term) + " vote " + itoa(p.Vote) + " commit " + itoa(p.Commit) + " " + shownRecs(p.Log)
	if !p.Up {
		text = "down " + text
	}
	if len(p.Votes) > 0 {
		text += " votes "
		for _, granted := range p.Votes {
			text += map[bool]string{true: "x", false: "-"}[granted]
		}
	}
	if len(p.Next) > 0 {
		text += " next " + shownNumbers(p.Next)
	}
	if len(p.Match) > 0 {
		text += " match " + shownNumbers(p.Match)
	}
	return text
}

func shownNet(net []impl.Msg) []string {
	var out []string
	for _, m := range net {
		out = append(out, shownMsg(m))
	}
	return out
}

func shownCluster(c impl.Cluster) string {
	var out []string
	for _, p := range c.Peers {
		out = append(out, shownPeer(p))
	}
	out = append(append(out, shownNet(c.Net)...), "chosen "+shownRecs(c.Chosen))
	if c.Conflict {
		out = append(out, "conflict")
	}
	return strings.Join(out, "\n")
}

func isZeroCluster(c impl.Cluster) bool {
	return c.Peers == nil && c.Net == nil && c.Chosen == nil && !c.Conflict
}

// story is a run that goes on event by event.
type story struct {
	t      *testing.T
	peers  int
	events []impl.Event
	c      impl.Cluster
}

func newStory(t *testing.T, peers int) *story {
	t.Helper()
	c, codes, code := impl.ClusterRun(peers, nil)
	if code != impl.OK || len(codes) != 0 {
		t.Fatal("a run without events:", codes, code)
	}
	return &story{t: t, peers: peers, c: c}
}

// add does one event more and answers its code.
func (s *story) add(e impl.Event) int {
	s.t.Helper()
	s.events = append(s.events, e)
	c, codes, code := impl.ClusterRun(s.peers, s.events)
	if code != impl.OK || len(codes) != len(s.events) {
		s.t.Fatalf("a run of %d events: %d codes with code %d", len(s.events), len(codes), code)
	}
	s.c = c
	return codes[len(codes)-1]
}

// must does events that have no code.
func (s *story) must(events ...impl.Event) *story {
	s.t.Helper()
	for _, e := range events {
		if code := s.add(e); code != impl.OK {
			s.t.Fatalf("event %d, kind %d of %d: code %d", len(s.events)-1, e.Kind, e.N, code)
		}
	}
	return s
}

// refuse does an event that has a code: nothing changes.
func (s *story) refuse(e impl.Event, code int) {
	s.t.Helper()
	was := shownCluster(s.c)
	if got := s.add(e); got != code {
		s.t.Errorf("kind %d of %d with %d bytes: code %d, want %d", e.Kind, e.N, len(e.Data), got, code)
	}
	if now := shownCluster(s.c); now != was {
		s.t.Errorf("kind %d of %d has a code and changed\n%s\nto\n%s", e.Kind, e.N, was, now)
	}
}

// place is that of the first message whose shown text begins so.
func (s *story) place(text string) int {
	s.t.Helper()
	at := slices.IndexFunc(s.c.Net, func(m impl.Msg) bool { return strings.HasPrefix(shownMsg(m)+" ", text+" ") })
	if at < 0 {
		s.t.Fatalf("no message %q among\n%s", text, strings.Join(shownNet(s.c.Net), "\n"))
	}
	return at
}

// give lets messages arrive, each the first one that is shown so.
func (s *story) give(texts ...string) *story {
	s.t.Helper()
	for _, text := range texts {
		s.must(giveOf(s.place(text)))
	}
	return s
}

func (s *story) double(text string) *story {
	s.t.Helper()
	return s.must(doubleOf(s.place(text)))
}

// clear loses all messages.
func (s *story) clear() *story {
	s.t.Helper()
	for len(s.c.Net) > 0 {
		s.must(dropOf(0))
	}
	return s
}

// settle lets all messages arrive, first come first served.
func (s *story) settle() *story {
	s.t.Helper()
	for len(s.c.Net) > 0 {
		s.must(giveOf(0))
	}
	return s
}

// pair is from whom a message is to whom, as it is shown.
func pair(from, to int) string { return itoa(from) + ">" + itoa(to) }

// elect makes a peer the leader of a term by the votes of some others. Whatever
// else was sent is lost.
func (s *story) elect(p, term int, voters ...int) *story {
	s.t.Helper()
	if s.c.Peers[p].Role == impl.RlLeader {
		s.must(crashOf(p), startOf(p))
	}
	for s.c.Peers[p].Term < term {
		s.clear().must(tickOf(p))
	}
	for _, v := range voters {
		s.give("vote "+pair(p, v), "voted "+pair(v, p)+" @"+itoa(term)+" 0,0,0 ok")
	}
	if got := s.c.Peers[p]; got.Role != impl.RlLeader || got.Term != term {
		s.t.Fatalf("peer %d is to lead in %d: %s", p, term, shownPeer(got))
	}
	return s.clear()
}

// propose asks a leader for records, each of one byte.
func (s *story) propose(p int, data string) *story {
	s.t.Helper()
	for _, c := range data {
		s.must(proposeOf(p, string(c)))
	}
	return s
}

// hand lets a leader's records arrive at some others, and their answers too.
func (s *story) hand(p int, others ...int) *story {
	s.t.Helper()
	s.must(tickOf(p))
	for _, to := range others {
		s.give("append "+pair(p, to), "appended "+pair(to, p))
	}
	return s.clear()
}

func (s *story) wantPeer(p int, want string) *story {
	s.t.Helper()
	if got := shownPeer(s.c.Peers[p]); got != want {
		s.t.Errorf("peer %d behind %d events: %s\nwant %s", p, len(s.events), got, want)
	}
	return s
}

func (s *story) wantNet(want ...string) *story {
	s.t.Helper()
	if got := shownNet(s.c.Net); !slices.Equal(got, want) {
		s.t.Errorf("messages behind %d events:\n%s\nwant\n%s", len(s.events), strings.Join(got, "\n"), strings.Join(want, "\n"))
	}
	return s
}

// wantLast holds what was sent last.
func (s *story) wantLast(want string) *story {
	s.t.Helper()
	got := shownNet(s.c.Net)
	if len(got) == 0 || got[len(got)-1] != want {
		s.t.Errorf("messages behind %d events:\n%s\nwant at last\n%s", len(s.events), strings.Join(got, "\n"), want)
	}
	return s
}

func (s *story) wantChosen(want string) *story {
	s.t.Helper()
	if got := shownRecs(s.c.Chosen); got != want || s.c.Conflict || !impl.Agree(s.c) {
		s.t.Errorf("chosen behind %d events: %s, want %s; conflict %v", len(s.events), got, want, s.c.Conflict)
	}
	return s
}

func TestClusterConstants(t *testing.T) {
	got := []int{impl.MaxPeers, impl.MaxEvents, impl.MaxNet, impl.RlFollower, impl.RlCandidate, impl.RlLeader, impl.MsVote, impl.MsVoted, impl.MsAppend, impl.MsAppended,
		impl.EvTick, impl.EvDeliver, impl.EvDrop, impl.EvDouble, impl.EvCrash, impl.EvStart, impl.EvPropose}
	if want := []int{7, 300, 200, 0, 1, 2, 1, 2, 3, 4, 1, 2, 3, 4, 5, 6, 7}; !slices.Equal(got, want) {
		t.Error(got)
	}
}

func TestMajority(t *testing.T) {
	for n, want := range []int{0, 1, 2, 2, 3, 3, 4, 4, 0, 0, 0} {
		if got := impl.Majority(n); got != want {
			t.Error("most of", n, "are", got)
		}
	}
	for _, n := range []int{least, least + 1, -7, -1, 100, 4097, greatest - 1, greatest} {
		if got := impl.Majority(n); got != 0 {
			t.Error("most of", n, "are", got)
		}
	}
}

// All peers are up at first, with nothing.
func TestClusterAtFirst(t *testing.T) {
	for n := 1; n <= impl.MaxPeers; n++ {
		s := newStory(t, n)
		if len(s.c.Peers) != n {
			t.Fatal(n, "peers:", len(s.c.Peers))
		}
		for p := range n {
			s.wantPeer(p, "follower @0 vote 0 commit 0 []")
		}
		s.wantNet().wantChosen("[]")
	}
}

// wantClusterCode holds that a run has a code, and nothing else.
func wantClusterCode(t *testing.T, n int, events []impl.Event, want int) {
	t.Helper()
	c, codes, code := impl.ClusterRun(n, events)
	if code != want {
		t.Errorf("ClusterRun(%d, %d events): code %d, want %d", n, len(events), code, want)
	}
	if code != impl.OK && (!isZeroCluster(c) || codes != nil) {
		t.Errorf("ClusterRun(%d, %d events): code %d beside an answer", n, len(events), code)
	}
	if code == impl.OK && (len(c.Peers) != n || len(codes) != len(events)) {
		t.Errorf("ClusterRun(%d, %d events): %d peers, %d codes", n, len(events), len(c.Peers), len(codes))
	}
}

func TestClusterSizes(t *testing.T) {
	for _, size := range []int{0, 1, 299, 300, 301, 302, 4095, 4096, 4097, 70000} {
		events := slices.Repeat([]impl.Event{tickOf(0)}, size)
		for _, n := range []int{least, -1, 0, 8, 9, 4097, greatest} {
			want := impl.ErrRange
			if size > 4096 {
				want = impl.ErrLong
			}
			wantClusterCode(t, n, events, want)
		}
		for n := 1; n <= 7; n++ {
			want := impl.OK
			switch {
			case size > 4096:
				want = impl.ErrLong
			case size > 300:
				want = impl.ErrMany
			}
			wantClusterCode(t, n, events, want)
		}
	}
	// Events that have a code of their own count, too.
	wantClusterCode(t, 3, make([]impl.Event, 300), impl.OK)
	wantClusterCode(t, 3, make([]impl.Event, 301), impl.ErrMany)
	// A list is measured as it is, whatever stands within it.
	wantClusterCode(t, 3, []impl.Event{proposeOf(0, long(70000)), {Kind: 9, Data: make([]byte, 70000)}}, impl.OK)
}

// Each Kind, of each peer or message that there is and is not.
func TestEventCodes(t *testing.T) {
	odd := []int{least, -2, -1, greatest}
	for n := 1; n <= 7; n++ {
		s := newStory(t, n)
		for _, kind := range []int{least, -1, 0, 8, 9, 100, greatest} {
			for _, at := range append(odd, 0, n-1, n) {
				s.refuse(impl.Event{Kind: kind, N: at}, impl.ErrForm)
			}
		}
		for _, at := range append(odd, n, n+1, 100) {
			for _, e := range []impl.Event{tickOf(at), crashOf(at), startOf(at), proposeOf(at, "x"), proposeOf(at, long(1001))} {
				s.refuse(e, impl.ErrNone)
			}
		}
		for _, at := range append(odd, 0, 1, 199, 200) {
			for _, e := range []impl.Event{giveOf(at), dropOf(at), doubleOf(at)} {
				s.refuse(e, impl.ErrNone)
			}
		}
		// Of the last peer, up and down: the peers below it tell nothing of it.
		p := n - 1
		s.refuse(startOf(p), impl.ErrStale)
		s.refuse(proposeOf(p, "x"), impl.ErrStale)
		s.refuse(proposeOf(p, long(1001)), impl.ErrStale)
		s.must(crashOf(p))
		for _, e := range []impl.Event{tickOf(p), crashOf(p), proposeOf(p, "x"), proposeOf(p, long(1001))} {
			s.refuse(e, impl.ErrStale)
		}
		s.refuse(impl.Event{Kind: 8, N: p}, impl.ErrForm)
		s.must(startOf(p))
		s.refuse(startOf(p), impl.ErrStale)
	}
}

// Messages are told by their places, from 0 on, as they stand at that time.
func TestEventsOfMessages(t *testing.T) {
	s := newStory(t, 4).must(tickOf(1))
	s.wantNet("vote 1>0 @1 0,0,0", "vote 1>2 @1 0,0,0", "vote 1>3 @1 0,0,0")
	for _, at := range []int{-1, 3, 4, greatest} {
		s.refuse(giveOf(at), impl.ErrNone)
		s.refuse(dropOf(at), impl.ErrNone)
		s.refuse(doubleOf(at), impl.ErrNone)
	}
	s.must(doubleOf(1))
	s.wantNet("vote 1>0 @1 0,0,0", "vote 1>2 @1 0,0,0", "vote 1>3 @1 0,0,0", "vote 1>2 @1 0,0,0")
	s.must(dropOf(0))
	s.wantNet("vote 1>2 @1 0,0,0", "vote 1>3 @1 0,0,0", "vote 1>2 @1 0,0,0").wantPeer(0, "follower @0 vote 0 commit 0 []")
	s.must(giveOf(1))
	s.wantNet("vote 1>2 @1 0,0,0", "vote 1>2 @1 0,0,0", "voted 3>1 @1 0,0,0 ok").wantPeer(3, "follower @1 vote 2 commit 0 []")
	s.must(dropOf(1))
	s.wantNet("vote 1>2 @1 0,0,0", "voted 3>1 @1 0,0,0 ok")
	s.must(dropOf(1))
	s.wantNet("vote 1>2 @1 0,0,0")
	s.must(doubleOf(0), dropOf(0))
	s.wantNet("vote 1>2 @1 0,0,0")
	s.must(giveOf(0))
	s.wantNet("voted 2>1 @1 0,0,0 ok")
	s.must(dropOf(0))
	s.wantNet()
	s.refuse(dropOf(0), impl.ErrNone)
	s.refuse(doubleOf(0), impl.ErrNone)
}

// What is done to a message hangs on its place alone, not on what it is.
func TestEventsOfEachMessage(t *testing.T) {
	s := newStory(t, 3).must(tickOf(0), doubleOf(0)).give("vote 0>1").double("voted 1>0").give("voted 1>0").must(tickOf(0), doubleOf(1)).give("append 0>2", "append 0>1").must(tickOf(1))
	words := map[string]int{}
	for at, m := range s.c.Net {
		word, _, _ := strings.Cut(shownMsg(m), " ")
		words[word]++
		for _, e := range []impl.Event{dropOf(at), doubleOf(at), giveOf(at)} {
			one := newStory(t, 3)
			one.events = slices.Clone(s.events)
			one.must(e)
			rest := slices.Delete(shownNet(s.c.Net), at, at+1)
			switch e.Kind {
			case impl.EvDrop:
				one.wantNet(rest...)
			case impl.EvDouble:
				one.wantNet(append(shownNet(s.c.Net), shownMsg(m))...)
			case impl.EvDeliver:
				if got := shownNet(one.c.Net); len(got) < len(rest) || !slices.Equal(got[:len(rest)], rest) {
					t.Errorf("behind the arrival of message %d: %s", at, strings.Join(got, "\n"))
				}
			}
			if e.Kind == impl.EvDeliver {
				continue
			}
			for p := range s.c.Peers {
				one.wantPeer(p, shownPeer(s.c.Peers[p]))
			}
		}
	}
	if len(words) != 4 {
		t.Error("messages:", words)
	}
}

// At a crash Term, Vote and Log stay, and nothing else; a start makes it up alone.
func TestCrashAndStart(t *testing.T) {
	// A follower that has committed.
	s := newStory(t, 3).elect(0, 1, 1).propose(0, "ab").hand(0, 1).hand(0, 1)
	s.wantPeer(1, "follower @1 vote 1 commit 2 [1.1a 1.2b]")
	s.must(crashOf(1)).wantPeer(1, "down follower @1 vote 1 commit 0 [1.1a 1.2b]")
	s.must(startOf(1)).wantPeer(1, "follower @1 vote 1 commit 0 [1.1a 1.2b]")
	// A leader.
	s.wantPeer(0, "leader @1 vote 1 commit 2 [1.1a 1.2b] next 1,3,1 match 2,2,0")
	s.must(crashOf(0)).wantPeer(0, "down follower @1 vote 1 commit 0 [1.1a 1.2b]")
	s.must(startOf(0)).wantPeer(0, "follower @1 vote 1 commit 0 [1.1a 1.2b]").wantChosen("[1.1a 1.2b]")
	// A candidate, and one that stands again behind a crash.
	s.must(tickOf(0)).wantPeer(0, "candidate @2 vote 1 commit 0 [1.1a 1.2b] votes x--")
	s.must(crashOf(0)).wantPeer(0, "down follower @2 vote 1 commit 0 [1.1a 1.2b]")
	s.must(startOf(0), tickOf(0)).wantPeer(0, "candidate @3 vote 1 commit 0 [1.1a 1.2b] votes x--")
	// Messages stay, those of the peer that crashed and those to it.
	s.clear().must(tickOf(2), tickOf(0))
	was := shownNet(s.c.Net)
	s.must(crashOf(0), crashOf(2), crashOf(1), startOf(2), startOf(0)).wantNet(was...)
	// One without anything.
	newStory(t, 2).must(crashOf(1)).wantPeer(1, "down follower @0 vote 0 commit 0 []").wantPeer(0, "follower @0 vote 0 commit 0 []").
		must(startOf(1)).wantPeer(1, "follower @0 vote 0 commit 0 []")
}

// At a peer that is not up messages are lost, each kind, and nothing is answered.
func TestArrivesAtOneThatIsDown(t *testing.T) {
	for _, down := range []int{0, 1} {
		s := newStory(t, 3).must(tickOf(0)).double("vote 0>1").give("vote 0>1").double("voted 1>0").give("voted 1>0").double("append 0>1").give("append 0>1")
		s.must(tickOf(1), crashOf(down))
		was, met := shownPeer(s.c.Peers[down]), map[int]bool{}
		for at := len(s.c.Net) - 1; at >= 0; at-- {
			if s.c.Net[at].To != down {
				continue
			}
			met[s.c.Net[at].Kind] = true
			rest := slices.Delete(shownNet(s.c.Net), at, at+1)
			s.must(giveOf(at)).wantNet(rest...).wantPeer(down, was)
		}
		if down == 0 && !(met[impl.MsVoted] && met[impl.MsAppended] && met[impl.MsVote]) || down == 1 && !(met[impl.MsVote] && met[impl.MsAppend]) {
			t.Error("messages that arrived at", down, "were", met)
		}
	}
}
