package tests

import (
	"slices"
	"strings"
	"testing"

	"loop.example/g00142/impl"
)

// toEach are messages of a peer to each other one of n, in order.
func toEach(from, n int, kind, rest string) []string {
	var out []string
	for to := range n {
		if to != from {
			out = append(out, kind+" "+pair(from, to)+" "+rest)
		}
	}
	return out
}

// marks are the Votes of n peers, shown, with those of some.
func marks(n int, of ...int) string {
	text := []byte(strings.Repeat("-", n))
	for _, p := range of {
		text[p] = 'x'
	}
	return string(text)
}

// A tick of a follower: a Term more, its own Vote, and a message to each other peer.
func TestTickOfAFollower(t *testing.T) {
	for n := 2; n <= 7; n++ {
		for p := range n {
			s := newStory(t, n).must(tickOf(p))
			for other := range n {
				if other != p {
					s.wantPeer(other, "follower @0 vote 0 commit 0 []")
				}
			}
			s.wantPeer(p, "candidate @1 vote "+itoa(p+1)+" commit 0 [] votes "+marks(n, p))
			s.wantNet(toEach(p, n, "vote", "@1 0,0,0")...).wantChosen("[]")
		}
	}
	// One that is alone has most of the votes at once, and nobody to send to.
	newStory(t, 1).must(tickOf(0)).wantPeer(0, "leader @1 vote 1 commit 0 [] next 1 match 0").wantNet().
		must(tickOf(0)).wantPeer(0, "leader @1 vote 1 commit 0 [] next 1 match 0").wantNet()
	// One that gave its Vote away has its own again in the next term.
	newStory(t, 3).must(tickOf(0)).give("vote 0>2").wantPeer(2, "follower @1 vote 1 commit 0 []").
		must(tickOf(2)).wantPeer(2, "candidate @2 vote 3 commit 0 [] votes --x")
}

// It tells its last index, and the term of that record.
func TestTickTellsTheLastRecord(t *testing.T) {
	s := newStory(t, 3).elect(0, 1, 1).propose(0, "abc").elect(1, 2, 2).propose(1, "d")
	s.must(tickOf(2)).wantNet("vote 2>0 @3 0,0,0", "vote 2>1 @3 0,0,0").clear()
	s.must(crashOf(0), startOf(0), tickOf(0)).wantNet("vote 0>1 @2 3,1,0", "vote 0>2 @2 3,1,0").clear()
	s.must(crashOf(1), startOf(1), tickOf(1)).wantNet("vote 1>0 @3 1,2,0", "vote 1>2 @3 1,2,0").clear()
}

// A tick of a candidate: it stands anew, without the votes that it had.
func TestTickOfACandidate(t *testing.T) {
	s := newStory(t, 5).must(tickOf(2)).give("vote 2>4", "voted 4>2").wantPeer(2, "candidate @1 vote 3 commit 0 [] votes --x-x").clear()
	s.must(tickOf(2)).wantPeer(2, "candidate @2 vote 3 commit 0 [] votes --x--").wantNet(toEach(2, 5, "vote", "@2 0,0,0")...)
	s.must(tickOf(2)).wantPeer(2, "candidate @3 vote 3 commit 0 [] votes --x--")
	s.wantNet(append(toEach(2, 5, "vote", "@2 0,0,0"), toEach(2, 5, "vote", "@3 0,0,0")...)...)
}

// A tick of a leader: records to each other peer, and nothing of its own changes.
func TestTickOfALeader(t *testing.T) {
	for n := 2; n <= 7; n++ {
		for p := range n {
			var voters []int
			for v := range n {
				if v != p && len(voters) < n/2 {
					voters = append(voters, v)
				}
			}
			s := newStory(t, n).elect(p, 1, voters...)
			s.must(tickOf(p)).wantNet(toEach(p, n, "append", "@1 0,0,0")...).clear()
			s.propose(p, "xy")
			was := shownPeer(s.c.Peers[p])
			s.must(tickOf(p)).wantNet(toEach(p, n, "append", "@1 0,0,0 [1.1x 1.2y]")...).wantPeer(p, was)
			s.must(tickOf(p)).wantPeer(p, was)
			if len(s.c.Net) != 2*n-2 {
				t.Error("two ticks of a leader of", n, "send", len(s.c.Net))
			}
		}
	}
}

// To each peer go the records behind what it is thought to have.
func TestTickOfALeaderSendsByNext(t *testing.T) {
	s := newStory(t, 4).elect(1, 1, 0, 2).propose(1, "a").hand(1, 0).propose(1, "b").hand(1, 2).propose(1, "c")
	s.wantPeer(1, "leader @1 vote 2 commit 1 [1.1a 1.2b 1.3c] next 2,1,3,1 match 1,3,2,0")
	s.must(tickOf(1)).wantNet("append 1>0 @1 1,1,1 [1.2b 1.3c]", "append 1>2 @1 2,1,1 [1.3c]", "append 1>3 @1 0,0,1 [1.1a 1.2b 1.3c]")
	// Behind all records none are left to be sent, but Commit is.
	s.clear().hand(1, 0, 2, 3).must(tickOf(1)).wantNet(toEach(1, 4, "append", "@1 3,1,3")...)
}

// A candidate is elected by most, and by one less it is not.
func TestElected(t *testing.T) {
	for n := 2; n <= 7; n++ {
		for p := range n {
			s := newStory(t, n).must(tickOf(p))
			votes := []int{p}
			for v := range n {
				if v == p {
					continue
				}
				leads := len(votes) >= n/2+1
				if !leads {
					s.wantPeer(p, "candidate @1 vote "+itoa(p+1)+" commit 0 [] votes "+marks(n, votes...))
				}
				s.give("vote "+pair(p, v), "voted "+pair(v, p))
				votes = append(votes, v)
				if leads || len(votes) < n/2+1 {
					continue
				}
				ones, noughts := strings.TrimSuffix(strings.Repeat("1,", n), ","), strings.TrimSuffix(strings.Repeat("0,", n), ",")
				s.wantPeer(p, "leader @1 vote "+itoa(p+1)+" commit 0 [] next "+ones+" match "+noughts)
				asked := len(s.c.Net) - (n - 1)
				if got := shownNet(s.c.Net)[asked:]; !slices.Equal(got, toEach(p, n, "append", "@1 0,0,0")) {
					t.Errorf("peer %d of %d is elected and sends %q", p, n, got)
				}
			}
			if s.c.Peers[p].Role != impl.RlLeader {
				t.Errorf("peer %d of %d with all votes: %s", p, n, shownPeer(s.c.Peers[p]))
			}
		}
	}
}

// Next of all is behind its last record, Match of itself that one, of the others 0.
func TestElectedWithRecords(t *testing.T) {
	s := newStory(t, 3).elect(2, 1, 0).propose(2, "abc").must(crashOf(2), startOf(2), tickOf(2)).give("vote 2>1", "voted 1>2")
	s.wantPeer(2, "leader @2 vote 3 commit 0 [1.1a 1.2b 1.3c] next 4,4,4 match 0,0,3")
	s.wantNet("vote 2>0 @2 3,1,0", "append 2>0 @2 3,1,0", "append 2>1 @2 3,1,0").wantChosen("[]")
}

// What a leader had committed stays committed, and is told, when it is elected anew.
func TestElectedWithACommit(t *testing.T) {
	s := newStory(t, 3).elect(0, 1, 1).propose(0, "ab").hand(0, 1).hand(0, 1).wantPeer(1, "follower @1 vote 1 commit 2 [1.1a 1.2b]")
	s.must(tickOf(1)).give("vote 1>2", "voted 2>1").wantPeer(1, "leader @2 vote 2 commit 2 [1.1a 1.2b] next 3,3,3 match 0,2,0")
	s.wantNet("vote 1>0 @2 2,1,0", "append 1>0 @2 2,1,2", "append 1>2 @2 2,1,2").wantChosen("[1.1a 1.2b]")
}

// logsOf is a cluster of five in which the first two peers have records of these
// terms (no term twice), and the others have none and give them their votes.
func logsOf(t *testing.T, first, second []int) *story {
	t.Helper()
	s := newStory(t, 5)
	for term := 1; term <= 6; term++ {
		for p, terms := range [][]int{first, second} {
			if !slices.Contains(terms, term) {
				continue
			}
			s.elect(p, term, 2, 3)
			for _, other := range terms {
				if other == term {
					s.propose(p, string(rune('a'+p)))
				}
			}
		}
	}
	for p, terms := range [][]int{first, second} {
		var got []int
		for _, r := range s.c.Peers[p].Log {
			got = append(got, r.Term)
		}
		if !slices.Equal(got, terms) {
			t.Fatalf("peer %d has records of %v, want %v", p, got, terms)
		}
		if s.c.Peers[p].Role == impl.RlLeader {
			s.must(crashOf(p), startOf(p))
		}
	}
	return s
}

// wantVote asks for a vote in a term that is new to both, and holds the answer.
func wantVote(t *testing.T, s *story, asker, asked int, granted bool) {
	t.Helper()
	term := max(s.c.Peers[asker].Term, s.c.Peers[asked].Term) + 1
	for s.c.Peers[asker].Term < term {
		s.clear().must(tickOf(asker))
	}
	log := shownRecs(s.c.Peers[asked].Log)
	s.give("vote " + pair(asker, asked))
	vote, answer := 0, "voted "+pair(asked, asker)+" @"+itoa(term)+" 0,0,0"
	if granted {
		vote, answer = asker+1, answer+" ok"
	}
	s.wantPeer(asked, "follower @"+itoa(term)+" vote "+itoa(vote)+" commit 0 "+log)
	s.wantLast(answer)
}

// A vote is granted to one whose last term is greater, or the same with at least
// as great a last index.
func TestVoteByTheLastRecord(t *testing.T) {
	firsts := [][]int{nil, {1}, {1, 1}, {1, 1, 1}, {1, 3}, {1, 1, 3}, {3}, {3, 3}, {5}}
	seconds := [][]int{nil, {2}, {2, 2}, {2, 2, 2, 2}, {2, 4}, {4}, {4, 4, 4}, {2, 4, 4}}
	lastOf := func(terms []int) []int {
		if len(terms) == 0 {
			return []int{0, 0}
		}
		return []int{terms[len(terms)-1], len(terms)}
	}
	for _, first := range firsts {
		for _, second := range seconds {
			held := slices.Compare(lastOf(first), lastOf(second))
			wantVote(t, logsOf(t, first, second), 0, 1, held >= 0)
			wantVote(t, logsOf(t, first, second), 1, 0, held <= 0)
		}
	}
}

// With one last term the last index counts: more, as many, and one less.
func TestVoteByTheLastIndex(t *testing.T) {
	for had := range 4 {
		for more := range 3 {
			shared := func() *story {
				s := newStory(t, 5).elect(0, 1, 2, 3).propose(0, long(had)).hand(0, 1).propose(0, long(more))
				return s.must(crashOf(0), startOf(0), crashOf(1), startOf(1))
			}
			wantVote(t, shared(), 0, 1, true)
			wantVote(t, shared(), 1, 0, more == 0)
		}
	}
}

// A vote is granted only where the Terms are one: of a lesser one it is not, and
// the answer tells the greater.
func TestVoteInAnEarlierTerm(t *testing.T) {
	s := newStory(t, 3).must(tickOf(0), tickOf(1), tickOf(1)).give("vote 1>2 @2")
	s.wantPeer(2, "follower @2 vote 2 commit 0 []").give("vote 0>2").wantPeer(2, "follower @2 vote 2 commit 0 []")
	s.wantLast("voted 2>0 @2 0,0,0")
	// It steps down at that answer, and has no Vote in that term.
	s.give("voted 2>0").wantPeer(0, "follower @2 vote 0 commit 0 []")
	// One that has no Vote in its Term does not grant one of an earlier term either.
	s = newStory(t, 4).elect(0, 1, 1, 2).propose(0, "x").hand(0, 1).must(tickOf(3), tickOf(3), tickOf(3)).give("vote 3>1 @3")
	s.wantPeer(1, "follower @3 vote 0 commit 0 [1.1x]").must(crashOf(0), startOf(0), tickOf(0)).give("vote 0>1 @2")
	s.wantPeer(1, "follower @3 vote 0 commit 0 [1.1x]").wantLast("voted 1>0 @3 0,0,0")
}

// A peer has one Vote in a term; who has it is granted it as often as it asks.
func TestVoteOnceInATerm(t *testing.T) {
	s := newStory(t, 3).must(tickOf(0), tickOf(1)).double("vote 0>2").double("vote 1>2").double("vote 0>2")
	s.give("vote 0>2").wantPeer(2, "follower @1 vote 1 commit 0 []")
	s.give("vote 1>2").wantPeer(2, "follower @1 vote 1 commit 0 []")
	s.give("vote 0>2").wantPeer(2, "follower @1 vote 1 commit 0 []")
	// Behind a crash it still has given it.
	s.must(crashOf(2), startOf(2)).give("vote 1>2").wantPeer(2, "follower @1 vote 1 commit 0 []")
	s.give("vote 0>2").wantPeer(2, "follower @1 vote 1 commit 0 []")
	var answers []string
	for _, text := range shownNet(s.c.Net) {
		if strings.HasPrefix(text, "voted") {
			answers = append(answers, text)
		}
	}
	want := []string{"voted 2>0 @1 0,0,0 ok", "voted 2>1 @1 0,0,0", "voted 2>0 @1 0,0,0 ok", "voted 2>1 @1 0,0,0", "voted 2>0 @1 0,0,0 ok"}
	if !slices.Equal(answers, want) {
		t.Errorf("answers %q", answers)
	}
	// In a later term it has another.
	s.must(tickOf(1)).give("vote 1>2 @2").wantPeer(2, "follower @2 vote 2 commit 0 []")
}

// One who asks with a lesser log gets no Vote, and another who asks in that term may.
func TestVoteIsKeptFromALesserLog(t *testing.T) {
	s := newStory(t, 4).elect(0, 1, 1, 2).propose(0, "x").hand(0, 1).must(tickOf(3), tickOf(3)).give("vote 3>1 @2")
	s.wantPeer(1, "follower @2 vote 0 commit 0 [1.1x]").must(crashOf(0), startOf(0), tickOf(0)).give("vote 0>1 @2").wantPeer(1, "follower @2 vote 1 commit 0 [1.1x]")
}

// A candidate and a leader have their own Vote: they grant none in their term,
// and step down to a greater one, where they may.
func TestVoteAskedOfACandidateAndALeader(t *testing.T) {
	s := newStory(t, 3).must(tickOf(0), tickOf(1), tickOf(1))
	s.wantPeer(0, "candidate @1 vote 1 commit 0 [] votes x--")
	s.give("vote 1>0 @1").wantPeer(0, "candidate @1 vote 1 commit 0 [] votes x--").give("voted 0>1 @1 0,0,0")
	s.give("vote 1>0 @2").wantPeer(0, "follower @2 vote 2 commit 0 []").give("voted 0>1 @2 0,0,0 ok")
	s.wantPeer(1, "leader @2 vote 2 commit 0 [] next 1,1,1 match 0,0,0").clear()
	s.must(tickOf(2), tickOf(2), tickOf(2)).give("vote 2>1 @1").wantPeer(1, "leader @2 vote 2 commit 0 [] next 1,1,1 match 0,0,0").give("voted 1>2 @2 0,0,0")
	s.give("vote 2>1 @2").wantPeer(1, "leader @2 vote 2 commit 0 [] next 1,1,1 match 0,0,0").give("voted 1>2 @2 0,0,0")
	s.give("vote 2>1 @3").wantPeer(1, "follower @3 vote 3 commit 0 []").give("voted 1>2 @3 0,0,0 ok")
	// With a greater log they step down, too, and grant nothing.
	s.wantPeer(2, "leader @3 vote 3 commit 0 [] next 1,1,1 match 0,0,0").propose(2, "x").clear()
	s.must(tickOf(0), tickOf(0)).give("vote 0>2 @4").wantPeer(2, "follower @4 vote 0 commit 0 [3.1x]").give("voted 2>0 @4 0,0,0")
	s.wantPeer(0, "candidate @4 vote 1 commit 0 [] votes x--")
}

// Votes count once each, in the term in which they were asked for.
func TestVotesTwiceAndLate(t *testing.T) {
	// Twice: one voter is one vote.
	s := newStory(t, 5).must(tickOf(0)).double("vote 0>1").give("vote 0>1", "vote 0>1").double("voted 1>0").give("voted 1>0", "voted 1>0", "voted 1>0")
	s.wantPeer(0, "candidate @1 vote 1 commit 0 [] votes xx---")
	// Late: a vote of an earlier term does not count in a later one.
	s.give("vote 0>2").must(tickOf(0)).give("voted 2>0 @1").wantPeer(0, "candidate @2 vote 1 commit 0 [] votes x----")
	// Refused ones do not count.
	s.must(tickOf(3), tickOf(3)).give("vote 3>4 @2", "vote 0>4 @2", "voted 4>0 @2 0,0,0").wantPeer(0, "candidate @2 vote 1 commit 0 [] votes x----")
	// Behind a crash the peer is no candidate any more.
	s = newStory(t, 3).must(tickOf(0)).give("vote 0>1").must(crashOf(0), startOf(0)).give("voted 1>0").wantPeer(0, "follower @1 vote 1 commit 0 []")
	// Nor is one that stepped down in the term, or leads in it already.
	s = newStory(t, 5).must(tickOf(0)).give("vote 0>1", "vote 0>2", "vote 0>3", "voted 1>0", "voted 2>0")
	leads := shownPeer(s.c.Peers[0])
	sent := len(s.c.Net)
	s.give("voted 3>0").wantPeer(0, leads)
	if len(s.c.Net) != sent-1 {
		t.Error("a late vote is answered:", shownNet(s.c.Net))
	}
	s.must(tickOf(4)).wantPeer(4, "candidate @1 vote 5 commit 0 [] votes ----x").give("append 0>4").wantPeer(4, "follower @1 vote 5 commit 0 []")
}

// A vote with a greater Term is one that was not granted: the peer steps down.
func TestVotedInALaterTerm(t *testing.T) {
	for _, role := range []int{impl.RlFollower, impl.RlCandidate, impl.RlLeader} {
		s := newStory(t, 3).must(tickOf(0), tickOf(1), tickOf(1), tickOf(1)).give("vote 0>1", "vote 0>2")
		switch role {
		case impl.RlFollower:
			s.must(crashOf(0), startOf(0))
		case impl.RlLeader:
			s.give("voted 2>0")
		}
		if s.c.Peers[0].Role != role {
			t.Fatal(shownPeer(s.c.Peers[0]))
		}
		s.give("voted 1>0 @3 0,0,0").wantPeer(0, "follower @3 vote 0 commit 0 []")
	}
}
