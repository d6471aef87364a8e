package tests

import (
	"slices"
	"strings"
	"testing"

	"loop.example/g00142/impl"
)

// Records are taken behind none.
func TestAppendBehindNone(t *testing.T) {
	for size := range 4 {
		s := newStory(t, 3).elect(0, 1, 1).propose(0, "abc"[:size]).must(tickOf(0)).give("append 0>1")
		log := []string{"[]", "[1.1a]", "[1.1a 1.2b]", "[1.1a 1.2b 1.3c]"}[size]
		s.wantPeer(1, "follower @1 vote 1 commit 0 "+log).wantLast("appended 1>0 @1 " + itoa(size) + ",0,0 ok")
		// One that had not heard of the term steps up to it, without a Vote.
		s.give("append 0>2").wantPeer(2, "follower @1 vote 0 commit 0 "+log).wantLast("appended 2>0 @1 " + itoa(size) + ",0,0 ok")
	}
}

// They are taken behind some, if the one ahead of them has its term.
func TestAppendBehindSome(t *testing.T) {
	s := newStory(t, 3).elect(0, 1, 1).propose(0, "ab").hand(0, 1).propose(0, "cd").must(tickOf(0))
	s.wantNet("append 0>1 @1 2,1,2 [1.3c 1.4d]", "append 0>2 @1 0,0,2 [1.1a 1.2b 1.3c 1.4d]").give("append 0>1")
	s.wantPeer(1, "follower @1 vote 1 commit 2 [1.1a 1.2b 1.3c 1.4d]").wantLast("appended 1>0 @1 4,0,0 ok")
	// Behind all, none come: it is the index ahead of them that is answered.
	s.give("appended 1>0").clear().must(tickOf(0)).give("append 0>1 @1 4,1,4").wantLast("appended 1>0 @1 4,0,0 ok")
	s.wantPeer(1, "follower @1 vote 1 commit 4 [1.1a 1.2b 1.3c 1.4d]")
}

// With some of another term: that one and all behind it go, what is ahead stays.
func TestAppendOverOthers(t *testing.T) {
	// Peer 0 has records of term 1 that nobody else has; peer 1 leads in 2.
	for own := range 4 {
		for others := 1; others < 4; others++ {
			s := newStory(t, 3).elect(0, 1, 2).propose(0, "s").hand(0, 1).propose(0, "abc"[:own])
			s.elect(1, 2, 2).propose(1, "xyz"[:others]).must(tickOf(1)).wantLast("append 1>2 @2 1,1,0 " + shownRecs(s.c.Peers[1].Log[1:]))
			s.give("append 1>0")
			want := []string{"", "[1.1s 2.2x]", "[1.1s 2.2x 2.3y]", "[1.1s 2.2x 2.3y 2.4z]"}[others]
			s.wantPeer(0, "follower @2 vote 0 commit 1 "+want).wantLast("appended 0>1 @2 " + itoa(others+1) + ",0,0 ok")
			// Twice they change nothing more.
			s.must(tickOf(1)).give("append 1>0").wantPeer(0, "follower @2 vote 0 commit 1 "+want).wantLast("appended 0>1 @2 " + itoa(others+1) + ",0,0 ok")
		}
	}
}

// The first that differs may stand behind some that do not.
func TestAppendFromTheFirstThatDiffers(t *testing.T) {
	s := newStory(t, 5).elect(0, 1, 2, 3).propose(0, "ab").hand(0, 1).propose(0, "cde").elect(1, 2, 2, 3).propose(1, "xy")
	s.wantPeer(0, "leader @1 vote 1 commit 0 [1.1a 1.2b 1.3c 1.4d 1.5e] next 1,3,1,1,1 match 5,2,0,0,0")
	// Peer 1 is led to send all from the first on: peer 4 has none.
	s.must(tickOf(1)).give("append 1>4", "appended 4>1").wantLast("append 1>4 @2 0,0,0 [1.1a 1.2b 2.3x 2.4y]")
	s.clear().must(tickOf(1)).wantNet("append 1>0 @2 2,1,0 [2.3x 2.4y]", "append 1>2 @2 2,1,0 [2.3x 2.4y]", "append 1>3 @2 2,1,0 [2.3x 2.4y]", "append 1>4 @2 0,0,0 [1.1a 1.2b 2.3x 2.4y]")
	s.give("append 1>0").wantPeer(0, "follower @2 vote 0 commit 0 [1.1a 1.2b 2.3x 2.4y]").wantLast("appended 0>1 @2 4,0,0 ok")
	// All of them from the first on, to one that has some and others behind them.
	s = newStory(t, 3).elect(0, 1, 1).propose(0, "ab").must(tickOf(0)).double("append 0>1").give("append 0>1").must(tickOf(0))
	s.give("append 0>1 @1 0,0,0").wantPeer(1, "follower @1 vote 1 commit 0 [1.1a 1.2b]").wantLast("appended 1>0 @1 2,0,0 ok")
}

// Fewer than there are: those behind them stay.
func TestAppendFewerThanThereAre(t *testing.T) {
	s := newStory(t, 3).elect(0, 1, 1).must(tickOf(0)).propose(0, "a").must(tickOf(0)).propose(0, "bc").must(tickOf(0))
	late := []string{"append 0>1 @1 0,0,0", "append 0>1 @1 0,0,0 [1.1a]", "append 0>1 @1 0,0,0 [1.1a 1.2b 1.3c]"}
	s.wantNet(late[0], "append 0>2 @1 0,0,0", late[1], "append 0>2 @1 0,0,0 [1.1a]", late[2], "append 0>2 @1 0,0,0 [1.1a 1.2b 1.3c]")
	for _, at := range []int{4, 0, 1} { // the last one first, then the others as they came
		size := len(s.c.Net[at].Log)
		s.must(giveOf(at)).wantPeer(1, "follower @1 vote 1 commit 0 [1.1a 1.2b 1.3c]").wantLast("appended 1>0 @1 " + itoa(size) + ",0,0 ok")
	}
	// Their answers come in any order, too: what is known to be there does not fall.
	for _, order := range [][]int{{0, 0, 0}, {2, 1, 0}, {1, 0, 0}, {0, 1, 0}} {
		one := newStory(t, 3)
		one.events = slices.Clone(s.events)
		one.must(dropOf(2), dropOf(1), dropOf(0)).wantNet("appended 1>0 @1 3,0,0 ok", "appended 1>0 @1 0,0,0 ok", "appended 1>0 @1 1,0,0 ok")
		for _, at := range order {
			one.must(giveOf(at))
		}
		one.wantPeer(0, "leader @1 vote 1 commit 3 [1.1a 1.2b 1.3c] next 1,4,1 match 3,3,0").wantNet()
	}
}

// A record that is not there: refused, and the last index is answered, if it is
// below the one asked for.
func TestAppendBehindOneThatIsNotThere(t *testing.T) {
	for has := range 4 {
		s := newStory(t, 5).elect(0, 1, 2, 3).propose(0, "abc"[:has]).hand(0, 4).propose(0, "xyz").hand(0, 1).elect(1, 2, 2, 3)
		last := has + 3
		s.must(tickOf(1)).give("append 1>4 @2 " + itoa(last) + ",1,0")
		log := shownRecs(s.c.Peers[0].Log[:has])
		s.wantPeer(4, "follower @2 vote 0 commit 0 "+log).wantLast("appended 4>1 @2 " + itoa(has) + ",0,0")
		// The leader goes back to it at once.
		s.give("appended 4>1").wantLast("append 1>4 @2 " + itoa(has) + "," + itoa(min(has, 1)) + ",0 " + shownRecs(s.c.Peers[1].Log[has:]))
		if next := s.c.Peers[1].Next[4]; next != has+1 {
			t.Error("next", next, "of one that has", has)
		}
		s.give("append 1>4").wantPeer(4, "follower @2 vote 0 commit 0 "+shownRecs(s.c.Peers[1].Log))
	}
}

// One of another term: refused, and the index ahead of it is answered.
func TestAppendBehindOneOfAnotherTerm(t *testing.T) {
	// Peer 0 has four records of term 1; peer 1 leads in 2 with two or three of its own.
	for own := 2; own <= 3; own++ {
		s := newStory(t, 5).elect(0, 1, 2, 3).propose(0, "abcd").elect(1, 2, 2, 3).propose(1, "xyz"[:own]).elect(1, 3, 2, 3)
		s.must(tickOf(1)).give("append 1>0 @3 "+itoa(own)+",2,0").wantPeer(0, "follower @3 vote 0 commit 0 [1.1a 1.2b 1.3c 1.4d]")
		for back := own - 1; back >= 0; back-- {
			s.wantLast("appended 0>1 @3 " + itoa(back) + ",0,0").give("appended 0>1")
			s.wantLast("append 1>0 @3 " + itoa(back) + "," + itoa(min(back, 1)*2) + ",0 " + shownRecs(s.c.Peers[1].Log[back:])).give("append 1>0")
		}
		s.wantLast("appended 0>1 @3 "+itoa(own)+",0,0 ok").wantPeer(0, "follower @3 vote 0 commit 0 "+[]string{"", "", "[2.1x 2.2y]", "[2.1x 2.2y 2.3z]"}[own])
		s.give("appended 0>1")
		if p := s.c.Peers[1]; p.Next[0] != own+1 || p.Match[0] != own {
			t.Error(shownPeer(p))
		}
	}
}

// Of an earlier term nothing is taken, at any role; the answer tells the greater Term.
func TestAppendOfAnEarlierTerm(t *testing.T) {
	for _, role := range []int{impl.RlFollower, impl.RlCandidate, impl.RlLeader} {
		s := newStory(t, 3).elect(0, 1, 2).propose(0, "ab").must(tickOf(0), tickOf(1), tickOf(1), tickOf(1))
		switch role {
		case impl.RlFollower:
			s.must(crashOf(1), startOf(1))
		case impl.RlLeader:
			s.give("vote 1>2 @3", "voted 2>1 @3")
		}
		was := shownPeer(s.c.Peers[1])
		if s.c.Peers[1].Role != role {
			t.Fatal(was)
		}
		s.give("append 0>1 @1").wantPeer(1, was).wantLast("appended 1>0 @3 0,0,0")
		// Who sent it steps down at that answer.
		s.give("appended 1>0").wantPeer(0, "follower @3 vote 0 commit 0 [1.1a 1.2b]")
	}
}

// Of the same term a candidate steps down, and keeps its Vote; of a greater one
// each role does, without a Vote.
func TestAppendStepsDown(t *testing.T) {
	s := newStory(t, 5).must(tickOf(4)).elect(0, 1, 1, 2).propose(0, "a")
	s.wantPeer(4, "candidate @1 vote 5 commit 0 [] votes ----x").must(tickOf(0)).give("append 0>4")
	s.wantPeer(4, "follower @1 vote 5 commit 0 [1.1a]").wantLast("appended 4>0 @1 1,0,0 ok")
	for _, role := range []int{impl.RlFollower, impl.RlCandidate, impl.RlLeader} {
		s := newStory(t, 5).must(tickOf(4))
		switch role {
		case impl.RlFollower:
			s.must(crashOf(4), startOf(4))
		case impl.RlLeader:
			s.give("vote 4>2", "vote 4>3", "voted 2>4", "voted 3>4").propose(4, "q")
		}
		if s.c.Peers[4].Role != role {
			t.Fatal(shownPeer(s.c.Peers[4]))
		}
		s.elect(0, 2, 1, 2).propose(0, "a").must(tickOf(0)).give("append 0>4").wantPeer(4, "follower @2 vote 0 commit 0 [2.1a]")
	}
	// Also where the records are refused.
	for _, role := range []int{impl.RlCandidate, impl.RlLeader} {
		s := newStory(t, 5).elect(0, 1, 1, 2).propose(0, "abc").must(tickOf(4))
		if role == impl.RlLeader {
			s.elect(4, 2, 1, 2)
		}
		s.elect(0, 3, 1, 2).must(tickOf(0)).give("append 0>4 @3 3,1,0").wantPeer(4, "follower @3 vote 0 commit 0 []").wantLast("appended 4>0 @3 0,0,0")
	}
}

// Match and Next go by what is answered, and never back below what is known.
func TestAppendedRaises(t *testing.T) {
	s := newStory(t, 5).elect(0, 1, 1, 2).propose(0, "abc").must(tickOf(0)).double("append 0>3").give("append 0>3", "append 0>3")
	s.give("appended 3>0").wantPeer(0, "leader @1 vote 1 commit 0 [1.1a 1.2b 1.3c] next 1,1,1,4,1 match 3,0,0,3,0")
	s.give("appended 3>0").wantPeer(0, "leader @1 vote 1 commit 0 [1.1a 1.2b 1.3c] next 1,1,1,4,1 match 3,0,0,3,0")
	// An answer that is Ok sends nothing.
	s.wantNet("append 0>1 @1 0,0,0 [1.1a 1.2b 1.3c]", "append 0>2 @1 0,0,0 [1.1a 1.2b 1.3c]", "append 0>4 @1 0,0,0 [1.1a 1.2b 1.3c]")
}

// Answers that are not Ok: late ones are passed over, or go back no further than
// what the peer is known to have.
func TestAppendedGoesBack(t *testing.T) {
	// A leader of three records that peer 4 has none of; it is asked twice, and both are refused.
	lags := func() *story {
		s := newStory(t, 5).elect(0, 1, 1, 2).propose(0, "abc").elect(0, 2, 1, 2).must(tickOf(0)).double("append 0>4").double("append 0>4").give("append 0>4", "append 0>4", "append 0>4")
		for to := 1; to <= 3; to++ {
			s.must(dropOf(0))
		}
		return s.wantNet("appended 4>0 @2 0,0,0", "appended 4>0 @2 0,0,0", "appended 4>0 @2 0,0,0")
	}
	s := lags().give("appended 4>0").wantPeer(0, "leader @2 vote 1 commit 0 [1.1a 1.2b 1.3c] next 4,4,4,4,1 match 3,0,0,0,0")
	s.wantLast("append 0>4 @2 0,0,0 [1.1a 1.2b 1.3c]")
	// The second one tells nothing new: A + 1 is Next already.
	s.give("appended 4>0").wantPeer(0, "leader @2 vote 1 commit 0 [1.1a 1.2b 1.3c] next 4,4,4,4,1 match 3,0,0,0,0")
	s.wantNet("appended 4>0 @2 0,0,0", "append 0>4 @2 0,0,0 [1.1a 1.2b 1.3c]")
	// The third one is late: the peer is known to have all by then, and is sent what it has not.
	s.give("append 0>4").give("appended 4>0 @2 3,0,0").propose(0, "d")
	s.wantPeer(0, "leader @2 vote 1 commit 0 [1.1a 1.2b 1.3c 2.4d] next 4,4,4,4,4 match 4,0,0,0,3").give("appended 4>0 @2 0,0,0")
	s.wantPeer(0, "leader @2 vote 1 commit 0 [1.1a 1.2b 1.3c 2.4d] next 4,4,4,4,4 match 4,0,0,0,3").wantNet("append 0>4 @2 3,1,0 [2.4d]")
}

// It goes back to what is answered, however far, or to what the peer is known to have.
func TestAppendedGoesBackAsFar(t *testing.T) {
	// Peer 3 has two of five records, and one of another term behind them.
	s := newStory(t, 5).elect(0, 1, 1, 2).propose(0, "ab").hand(0, 3).propose(0, "cde").hand(0, 4).elect(3, 2, 1, 2).propose(3, "x").elect(0, 3, 1, 2)
	s.must(tickOf(0)).give("append 0>3 @3 5,1,0").wantPeer(3, "follower @3 vote 0 commit 0 [1.1a 1.2b 2.3x]").wantLast("appended 3>0 @3 3,0,0")
	s.double("appended 3>0").give("appended 3>0").wantLast("append 0>3 @3 3,1,0 [1.4d 1.5e]")
	s.give("append 0>3 @3 3,1,0").wantLast("appended 3>0 @3 2,0,0").give("appended 3>0 @3 2,0,0").wantLast("append 0>3 @3 2,1,0 [1.3c 1.4d 1.5e]")
	// The first answer again is above Next now: nothing is done.
	sent := len(s.c.Net)
	s.give("appended 3>0 @3 3,0,0").wantPeer(0, "leader @3 vote 1 commit 0 [1.1a 1.2b 1.3c 1.4d 1.5e] next 6,6,6,3,6 match 5,0,0,0,0")
	if len(s.c.Net) != sent-1 {
		t.Error(shownNet(s.c.Net))
	}
	s.give("append 0>3 @3 2,1,0", "appended 3>0 @3 5,0,0").wantPeer(3, "follower @3 vote 0 commit 0 [1.1a 1.2b 1.3c 1.4d 1.5e]")
	s.wantPeer(0, "leader @3 vote 1 commit 0 [1.1a 1.2b 1.3c 1.4d 1.5e] next 6,6,6,6,6 match 5,0,0,5,0")
}

// Answers count in their own term, at a leader alone.
func TestAppendedElsewhere(t *testing.T) {
	// Of an earlier term, at one that leads anew.
	s := newStory(t, 3).elect(0, 1, 1).propose(0, "a").must(tickOf(0)).give("append 0>1")
	s.must(crashOf(0), startOf(0), tickOf(0)).give("vote 0>2", "voted 2>0")
	leads := "leader @2 vote 1 commit 0 [1.1a] next 2,2,2 match 1,0,0"
	sent := len(s.c.Net)
	s.wantPeer(0, leads).give("appended 1>0 @1 1,0,0 ok").wantPeer(0, leads)
	if len(s.c.Net) != sent-1 {
		t.Error(shownNet(s.c.Net))
	}
	// In its term, at one that leads no more.
	s = newStory(t, 3).elect(0, 1, 1).propose(0, "a").must(tickOf(0)).give("append 0>1").must(crashOf(0), startOf(0))
	s.give("appended 1>0 @1 1,0,0 ok").wantPeer(0, "follower @1 vote 1 commit 0 [1.1a]").wantChosen("[]")
	// In its term, at one that does not lead yet: what it is told of was of an earlier one.
	s = newStory(t, 3).elect(0, 1, 2).propose(0, "a").must(tickOf(0), tickOf(1), tickOf(1)).give("append 0>1 @1").must(crashOf(0), startOf(0), tickOf(0))
	s.wantPeer(0, "candidate @2 vote 1 commit 0 [1.1a] votes x--").give("appended 1>0 @2 0,0,0").wantPeer(0, "candidate @2 vote 1 commit 0 [1.1a] votes x--")
	// Of a greater term, at each role.
	for _, role := range []int{impl.RlFollower, impl.RlCandidate, impl.RlLeader} {
		s := newStory(t, 3).elect(0, 1, 2).propose(0, "a").must(tickOf(0), tickOf(1), tickOf(1), tickOf(1)).give("append 0>1 @1")
		switch role {
		case impl.RlFollower:
			s.must(crashOf(0), startOf(0))
		case impl.RlCandidate:
			s.must(crashOf(0), startOf(0), tickOf(0))
		}
		if s.c.Peers[0].Role != role {
			t.Fatal(shownPeer(s.c.Peers[0]))
		}
		s.give("appended 1>0 @3 0,0,0").wantPeer(0, "follower @3 vote 0 commit 0 [1.1a]")
	}
}

// Records on their way stay as they were sent, whatever becomes of the log they are of.
func TestAppendStaysOnItsWay(t *testing.T) {
	s := newStory(t, 5).elect(0, 1, 1, 2).propose(0, "abcd").must(tickOf(0))
	sent := shownNet(s.c.Net)
	s.must(tickOf(4), tickOf(4))
	s.give("vote 4>3 @2", "voted 3>4 @2", "vote 4>2 @2", "voted 2>4 @2").propose(4, "xyz").must(tickOf(4)).give("append 4>0 @2 0,0,0 [2.1x 2.2y 2.3z]")
	s.wantPeer(0, "follower @2 vote 0 commit 0 [2.1x 2.2y 2.3z]")
	if got := shownNet(s.c.Net); !slices.Equal(got[:len(sent)], sent) {
		t.Errorf("messages changed on their way:\n%s\nwant\n%s", strings.Join(got[:len(sent)], "\n"), strings.Join(sent, "\n"))
	}
	// A double has what the first one has, and both arrive.
	s.double("append 4>1 @2 0,0,0 [2.1x").give("append 4>1 @2 0,0,0 [2.1x", "append 4>1 @2 0,0,0 [2.1x").wantPeer(1, "follower @2 vote 0 commit 0 [2.1x 2.2y 2.3z]")
}
