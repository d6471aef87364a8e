package tests

import (
	"bytes"
	"os"
	"os/exec"
	"path/filepath"
	"slices"
	"strings"
	"testing"

	"loop.example/g00142/impl"
)

// A record more: the leader's Term, the next index, the Data; Match of itself.
func TestPropose(t *testing.T) {
	s := newStory(t, 3).elect(1, 1, 0).must(proposeOf(1, "first"))
	s.wantPeer(1, "leader @1 vote 2 commit 0 [1.1first] next 1,1,1 match 0,1,0").wantNet().wantChosen("[]")
	s.must(proposeOf(1, "")).wantPeer(1, "leader @1 vote 2 commit 0 [1.1first 1.2] next 1,1,1 match 0,2,0")
	s.must(proposeOf(1, "x\x00\n")).wantPeer(1, "leader @1 vote 2 commit 0 [1.1first 1.2 1.3x\x00\n] next 1,1,1 match 0,3,0").wantNet()
	s.elect(1, 4, 2).propose(1, "z").wantPeer(1, "leader @4 vote 2 commit 0 [1.1first 1.2 1.3x\x00\n 4.4z] next 4,4,4 match 0,4,0")
	// Others are not asked, nor does a candidate or one that stepped down take one.
	s.refuse(proposeOf(0, "x"), impl.ErrStale)
	s.must(tickOf(2)).refuse(proposeOf(2, "x"), impl.ErrStale)
	s.must(crashOf(1))
	s.refuse(proposeOf(1, "x"), impl.ErrStale)
	s.must(startOf(1))
	s.refuse(proposeOf(1, "x"), impl.ErrStale)
}

// One that is alone commits what it is asked for at once.
func TestProposeAlone(t *testing.T) {
	s := newStory(t, 1)
	s.refuse(proposeOf(0, "x"), impl.ErrStale)
	s.must(tickOf(0)).propose(0, "a").wantPeer(0, "leader @1 vote 1 commit 1 [1.1a] next 1 match 1").wantChosen("[1.1a]")
	s.propose(0, "b").wantPeer(0, "leader @1 vote 1 commit 2 [1.1a 1.2b] next 1 match 2").wantChosen("[1.1a 1.2b]")
	// Behind a crash it has committed nothing, and what was chosen stays; a record of its own term commits all again.
	s.must(crashOf(0)).wantPeer(0, "down follower @1 vote 1 commit 0 [1.1a 1.2b]").wantChosen("[1.1a 1.2b]")
	s.must(startOf(0), tickOf(0)).wantPeer(0, "leader @2 vote 1 commit 0 [1.1a 1.2b] next 3 match 2").wantChosen("[1.1a 1.2b]")
	s.propose(0, "c").wantPeer(0, "leader @2 vote 1 commit 3 [1.1a 1.2b 2.3c] next 3 match 3").wantChosen("[1.1a 1.2b 2.3c]").wantNet()
}

// A record is committed when most have it, and with one less it is not.
func TestCommitsByMost(t *testing.T) {
	for n := 2; n <= 7; n++ {
		for p := range n {
			var others []int
			for v := range n {
				if v != p {
					others = append(others, v)
				}
			}
			s := newStory(t, n).elect(p, 1, others[:n/2]...).propose(p, "x").must(tickOf(p))
			slices.Reverse(others) // also of those that did not give it their votes
			for had, to := range others {
				want, chosen := 0, "[]"
				if had+1 >= n/2+1 {
					want, chosen = 1, "[1.1x]"
				}
				if got := s.c.Peers[p].Commit; got != want {
					t.Errorf("%d of %d have it: commit %d", had+1, n, got)
				}
				s.wantChosen(chosen).give("append "+pair(p, to), "appended "+pair(to, p)+" @1 1,0,0 ok")
			}
			if got := s.c.Peers[p].Commit; got != 1 {
				t.Errorf("all %d have it: commit %d", n, got)
			}
			s.wantNet().wantChosen("[1.1x]")
		}
	}
}

// Each peer counts once, however often it answers.
func TestCommitsCountEachOnce(t *testing.T) {
	s := newStory(t, 5).elect(0, 1, 1, 2).propose(0, "x").must(tickOf(0)).double("append 0>4").double("append 0>4")
	s.give("append 0>4", "append 0>4", "append 0>4").double("appended 4>0").give("appended 4>0", "appended 4>0", "appended 4>0", "appended 4>0")
	s.wantPeer(0, "leader @1 vote 1 commit 0 [1.1x] next 1,1,1,1,2 match 1,0,0,0,1").wantChosen("[]")
}

// The greatest index that most reach.
func TestCommitsTheGreatest(t *testing.T) {
	s := newStory(t, 5).elect(0, 1, 1, 2).propose(0, "ab").hand(0, 3).propose(0, "c").hand(0, 1)
	s.wantPeer(0, "leader @1 vote 1 commit 2 [1.1a 1.2b 1.3c] next 1,4,1,3,1 match 3,3,0,2,0").wantChosen("[1.1a 1.2b]")
	s.propose(0, "de").wantChosen("[1.1a 1.2b]").hand(0, 2).wantPeer(0, "leader @1 vote 1 commit 3 [1.1a 1.2b 1.3c 1.4d 1.5e] next 1,4,6,3,1 match 5,3,5,2,0")
	s.wantChosen("[1.1a 1.2b 1.3c]").hand(0, 4).wantPeer(0, "leader @1 vote 1 commit 5 [1.1a 1.2b 1.3c 1.4d 1.5e] next 1,4,6,3,6 match 5,3,5,2,5")
	s.wantChosen("[1.1a 1.2b 1.3c 1.4d 1.5e]")
}

// Records of an earlier term are not committed, however many have them, but with
// one of the leader's own behind them.
func TestCommitsOfAnotherTerm(t *testing.T) {
	s := newStory(t, 3).elect(0, 1, 1).propose(0, "ab").elect(0, 2, 1).hand(0, 1, 2).hand(0, 1, 2)
	for s.c.Peers[0].Match[1] < 2 || s.c.Peers[0].Match[2] < 2 {
		s.must(tickOf(0)).settle()
	}
	s.wantPeer(0, "leader @2 vote 1 commit 0 [1.1a 1.2b] next 3,3,3 match 2,2,2").wantPeer(1, "follower @2 vote 1 commit 0 [1.1a 1.2b]").wantChosen("[]")
	s.propose(0, "c").wantPeer(0, "leader @2 vote 1 commit 0 [1.1a 1.2b 2.3c] next 3,3,3 match 3,2,2").wantChosen("[]")
	s.hand(0, 2).wantPeer(0, "leader @2 vote 1 commit 3 [1.1a 1.2b 2.3c] next 3,3,4 match 3,2,3").wantChosen("[1.1a 1.2b 2.3c]")
	s.hand(0, 2).wantPeer(2, "follower @2 vote 0 commit 3 [1.1a 1.2b 2.3c]").wantPeer(1, "follower @2 vote 1 commit 0 [1.1a 1.2b]")
}

// What most have of an earlier term may still be replaced: it was not chosen.
func TestMostMayHaveWhatIsNotChosen(t *testing.T) {
	s := newStory(t, 5).elect(0, 1, 1, 2).propose(0, "a").hand(0, 1)            // 0 and 1 have a
	s.elect(4, 2, 2, 3).propose(4, "x")                                         // 4 has x
	s.elect(0, 3, 1, 2).must(tickOf(0)).give("append 0>2").give("appended 2>0") // 2 is sent a
	s.give("append 0>2 @3 0,0,0").give("appended 2>0").clear()                  // 0, 1, 2: most have a
	s.wantPeer(0, "leader @3 vote 1 commit 0 [1.1a] next 2,2,2,2,2 match 1,0,1,0,0").wantChosen("[]")
	s.elect(4, 4, 2, 3).must(tickOf(4)).propose(4, "y").settle().must(tickOf(4)).settle().must(tickOf(4)).settle()
	for p := range 5 {
		if log := shownRecs(s.c.Peers[p].Log); log != "[2.1x 4.2y]" || s.c.Peers[p].Commit != 2 {
			t.Error(p, shownPeer(s.c.Peers[p]))
		}
	}
	s.wantChosen("[2.1x 4.2y]")
}

// A follower's Commit goes by what it is told of, and does not fall.
func TestCommitOfAFollower(t *testing.T) {
	s := newStory(t, 3).elect(0, 1, 1).propose(0, "a").must(tickOf(0)).give("append 0>1", "appended 1>0")
	s.wantPeer(0, "leader @1 vote 1 commit 1 [1.1a] next 1,2,1 match 1,1,0").wantPeer(1, "follower @1 vote 1 commit 0 [1.1a]")
	// The one that was sent ahead of the commit tells of none.
	s.double("append 0>2").give("append 0>2").wantPeer(2, "follower @1 vote 0 commit 0 [1.1a]")
	s.propose(0, "bc").must(tickOf(0)).wantLast("append 0>2 @1 0,0,1 [1.1a 1.2b 1.3c]")
	s.give("append 0>1 @1 1,1,1").wantPeer(1, "follower @1 vote 1 commit 1 [1.1a 1.2b 1.3c]").give("appended 1>0")
	s.wantPeer(0, "leader @1 vote 1 commit 3 [1.1a 1.2b 1.3c] next 1,4,1 match 3,3,0")
	s.must(tickOf(0)).wantLast("append 0>2 @1 0,0,3 [1.1a 1.2b 1.3c]").must(giveOf(len(s.c.Net)-1)).wantPeer(2, "follower @1 vote 0 commit 3 [1.1a 1.2b 1.3c]")
	// Those that are late tell of less.
	s.give("append 0>2 @1 0,0,0 [1.1a]").wantPeer(2, "follower @1 vote 0 commit 3 [1.1a 1.2b 1.3c]").wantLast("appended 2>0 @1 1,0,0 ok")
	s.give("append 0>2 @1 0,0,1 [1.1a 1.2b 1.3c]").wantPeer(2, "follower @1 vote 0 commit 3 [1.1a 1.2b 1.3c]").wantLast("appended 2>0 @1 3,0,0 ok")
	// A new leader that has committed nothing tells of none, and nothing falls.
	s.clear().elect(1, 2, 2).must(crashOf(1), startOf(1)).elect(1, 3, 2).hand(1, 2, 0)
	s.wantPeer(2, "follower @3 vote 2 commit 3 [1.1a 1.2b 1.3c]").wantPeer(0, "follower @3 vote 0 commit 3 [1.1a 1.2b 1.3c]").wantPeer(1, "leader @3 vote 2 commit 0 [1.1a 1.2b 1.3c] next 4,4,4 match 3,3,3")
	// Where records are refused the Commit is not looked at.
	s = newStory(t, 3).elect(0, 1, 1).propose(0, "ab").hand(0, 1).hand(0, 1).elect(1, 2, 0).wantPeer(1, "leader @2 vote 2 commit 2 [1.1a 1.2b] next 3,3,3 match 0,2,0")
	s.must(tickOf(1)).give("append 1>2 @2 2,1,2").wantPeer(2, "follower @2 vote 0 commit 0 []").wantLast("appended 2>1 @2 0,0,0").wantChosen("[1.1a 1.2b]")
}

// Chosen are the records that were committed, by index; they stay, whoever crashes.
func TestChosen(t *testing.T) {
	s := newStory(t, 5).elect(3, 1, 0, 1).propose(3, "abc").hand(3, 0).wantChosen("[]").hand(3, 4).wantChosen("[1.1a 1.2b 1.3c]")
	s.hand(3, 0, 1, 2, 4).wantChosen("[1.1a 1.2b 1.3c]").propose(3, "d").wantChosen("[1.1a 1.2b 1.3c]").hand(3, 0, 1, 2, 4).wantChosen("[1.1a 1.2b 1.3c 1.4d]")
	for p := range 5 {
		s.must(crashOf(p)).wantChosen("[1.1a 1.2b 1.3c 1.4d]")
	}
	for p := range 5 {
		s.must(startOf(p)).wantChosen("[1.1a 1.2b 1.3c 1.4d]")
		if s.c.Peers[p].Commit != 0 {
			t.Error(shownPeer(s.c.Peers[p]))
		}
	}
	s.elect(2, 2, 0, 1).propose(2, "e").hand(2, 0, 1).wantChosen("[1.1a 1.2b 1.3c 1.4d 2.5e]")
	s.hand(2, 0).wantPeer(0, "follower @2 vote 3 commit 5 [1.1a 1.2b 1.3c 1.4d 2.5e]").wantChosen("[1.1a 1.2b 1.3c 1.4d 2.5e]")
}

// MaxData bytes are taken, and one more is not.
func TestProposeData(t *testing.T) {
	s := newStory(t, 1).must(tickOf(0))
	for i, size := range []int{0, 1, 999, 1000} {
		data := string(filled(size))
		s.must(proposeOf(0, data))
		if r := s.c.Chosen[i]; string(r.Data) != data || r.Index != i+1 || r.Term != 1 {
			t.Errorf("%d bytes: record %d of term %d with %d", size, r.Index, r.Term, len(r.Data))
		}
	}
	for _, size := range []int{1001, 1002, 4096, 65536, 65537, 100000} {
		s.refuse(proposeOf(0, long(size)), impl.ErrSize)
	}
	// Of other events Data are not looked at.
	for kind := 1; kind <= 6; kind++ {
		e := impl.Event{Kind: kind, Data: filled(70000)}
		_, codes, _ := impl.ClusterRun(2, []impl.Event{tickOf(1), crashOf(0), startOf(0), e})
		want := impl.OK
		if kind == impl.EvStart {
			want = impl.ErrStale
		}
		if codes[3] != want {
			t.Error("kind", kind, "with Data:", codes[3])
		}
	}
}

// MaxLog records are taken, and one more is not; all of them are sent.
func TestProposeMaxLog(t *testing.T) {
	s := newStory(t, 3).elect(0, 1, 1)
	for i := range 100 {
		s.must(proposeOf(0, string(rune('a'+i%26))))
	}
	s.refuse(proposeOf(0, "x"), impl.ErrSize)
	s.refuse(proposeOf(0, ""), impl.ErrSize)
	s.refuse(proposeOf(0, long(1001)), impl.ErrSize)
	s.refuse(proposeOf(1, "x"), impl.ErrStale)
	s.must(tickOf(0)).give("append 0>1", "appended 1>0 @1 100,0,0 ok")
	if len(s.c.Chosen) != 100 || len(s.c.Peers[1].Log) != 100 || s.c.Peers[0].Commit != 100 {
		t.Error(len(s.c.Chosen), len(s.c.Peers[1].Log), s.c.Peers[0].Commit)
	}
	s.refuse(proposeOf(0, "x"), impl.ErrSize)
	// Another one that leads with them takes no more either.
	s.elect(1, 2, 2)
	s.refuse(proposeOf(1, "x"), impl.ErrSize)
	// With one less than MaxLog one is taken.
	s = newStory(t, 1).must(tickOf(0))
	s.events = append(s.events, slices.Repeat([]impl.Event{proposeOf(0, "y")}, 99)...)
	s.must(proposeOf(0, "z"))
	s.refuse(proposeOf(0, "z"), impl.ErrSize)
	if last := s.c.Chosen[99]; len(s.c.Chosen) != 100 || last.Index != 100 || string(last.Data) != "z" {
		t.Error(last)
	}
}

// netOf is a cluster of seven with so many messages, and what they are.
func netOf(t *testing.T, size int) (*story, []string) {
	t.Helper()
	s := newStory(t, 7)
	var want []string
	for term := 1; len(want) < size; term++ {
		s.must(tickOf(6))
		want = append(want, toEach(6, 7, "vote", "@"+itoa(term)+" 0,0,0")...)
	}
	for len(want) > size {
		s.must(dropOf(size))
		want = slices.Delete(want, size, size+1)
	}
	return s.wantNet(want...), want
}

// MaxNet messages may be on their way; what is sent beyond them is lost.
func TestMaxNet(t *testing.T) {
	for size := 193; size <= 198; size++ {
		s, want := netOf(t, size)
		want = append(want, toEach(3, 7, "vote", "@1 0,0,0")...)
		want = want[:min(200, len(want))]
		s.must(tickOf(3)).wantNet(want...).wantPeer(3, "candidate @1 vote 4 commit 0 [] votes ---x---")
	}
	s, full := netOf(t, 198)
	s.must(doubleOf(0), doubleOf(7))
	full = append(full, full[0], full[7])
	s.wantNet(full...)
	for _, at := range []int{0, 1, 198, 199} { // lost, without a code
		s.must(doubleOf(at)).wantNet(full...)
	}
	s.must(tickOf(0)).wantNet(full...).wantPeer(0, "candidate @1 vote 1 commit 0 [] votes x------")
	for _, e := range []impl.Event{giveOf(200), dropOf(200), doubleOf(200)} {
		s.refuse(e, impl.ErrNone)
	}
	// One that arrives makes room for its answer.
	s.must(giveOf(0)).wantNet(append(slices.Clone(full[1:]), "voted 0>6 @1 0,0,0")...).wantPeer(0, "candidate @1 vote 1 commit 0 [] votes x------")
	// Of what is sent to several, the first go.
	s.must(dropOf(199), dropOf(0), dropOf(0)).must(tickOf(2)).wantNet(append(slices.Clone(full[3:]), "vote 2>0 @1 0,0,0", "vote 2>1 @1 0,0,0", "vote 2>3 @1 0,0,0")...)
}

// A leader's messages are lost likewise.
func TestMaxNetOfALeader(t *testing.T) {
	s := newStory(t, 7).elect(0, 1, 1, 2, 3).propose(0, "x")
	for range 33 {
		s.must(tickOf(0))
	}
	if len(s.c.Net) != 198 {
		t.Fatal(len(s.c.Net))
	}
	s.must(tickOf(0))
	if got := shownNet(s.c.Net[198:]); !slices.Equal(got, []string{"append 0>1 @1 0,0,0 [1.1x]", "append 0>2 @1 0,0,0 [1.1x]"}) {
		t.Error(got)
	}
	s.must(tickOf(0), giveOf(199))
	if got := shownMsg(s.c.Net[199]); len(s.c.Net) != 200 || got != "appended 2>0 @1 1,0,0 ok" {
		t.Error(len(s.c.Net), got)
	}
	// The election of one that finds no room.
	s = newStory(t, 3).must(tickOf(0)).give("vote 0>1")
	for len(s.c.Net) < 200 {
		s.must(doubleOf(0))
	}
	s.give("voted 1>0").wantPeer(0, "leader @1 vote 1 commit 0 [] next 1,1,1 match 0,0,0")
	if got := shownMsg(s.c.Net[199]); len(s.c.Net) != 200 || got != "append 0>1 @1 0,0,0" {
		t.Error(len(s.c.Net), got)
	}
}

// maxTermProgram ticks peers up to and beyond the greatest term, which is 3 there.
const maxTermProgram = `package main

import (
	"fmt"

	"loop.example/g00142/impl"
)

func show(c impl.Cluster, codes []int, p int) {
	x := c.Peers[p]
	fmt.Println(codes[len(codes)-1], x.Term, x.Vote, x.Role, x.Votes, x.Next, x.Match, len(c.Net))
}

func main() {
	tick, give := impl.Event{Kind: impl.EvTick}, impl.Event{Kind: impl.EvDeliver}
	crash, start := impl.Event{Kind: impl.EvCrash}, impl.Event{Kind: impl.EvStart}
	for _, events := range [][]impl.Event{
		{tick, tick},
		{tick, tick, tick},
		{tick, tick, tick, tick},
		{tick, tick, tick, crash, start},
		{tick, tick, tick, crash, start, tick},
		{tick, tick, {Kind: impl.EvDrop}, {Kind: impl.EvDrop}, tick, give, give, {Kind: impl.EvDrop}},
		{tick, tick, {Kind: impl.EvDrop}, {Kind: impl.EvDrop}, tick, give, give, {Kind: impl.EvDrop}, tick},
	} {
		c, codes, _ := impl.ClusterRun(2, events)
		show(c, codes, 0)
	}
}
`

// At MaxTerm a tick does nothing, but of a leader. No run has events enough to
// come there, so a copy of the program is asked in which MaxTerm is 3.
func TestTickAtMaxTerm(t *testing.T) {
	work := t.TempDir()
	files, _ := filepath.Glob("../impl/*.go")
	if err := os.Mkdir(filepath.Join(work, "impl"), 0o777); err != nil {
		t.Fatal(err)
	}
	lowered := 0
	for _, name := range files {
		text, err := os.ReadFile(name)
		if err != nil {
			t.Fatal(err)
		}
		lowered += bytes.Count(text, []byte("MaxTerm = 1000000"))
		text = bytes.ReplaceAll(text, []byte("MaxTerm = 1000000"), []byte("MaxTerm = 3"))
		if err := os.WriteFile(filepath.Join(work, "impl", filepath.Base(name)), text, 0o666); err != nil {
			t.Fatal(err)
		}
	}
	os.WriteFile(filepath.Join(work, "go.mod"), []byte("module loop.example/g00142\n\ngo 1.27\n"), 0o666)
	os.WriteFile(filepath.Join(work, "main.go"), []byte(maxTermProgram), 0o666)
	ask := exec.Command("go", "run", ".")
	ask.Dir = work
	said, err := ask.CombinedOutput()
	want := strings.Join([]string{
		"0 2 1 1 [true false] [] [] 2",
		"0 3 1 1 [true false] [] [] 3",
		"0 3 1 1 [true false] [] [] 3", // a candidate stays one
		"0 3 1 0 [] [] [] 3",
		"0 3 1 0 [] [] [] 3", // a follower does, too
		"0 3 1 2 [] [1 1] [0 0] 0",
		"0 3 1 2 [] [1 1] [0 0] 1", // a leader sends records
	}, "\n") + "\n"
	if err != nil || lowered != 1 || string(said) != want {
		t.Errorf("%v, lowered %d times:\n%s\nwant\n%s", err, lowered, said, want)
	}
}
