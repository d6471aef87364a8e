package tests

import (
	"bytes"
	"slices"
	"testing"

	"loop.example/g00142/impl"
)

func cloneRecs(list []impl.Rec) []impl.Rec {
	list = slices.Clone(list)
	for i := range list {
		list[i].Data = bytes.Clone(list[i].Data)
	}
	return list
}

// cloneCluster shares no memory with the one that it is of.
func cloneCluster(c impl.Cluster) impl.Cluster {
	c.Peers, c.Net, c.Chosen = slices.Clone(c.Peers), slices.Clone(c.Net), cloneRecs(c.Chosen)
	for i := range c.Peers {
		p := &c.Peers[i]
		p.Log, p.Votes, p.Next, p.Match = cloneRecs(p.Log), slices.Clone(p.Votes), slices.Clone(p.Next), slices.Clone(p.Match)
	}
	for i := range c.Net {
		c.Net[i].Log = cloneRecs(c.Net[i].Log)
	}
	return c
}

// agreed is a cluster of five whose peers have committed 4, 4, 3, 0 and 0 of
// five, four, three, five and no records; four are chosen.
func agreed(t *testing.T) impl.Cluster {
	t.Helper()
	s := newStory(t, 5).elect(0, 1, 1, 2).propose(0, "abc").hand(0, 1, 2).hand(0, 2).propose(0, "d").hand(0, 1, 3).hand(0, 1).propose(0, "e").hand(0, 3)
	s.must(crashOf(3)).wantChosen("[1.1a 1.2b 1.3c 1.4d]")
	var got []int
	for _, p := range s.c.Peers {
		got = append(got, p.Commit, len(p.Log))
	}
	if want := []int{4, 5, 4, 4, 3, 3, 0, 5, 0, 0}; !slices.Equal(got, want) {
		t.Fatalf("%v, want %v", got, want)
	}
	return s.c
}

func wantAgree(t *testing.T, c impl.Cluster, want bool, what ...any) {
	t.Helper()
	if got := impl.Agree(c); got != want {
		t.Errorf("Agree: %v, want %v: %v\n%.800s", got, want, what, shownCluster(c))
	}
}

func TestAgreeOfWhatIsRight(t *testing.T) {
	c := agreed(t)
	wantAgree(t, c, true)
	wantAgree(t, impl.Cluster{}, true, "no peers")
	wantAgree(t, impl.Cluster{Peers: []impl.Peer{}, Chosen: []impl.Rec{}}, true, "no peers")
	wantAgree(t, impl.Cluster{Chosen: c.Chosen}, true, "no peers")
	wantAgree(t, impl.Cluster{Peers: make([]impl.Peer, 3)}, true, "peers with nothing")
	// What is not committed, and all else, is not looked at.
	c.Net = nil
	for i := range c.Peers {
		p := &c.Peers[i]
		p.Up, p.Term, p.Vote, p.Role, p.Votes, p.Next, p.Match = false, -5, greatest, 99, nil, nil, nil
		for k := p.Commit; k < len(p.Log); k++ {
			p.Log[k] = rec(-1, 77, "other")
		}
	}
	wantAgree(t, c, true, "all else")
	c.Chosen = append(c.Chosen, rec(9, 9, "more"))
	wantAgree(t, c, true, "more are chosen")
}

func TestAgreeConflict(t *testing.T) {
	c := agreed(t)
	c.Conflict = true
	wantAgree(t, c, false)
	wantAgree(t, impl.Cluster{Conflict: true}, false)
	wantAgree(t, impl.Cluster{Conflict: true, Peers: make([]impl.Peer, 3)}, false)
}

// Each peer's Commit, at and beyond each of its bounds.
func TestAgreeCommit(t *testing.T) {
	was := agreed(t)
	for p := range was.Peers {
		for _, commit := range []int{least, -1000, -1, 0, 1, 2, 3, 4, 5, 6, 100, 101, greatest} {
			c := cloneCluster(was)
			c.Peers[p].Commit = commit
			wantAgree(t, c, commit >= 0 && commit <= min(len(was.Peers[p].Log), 4), "peer", p, "commit", commit)
		}
		// Below 0 also where there is nothing at all.
		wantAgree(t, impl.Cluster{Peers: []impl.Peer{{}, {Commit: -1}}}, false)
	}
	// Above what is chosen, though it has so many records; above these, though so many are chosen.
	for size := range 5 {
		c := cloneCluster(was)
		c.Chosen = c.Chosen[:size]
		wantAgree(t, c, size == 4, "chosen", size)
		c = cloneCluster(was)
		c.Peers[1].Log = c.Peers[1].Log[:size]
		wantAgree(t, c, size == 4, "records", size)
	}
}

// changes are those of a record, each in one field.
func changes() []func(*impl.Rec) {
	return []func(*impl.Rec){
		func(r *impl.Rec) { r.Term++ }, func(r *impl.Rec) { r.Term-- }, func(r *impl.Rec) { r.Term = greatest },
		func(r *impl.Rec) { r.Index++ }, func(r *impl.Rec) { r.Index-- }, func(r *impl.Rec) { r.Index = least },
		func(r *impl.Rec) { r.Data[0] ^= 1 }, func(r *impl.Rec) { r.Data = nil }, func(r *impl.Rec) { r.Data = append(r.Data, 0) },
		func(r *impl.Rec) { r.Data = append([]byte{'x'}, r.Data...) },
	}
}

// A record changed in each field: of a peer, where it has committed it, and of the
// chosen ones, where any peer has.
func TestAgreeRecords(t *testing.T) {
	was := agreed(t)
	for n, change := range changes() {
		for p := range was.Peers {
			for k := range was.Peers[p].Log {
				c := cloneCluster(was)
				change(&c.Peers[p].Log[k])
				wantAgree(t, c, k >= was.Peers[p].Commit, "change", n, "of record", k, "of peer", p)
				// The same change of what was chosen does not mend it: others have it.
				if k < 3 {
					change(&c.Chosen[k])
					wantAgree(t, c, false, "change", n, "of record", k, "of peer", p, "and of chosen")
				}
			}
		}
		for k := range was.Chosen {
			c := cloneCluster(was)
			change(&c.Chosen[k])
			wantAgree(t, c, false, "change", n, "of chosen", k)
			for p := range c.Peers {
				c.Peers[p].Commit = min(c.Peers[p].Commit, k)
			}
			wantAgree(t, c, true, "change", n, "of chosen", k, "that nobody has committed")
			for p := range c.Peers {
				if k < len(c.Peers[p].Log) {
					c.Peers[p].Commit = k + 1
					change(&c.Peers[p].Log[k])
				}
			}
			wantAgree(t, c, true, "change", n, "of chosen", k, "and of all")
		}
	}
	// Records out of order are others, too.
	c := cloneCluster(was)
	c.Peers[1].Log[0], c.Peers[1].Log[1] = c.Peers[1].Log[1], c.Peers[1].Log[0]
	wantAgree(t, c, false, "out of order")
	// An empty Data and nil are the same value.
	c = impl.Cluster{Peers: []impl.Peer{{Commit: 1, Log: []impl.Rec{{Term: 1, Index: 1, Data: []byte{}}}}, {Commit: 1, Log: []impl.Rec{{Term: 1, Index: 1}}}}, Chosen: []impl.Rec{{Term: 1, Index: 1}}}
	wantAgree(t, c, true, "empty and nil")
	// Indexes and terms need not be what a run makes.
	odd := []impl.Rec{rec(-3, 9, "q"), rec(0, 9, ""), rec(greatest, least, "q")}
	c = impl.Cluster{Peers: []impl.Peer{{Commit: 3, Log: cloneRecs(odd)}, {Commit: 2, Log: cloneRecs(odd)}}, Chosen: odd}
	wantAgree(t, c, true, "odd records")
}

// Any number of peers may be handed in, and one that is wrong is found wherever it stands.
func TestAgreeOfManyPeers(t *testing.T) {
	log := recsFrom("abc")
	for _, n := range []int{1, 2, 6, 7, 8, 9, 13, 14, 15, 50, 4096, 4097} {
		c := impl.Cluster{Chosen: cloneRecs(log), Peers: make([]impl.Peer, n)}
		for p := range n {
			c.Peers[p] = impl.Peer{Log: log, Commit: p % 4}
		}
		wantAgree(t, impl.Cluster{Peers: c.Peers, Chosen: c.Chosen}, true, n, "peers")
		for p := 0; p < n; p += 1 + n/40 {
			right := c.Peers[p]
			for _, wrong := range []impl.Peer{{Commit: -1}, {Commit: 1}, {Log: recsFrom("abd"), Commit: 3}, {Log: recsFrom("abcd"), Commit: 4}} {
				c.Peers[p] = wrong
				if impl.Agree(c) {
					t.Error("peer", p, "of", n, "is wrong:", shownPeer(wrong))
				}
			}
			c.Peers[p] = right
		}
	}
	// Long logs, and many that are chosen.
	c := impl.Cluster{Chosen: recsFrom(long(5000)), Peers: []impl.Peer{{Log: recsFrom(long(5000)), Commit: 5000}}}
	wantAgree(t, c, true, "long logs")
	c.Peers[0].Log[4999].Data[0]++
	if impl.Agree(c) {
		t.Error("the last of a long log is not looked at")
	}
}

// recsFrom are records of term 1 with the bytes of a text.
func recsFrom(text string) []impl.Rec {
	var list []impl.Rec
	for i := range text {
		list = append(list, rec(1, i+1, text[i:i+1]))
	}
	return list
}
