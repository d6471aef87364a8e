package tests

import (
	"strings"
	"testing"

	"loop.example/g00142/impl"
)

// rightJobs have each field at its bounds.
func rightJobs() []impl.Job {
	least := jobOf(1, 1, "", 0, "", "")
	most := impl.Job{Client: 1000000, Seq: 1000000, File: long(40), Version: 1000000, Script: string(filled(2000)), Text: string(filled(2000)), Ere: true, Quiet: true}
	jobs := []impl.Job{least, most, jobOf(3, 4, "a", 5, "p", "x\n")}
	for _, client := range []int{1, 2, 127, 128, 16383, 16384, 999999, 1000000} {
		jobs = append(jobs, jobOf(client, 9, "a", 0, "", ""), jobOf(9, client, "a", 0, "", ""), jobOf(9, 9, "a", client, "", ""))
	}
	for _, size := range []int{0, 1, 39, 40} {
		jobs = append(jobs, jobOf(1, 1, string(filled(size)), 0, "", ""))
	}
	for _, size := range []int{1, 127, 128, 1999, 2000} {
		jobs = append(jobs, jobOf(1, 1, "a", 0, string(filled(size)), ""), jobOf(1, 1, "a", 0, "", string(filled(size))))
	}
	for flags := range 4 {
		jobs = append(jobs, impl.Job{Client: 1, Seq: 2, File: "a", Version: 3, Script: "p", Text: "x", Ere: flags&1 != 0, Quiet: flags&2 != 0})
	}
	return jobs
}

// wrongJobs have one field beyond its bounds.
func wrongJobs() []impl.Job {
	var jobs []impl.Job
	for _, n := range []int{least, -1000000, -1, 0, 1000001, greatest} {
		jobs = append(jobs, jobOf(n, 9, "a", 0, "", ""), jobOf(9, n, "a", 0, "", ""))
		if n != 0 {
			jobs = append(jobs, jobOf(9, 9, "a", n, "", ""))
		}
	}
	for _, size := range []int{41, 65536, 65537} {
		jobs = append(jobs, jobOf(1, 1, long(size), 0, "", ""))
	}
	for _, size := range []int{2001, 65536, 65537} {
		jobs = append(jobs, jobOf(1, 1, "a", 0, strings.Repeat(";", size), ""), jobOf(1, 1, "a", 0, "", long(size)))
	}
	return append(jobs, impl.Job{}, impl.Job{Client: 1}, impl.Job{Seq: 1}, jobOf(1, 1, long(41), -1, long(2001), long(2001)))
}

// rightReplies and wrongReplies are of each code, with and without Version and Sha.
func rightReplies() []impl.Reply {
	var replies []impl.Reply
	for code := range 16 {
		replies = append(replies, impl.Reply{Code: code})
	}
	for _, version := range []int{1, 2, 999999, 1000000} {
		for _, sha := range []string{keyOf(""), strings.Repeat("0", 64), strings.Repeat("f", 64), strings.Repeat("0123456789abcdef", 4)} {
			replies = append(replies, impl.Reply{Version: version, Sha: sha})
		}
	}
	return replies
}

func wrongReplies() []impl.Reply {
	key := keyOf("x")
	var replies []impl.Reply
	for _, code := range []int{least, -1, 16, 17, greatest} {
		replies = append(replies, impl.Reply{Code: code}, impl.Reply{Code: code, Version: 1, Sha: key})
	}
	for code := range 16 {
		replies = append(replies, impl.Reply{Code: code, Version: 1}, impl.Reply{Code: code, Sha: key})
		if code > 0 {
			replies = append(replies, impl.Reply{Code: code, Version: 1, Sha: key}, impl.Reply{Code: code, Version: 1000000, Sha: key})
		}
	}
	for _, version := range []int{least, -1, 0, 1000001, greatest} {
		replies = append(replies, impl.Reply{Version: version, Sha: key})
		if version != 0 {
			replies = append(replies, impl.Reply{Version: version})
		}
	}
	for _, sha := range []string{"0", key[:63], key + "0", key[:32], key + key, strings.ToUpper(key), long(65537)} {
		replies = append(replies, impl.Reply{Version: 1, Sha: sha}, impl.Reply{Sha: sha})
	}
	for place := range 64 {
		for _, sign := range "\x00/:@AFG`gz\n" {
			replies = append(replies, impl.Reply{Version: 1, Sha: key[:place] + string(sign) + key[place+1:]})
		}
	}
	return replies
}

// rightStates have each field at its bounds.
func rightStates() []impl.State {
	states := []impl.State{
		{}, {Files: []impl.File{}, Sessions: []impl.Session{}}, stateOf(manyFiles(1)), stateOf(nil, manySessions(1)...), stateOf(manyFiles(20), manySessions(200)...), stateOf(manyFiles(19), manySessions(199)...),
		stateOf([]impl.File{fileOf("a", 1, ""), fileOf("A", 1, ""), fileOf("aa", 1, ""), fileOf("_", 1, "")}),
	}
	for _, name := range []string{"a", "z", "_", "Z0", long(40)} {
		for _, version := range []int{1, 127, 128, 999999, 1000000} {
			states = append(states, stateOf([]impl.File{fileOf(name, version, "x\n")}))
		}
	}
	for _, size := range []int{0, 1, 127, 128, 2001, 7999, 8000} {
		states = append(states, stateOf([]impl.File{fileOf("a", 3, string(filled(size)))}))
	}
	for _, n := range []int{1, 2, 128, 999999, 1000000} {
		states = append(states, stateOf(nil, sessionOf(n, 7, impl.Reply{})), stateOf(nil, sessionOf(7, n, impl.Reply{})))
	}
	for _, reply := range rightReplies() {
		states = append(states, stateOf(nil, sessionOf(4, 5, reply)), stateOf(manyFiles(2), sessionOf(1, 1, impl.Reply{}), sessionOf(4, 5, reply)))
	}
	return states
}

// wrongStates have one thing beyond its bounds, at the first place, the last one or between.
func wrongStates() []impl.State {
	var files []impl.File
	for _, version := range []int{least, -1, 0, 1000001, greatest} {
		files = append(files, fileOf("odd", version, "x"))
	}
	for _, name := range []string{"", "1", "-", "a-b", "a ", "\x00", "ä", long(41), long(65537), "f1", "f2", "f4"} {
		files = append(files, fileOf(name, 1, "x"))
	}
	for _, size := range []int{8001, 65536, 65537} {
		files = append(files, fileOf("odd", 1, long(size)))
	}
	var sessions []impl.Session
	for _, n := range []int{least, -1, 0, 1000001, greatest} {
		sessions = append(sessions, sessionOf(n, 1, failed(1)), sessionOf(99, n, failed(1)))
	}
	for _, client := range []int{1, 2, 4} {
		sessions = append(sessions, sessionOf(client, 1, failed(1)), sessionOf(client, 5, done(client, itoa(client))))
	}
	for _, reply := range wrongReplies() {
		sessions = append(sessions, sessionOf(99, 1, reply))
	}
	states := []impl.State{stateOf(manyFiles(21)), stateOf(nil, manySessions(201)...), stateOf(manyFiles(21), manySessions(201)...), stateOf(manyFiles(4097)), stateOf(nil, manySessions(4097)...), stateOf(make([]impl.File, 2)), stateOf(nil, make([]impl.Session, 1)...)}
	for _, f := range files {
		for place := range 5 {
			list := append(append(manyFiles(4)[:place:place], f), manyFiles(4)[place:]...)
			states = append(states, stateOf(list, manySessions(2)...))
		}
	}
	for _, s := range sessions {
		for place := range 5 {
			list := append(append(manySessions(4)[:place:place], s), manySessions(4)[place:]...)
			states = append(states, stateOf(manyFiles(1), list...))
		}
	}
	return states
}

// A state is right within its bounds, and not beyond one of them.
func TestStateOK(t *testing.T) {
	for _, s := range rightStates() {
		if !impl.StateOK(s) {
			t.Errorf("StateOK(%.300s): false", shownState(s))
		}
	}
	for _, s := range wrongStates() {
		if impl.StateOK(s) {
			t.Errorf("StateOK(%.300s): true", shownState(s))
		}
	}
}

// Apply asks that both are right.
func TestApplyBad(t *testing.T) {
	wantBad := func(s impl.State, j impl.Job) {
		t.Helper()
		if got, reply, code := impl.Apply(s, j); code != impl.ErrBad || !isZeroState(got) || reply != (impl.Reply{}) {
			t.Errorf("Apply(%.200s, %.200s): %.200s and %s with code %d", shownState(s), shownJob(j), shownState(got), shownReply(reply), code)
		}
	}
	wrong, right := wrongJobs(), jobOf(1, 5, "f1", 1, "", "")
	for _, j := range wrong {
		wantBad(impl.State{}, j)
		wantBad(stateOf(manyFiles(20), manySessions(200)...), j)
	}
	for i, s := range wrongStates() {
		wantBad(s, right)
		wantBad(s, jobOf(9, 1, "", 0, "s/(", ""))
		wantBad(s, wrong[i%len(wrong)])
	}
	for _, s := range rightStates() {
		for _, j := range rightJobs() {
			got, _, code := impl.Apply(s, j)
			if code != impl.OK || !impl.StateOK(got) {
				t.Fatalf("Apply(%.200s, %.200s): %.200s with code %d", shownState(s), shownJob(j), shownState(got), code)
			}
		}
	}
}

// Fold asks that all are right, at each place; ahead of that how many there are.
func TestFoldBad(t *testing.T) {
	wantCode := func(jobs []impl.Job, want int) {
		t.Helper()
		if s, replies, code := impl.Fold(jobs); code != want || !isZeroState(s) || replies != nil {
			t.Errorf("Fold of %d jobs: %.200s and %d replies with code %d, want code %d", len(jobs), shownState(s), len(replies), code, want)
		}
	}
	wrong := wrongJobs()
	for _, size := range []int{1, 2, 3, 100} {
		for place := range size {
			jobs := manyJobs(size)
			jobs[place] = wrong[place%len(wrong)]
			wantCode(jobs, impl.ErrBad)
		}
	}
	for _, j := range wrong {
		wantCode([]impl.Job{j}, impl.ErrBad)
		wantCode(append(manyJobs(1), j, jobOf(1, 1, "a", 0, "", "")), impl.ErrBad)
	}
	for _, size := range []int{101, 102, 200, 4096} {
		wantCode(manyJobs(size), impl.ErrMany)
		wantCode(make([]impl.Job, size), impl.ErrMany)
	}
	for _, size := range []int{4097, 5000, 65537} {
		wantCode(manyJobs(size), impl.ErrLong)
		wantCode(make([]impl.Job, size), impl.ErrLong)
	}
	wantCode(make([]impl.Job, 100), impl.ErrBad)
	for _, none := range [][]impl.Job{nil, {}} {
		wantCode(none, impl.OK)
	}
}

// manyJobs add a line each to one file, by three clients in turn.
func manyJobs(n int) []impl.Job {
	var jobs []impl.Job
	for i := range n {
		j := jobOf(i%3+1, i/3+1, "a", i, "$a "+itoa(i), "")
		if i == 0 {
			j.Text = "top\n"
		}
		jobs = append(jobs, j)
	}
	return jobs
}

// Fold applies jobs one behind the other, from an empty state on.
func TestFold(t *testing.T) {
	for _, size := range []int{1, 2, 3, 4, 50, 99, 100} {
		jobs := manyJobs(size)
		s, replies, code := impl.Fold(jobs)
		if code != impl.OK || len(replies) != size {
			t.Fatalf("Fold of %d jobs: %d replies with code %d", size, len(replies), code)
		}
		text := "top\n"
		for i := range jobs {
			text += itoa(i) + "\n"
			if replies[i] != done(i+1, text) {
				t.Errorf("reply %d of %d: %s", i, size, shownReply(replies[i]))
			}
		}
		var sessions []impl.Session
		for i, j := range jobs {
			sessions = notedIn(sessions, j, replies[i])
		}
		if want := stateOf([]impl.File{fileOf("a", size, text)}, sessions...); !sameState(s, want) {
			t.Errorf("Fold of %d jobs: %s, want %s", size, shownState(s), shownState(want))
		}
	}
	// A job that was refused does not keep those behind it from being done.
	jobs := []impl.Job{jobOf(1, 2, "a", 0, "p", "x"), jobOf(1, 1, "a", 1, "p", ""), jobOf(1, 2, "b", 0, "p", "y"), jobOf(2, 1, "a", 0, "p", ""), jobOf(2, 1, "a", 1, "p", ""), jobOf(2, 2, "a", 1, "d", ""), jobOf(3, 1, "", 0, "", ""), jobOf(1, 3, "b", 0, "", "z")}
	s, replies, code := impl.Fold(jobs)
	want := []impl.Reply{done(1, "x\nx\n"), failed(impl.ErrStale), done(1, "x\nx\n"), failed(impl.ErrVersion), failed(impl.ErrVersion), done(2, ""), failed(impl.ErrName), done(1, "z\n")}
	for i := range jobs {
		if code != impl.OK || len(replies) != len(jobs) || replies[i] != want[i] {
			t.Fatalf("Fold: reply %d of %d with code %d", i, len(replies), code)
		}
	}
	if state := stateOf([]impl.File{fileOf("a", 2, ""), fileOf("b", 1, "z\n")}, sessionOf(1, 3, want[7]), sessionOf(2, 2, want[5]), sessionOf(3, 1, want[6])); !sameState(s, state) {
		t.Errorf("Fold: %s, want %s", shownState(s), shownState(state))
	}
}
