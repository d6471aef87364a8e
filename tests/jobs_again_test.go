package tests

import (
	"slices"
	"strings"
	"testing"

	"loop.example/g00142/impl"
)

// alike are jobs with the client and Seq of one, each with another field.
func alike(j impl.Job) []impl.Job {
	return []impl.Job{
		j,
		with(j, func(j *impl.Job) { j.File = "other" }), with(j, func(j *impl.Job) { j.File = "" }), with(j, func(j *impl.Job) { j.File = "-" }),
		with(j, func(j *impl.Job) { j.Version = 0 }), with(j, func(j *impl.Job) { j.Version++ }), with(j, func(j *impl.Job) { j.Version = 1000000 }),
		with(j, func(j *impl.Job) { j.Script = "d" }), with(j, func(j *impl.Job) { j.Script = "s/(" }), with(j, func(j *impl.Job) { j.Script = "" }),
		with(j, func(j *impl.Job) { j.Text = "other\n" }), with(j, func(j *impl.Job) { j.Text = long(2000) }),
		with(j, func(j *impl.Job) { j.Ere = !j.Ere }), with(j, func(j *impl.Job) { j.Quiet = !j.Quiet }),
	}
}

// A job that comes again has the answer that it had, and changes nothing,
// whatever its other fields are; one with a lesser Seq is stale.
func TestJobComesAgain(t *testing.T) {
	replies := []impl.Reply{done(1, "x\n"), done(1000000, ""), {}}
	for code := range 16 {
		replies = append(replies, failed(code))
	}
	for _, reply := range replies {
		for _, seq := range []int{1, 2, 127, 128, 999999, 1000000} {
			s := stateOf([]impl.File{fileOf("a", 1, "x\n"), fileOf("other", 3, "y\n")}, sessionOf(8, 1000000, done(2, "")), sessionOf(3, seq, reply), sessionOf(9, 1, failed(impl.ErrName)))
			for _, j := range alike(jobOf(3, seq, "a", 1, "p", "")) {
				wantUnchanged(t, s, j, reply)
				for _, lesser := range []int{1, 2, 126, 127, 999998, 999999} {
					if lesser < seq {
						wantUnchanged(t, s, with(j, func(j *impl.Job) { j.Seq = lesser }), failed(impl.ErrStale))
					}
				}
				for _, greater := range []int{2, 3, 128, 129, 1000000} {
					if greater > seq {
						wantAnew(t, s, with(j, func(j *impl.Job) { j.Seq = greater }))
					}
				}
			}
		}
	}
}

// wantAnew holds that a job of a client that has a session is done as if it had
// another reply, and that its session stays in its place.
func wantAnew(t *testing.T, s impl.State, j impl.Job) {
	t.Helper()
	bare := impl.State{Files: s.Files}
	done, reply, code := impl.Apply(bare, j)
	if code != impl.OK || len(done.Sessions) != 1 || done.Sessions[0] != sessionOf(j.Client, j.Seq, reply) {
		t.Errorf("Apply(%.200s): %s with code %d", shownJob(j), shownState(done), code)
	}
	wantApply(t, s, j, impl.State{Files: done.Files, Sessions: notedIn(s.Sessions, j, reply)}, reply)
}

// A client's session stays in its place; a new one stands behind the others.
func TestSessionsStand(t *testing.T) {
	sessions := manySessions(200)
	slices.Reverse(sessions)
	for _, size := range []int{1, 2, 3, 50, 199, 200} {
		for _, place := range []int{0, 1, size / 2, size - 1} {
			if place >= size {
				continue
			}
			s := stateOf(manyFiles(2), sessions[:size]...)
			j := jobOf(sessions[place].Client, 6, "f2", 2, "d", "")
			want := slices.Clone(sessions[:size])
			want[place] = sessionOf(j.Client, 6, done(3, ""))
			wantApply(t, s, j, impl.State{Files: []impl.File{manyFiles(1)[0], fileOf("f2", 3, "")}, Sessions: want}, done(3, ""))
			j.File = "-"
			want[place].Reply = failed(impl.ErrName)
			wantApply(t, s, j, impl.State{Files: s.Files, Sessions: want}, failed(impl.ErrName))
		}
		if size == 200 {
			continue
		}
		for _, client := range []int{201, 1000000} {
			want := append(slices.Clone(sessions[:size]), sessionOf(client, 1, failed(impl.ErrVersion)))
			wantApply(t, stateOf(nil, sessions[:size]...), jobOf(client, 1, "a", 1, "", ""), stateOf(nil, want...), failed(impl.ErrVersion))
		}
	}
}

// Clients MaxActs are answered, and one more is not: nothing is noted of it.
func TestSessionsMany(t *testing.T) {
	full := stateOf(manyFiles(3), manySessions(200)...)
	for _, j := range alike(jobOf(201, 1, "f1", 1, "d", "")) {
		wantUnchanged(t, full, j, failed(impl.ErrMany))
		wantUnchanged(t, full, with(j, func(j *impl.Job) { j.Client, j.Seq = 1000000, 1000000 }), failed(impl.ErrMany))
		// Those that have a session go on.
		for _, client := range []int{1, 2, 100, 200} {
			wantAnew(t, full, with(j, func(j *impl.Job) { j.Client, j.Seq = client, 6 }))
			wantUnchanged(t, full, with(j, func(j *impl.Job) { j.Client, j.Seq = client, 5 }), done(client, itoa(client)))
			wantUnchanged(t, full, with(j, func(j *impl.Job) { j.Client, j.Seq = client, 4 }), failed(impl.ErrStale))
		}
		wantAnew(t, stateOf(manyFiles(3), manySessions(199)...), j)
	}
	// It is no reply that stays: where there is room again the job is done.
	s, reply, _ := impl.Apply(full, jobOf(201, 1, "f1", 1, "d", ""))
	s.Sessions = s.Sessions[1:]
	if reply.Code != impl.ErrMany {
		t.Error("client MaxActs + 1:", shownReply(reply))
	}
	wantApply(t, s, jobOf(201, 1, "f1", 1, "d", ""), stateOf(append([]impl.File{fileOf("f1", 2, "")}, manyFiles(3)[1:]...), append(manySessions(200)[1:], sessionOf(201, 1, done(2, "")))...), done(2, ""))
}

// Each code of a job that was looked at makes a session, and none of the codes
// of a job that was not.
func TestWhichCodesMakeASession(t *testing.T) {
	made := make([]bool, 16)
	note := func(s impl.State, j impl.Job, code int) {
		t.Helper()
		got, reply, _ := impl.Apply(s, j)
		if reply.Code != code || len(got.Sessions) != len(s.Sessions)+1 || got.Sessions[len(s.Sessions)] != sessionOf(j.Client, j.Seq, reply) {
			t.Errorf("Apply(%.200s): %s and %s, want code %d noted", shownJob(j), shownState(got), shownReply(reply), code)
		}
		made[code] = true
		again, same, _ := impl.Apply(got, j)
		if !sameState(again, got) || same != reply {
			t.Errorf("Apply(%.200s) again: %s, then %s", shownJob(j), shownReply(reply), shownReply(same))
		}
	}
	for _, c := range editFaults {
		note(impl.State{}, impl.Job{Client: 1, Seq: 1, File: "a", Script: c.script, Text: c.text, Ere: c.ere}, c.code)
	}
	note(impl.State{}, jobOf(1, 1, "-", 0, "", ""), impl.ErrName)
	note(impl.State{}, jobOf(1, 1, "a", 1, "", ""), impl.ErrVersion)
	note(stateOf(manyFiles(20)), jobOf(1, 1, "a", 0, "", ""), impl.ErrMany)
	note(stateOf(nil, manySessions(199)...), jobOf(200, 1, "-", 0, "", ""), impl.ErrName)
	var codes []string
	for code, there := range made {
		if there {
			codes = append(codes, impl.CodeWord(code))
		}
	}
	if got := strings.Join(codes, " "); got != "ok syntax range many name version forbid label steps size" {
		t.Error("codes that made a session:", got)
	}
	for _, s := range []impl.State{stateOf(manyFiles(1), sessionOf(1, 2, failed(impl.ErrName))), stateOf(nil, sessionOf(1, 1000000, done(1, "")))} {
		wantUnchanged(t, s, jobOf(1, 1, "f1", 1, "", ""), failed(impl.ErrStale))
	}
}

// A new file stands behind the others, in whatever order their names are.
func TestFilesStand(t *testing.T) {
	names := []string{"m", "z", "a", "_", "B", "m1", "aa"}
	var s impl.State
	for i, name := range names {
		s, _, _ = impl.Apply(s, jobOf(1, i+1, name, 0, "", name))
	}
	for round := range 3 {
		for i := range names {
			name := names[(i*3+round)%len(names)]
			s, _, _ = impl.Apply(s, jobOf(2, round*len(names)+i+1, name, round+1, "", ""))
		}
	}
	if len(s.Files) != len(names) {
		t.Fatal(shownState(s))
	}
	for i, name := range names {
		if s.Files[i] != fileOf(name, 4, name+"\n") {
			t.Error("file", i, s.Files[i])
		}
	}
	want := []impl.Session{sessionOf(1, 7, done(1, "aa\n")), sessionOf(2, 21, done(4, names[(6*3+2)%7]+"\n"))}
	if !slices.Equal(s.Sessions, want) {
		t.Error("sessions:", shownState(s))
	}
}
