package stable_test

import (
	"fmt"
	"math"
	"slices"
	"strings"
	"testing"

	"towncrier/api"
	"towncrier/record"
	"towncrier/stable"
)

// want asks what a call answered: beside an error that is to be nothing. It and those below ask for t.Helper only where something is wrong: that takes longer than what is asked.
func want(t *testing.T, call string, got api.Stable, e api.Errno, wantStable api.Stable, wantError api.Errno) {
	if e != wantError || !same(got, wantStable) {
		t.Helper()
		t.Errorf("%s = %s, %d; want %s, %d", call, show(got), e, show(wantStable), wantError)
	}
}

func wantNew(t *testing.T, groups int, wantStable api.Stable, wantError api.Errno) {
	t.Helper()
	got, e := stable.New(groups)
	want(t, fmt.Sprint("New(", groups, ")"), got, e, wantStable, wantError)
}

func wantCheck(t *testing.T, s api.Stable, wantError api.Errno) {
	if e := stable.Check(s); e != wantError {
		t.Helper()
		t.Errorf("Check(%s) = %d; want %d", show(s), e, wantError)
	}
}

// wantAsWords asks Check of what may be or not.
func wantAsWords(t *testing.T, s api.Stable) bool {
	may := mayBe(s)
	if may {
		wantCheck(t, s, api.OK)
	} else {
		wantCheck(t, s, api.ErrBad)
	}
	return may
}

func wantApply(t *testing.T, s api.Stable, r api.Record, wantStable api.Stable, wantError api.Errno) {
	if got, e := stable.Apply(s, r); e != wantError || !same(got, wantStable) {
		t.Helper()
		want(t, "Apply("+show(s)+", "+showRecord(r)+")", got, e, wantStable, wantError)
	}
}

func wantApplyError(t *testing.T, s api.Stable, r api.Record, wantError api.Errno) {
	t.Helper()
	wantApply(t, s, r, api.Stable{}, wantError)
}

// wantBehind asks of a record what the words tell, and answers that.
func wantBehind(t *testing.T, s api.Stable, r api.Record) (api.Stable, api.Errno) {
	next, e := behind(s, r)
	if got, gotError := stable.Apply(s, r); gotError != e || !same(got, next) {
		t.Helper()
		want(t, "Apply("+show(s)+", "+showRecord(r)+")", got, gotError, next, e)
	}
	return next, e
}

func wantAt(t *testing.T, s api.Stable, group, slot int, wantVote api.Vote, wantError api.Errno) {
	if v, e := stable.At(s, group, slot); v != wantVote || e != wantError {
		t.Helper()
		t.Errorf("At(%s, %d, %d) = %s, %d; want %s, %d", show(s), group, slot, showVote(v), e, showVote(wantVote), wantError)
	}
}

func wantReplay(t *testing.T, groups int, l []string, wantStable api.Stable, wantError api.Errno) {
	if got, e := stable.Replay(groups, l); e != wantError || !same(got, wantStable) {
		t.Helper()
		want(t, fmt.Sprintf("Replay(%d, %d texts, %q)", groups, len(l), l[:min(5, len(l))]), got, e, wantStable, wantError)
	}
}

func wantReplayError(t *testing.T, groups int, l []string, wantError api.Errno) {
	t.Helper()
	wantReplay(t, groups, l, api.Stable{}, wantError)
}

// wantImage asks Image of what may be, and what Replay makes of it.
func wantImage(t *testing.T, s api.Stable) {
	l := textsOf(shortest(s))
	if got, e := stable.Image(s); !slices.Equal(got, l) || e != api.OK {
		t.Helper()
		t.Errorf("Image(%s) = %q, %d; want %q", show(s), got[:min(5, len(got))], e, l[:min(5, len(l))])
	}
	wantReplay(t, len(s.Logs), l, s, api.OK)
}

// wantNone asks all calls of what may not be, with whatever else may be or not.
func wantNone(t *testing.T, s api.Stable) {
	t.Helper()
	wantCheck(t, s, api.ErrBad)
	for _, r := range []api.Record{promise(0, 3, 33), accept(1, 1, 33, "x"), decide(0, 3, "x"), decide(0, 1, "x"), promise(3, 200, 8), promise(0, 3, 8), {}, promise(0, 3, 7), decide(9, 1, "x")} {
		wantApplyError(t, s, r, api.ErrBad)
	}
	for _, place := range [][2]int{{0, 3}, {0, 1}, {3, 200}, {-1, 1}, {4, 1}, {0, 0}, {0, 201}, {math.MaxInt, math.MinInt}} {
		wantAt(t, s, place[0], place[1], api.Vote{}, api.ErrBad)
	}
	if l, e := stable.Image(s); len(l) != 0 || e != api.ErrBad {
		t.Errorf("Image(%s) = %q, %d; want none, ErrBad", show(s), l[:min(5, len(l))], e)
	}
}

func TestChapterExamples(t *testing.T) {
	s, e := stable.New(2)
	want(t, "New", s, e, empty(2), api.OK)
	for _, r := range []api.Record{promise(1, 3, 17), accept(1, 3, 17, "x"), promise(1, 3, 25)} {
		if s, e = stable.Apply(s, r); e != api.OK {
			t.Fatal(showRecord(r), e)
		}
	}
	wantAt(t, s, 1, 3, api.Vote{Promised: 25, Ballot: 17, Value: "x"}, api.OK)
	image, e := stable.Image(s)
	if !slices.Equal(image, []string{"\x02\x01\x03\x11\x01\x78", "\x01\x01\x03\x19"}) || e != api.OK {
		t.Errorf("%q, %d", image, e)
	}
	s, e = stable.Apply(s, decide(1, 1, "a"))
	want(t, "decide slot 1", s, e, api.Stable{Logs: [][]string{nil, {"a"}}, Votes: []api.Seen{accepted(1, 3, 25, 17, "x")}}, api.OK)
	wantApplyError(t, s, decide(1, 3, "x"), api.ErrBad)
	s, e = stable.Apply(s, decide(1, 2, "b"))
	want(t, "decide slot 2", s, e, api.Stable{Logs: [][]string{nil, {"a", "b"}}, Votes: []api.Seen{accepted(1, 3, 25, 17, "x")}}, api.OK)
	s, e = stable.Apply(s, decide(1, 3, "x"))
	want(t, "decide slot 3", s, e, api.Stable{Logs: [][]string{nil, {"a", "b", "x"}}}, api.OK)
	wantApplyError(t, s, promise(1, 2, 33), api.ErrBad)
	wantApplyError(t, s, promise(2, 2, 33), api.ErrNone)
	wantNew(t, 5, api.Stable{}, api.ErrArg)
}

func TestP111New(t *testing.T) {
	for groups := 1; groups <= 4; groups++ {
		wantNew(t, groups, empty(groups), api.OK)
		s, _ := stable.New(groups)
		wantCheck(t, s, api.OK)
		wantImage(t, s)
	}
	for _, groups := range append(noNumbers(), -2, -1, 0, 5, 6, 256, 257, 260) {
		wantNew(t, groups, api.Stable{}, api.ErrArg)
	}
}

// TestP111TheWordsOnceMore holds the tests' own words against what stands here as it is.
func TestP111TheWordsOnceMore(t *testing.T) {
	for _, s := range samples() {
		wantCheck(t, s, api.OK)
		if !mayBe(s) {
			t.Error(show(s))
		}
	}
	for _, v := range noVotes() {
		if mayBe(api.Stable{Logs: [][]string{nil}, Votes: []api.Seen{{Slot: 1, Vote: v}}}) {
			t.Error(showVote(v))
		}
	}
	for _, r := range noRecords() {
		if isRecord(r) || record.Check(r) == api.OK {
			t.Error(showRecord(r))
		}
	}
}

func TestP111HowManyLogs(t *testing.T) {
	for groups := range 4 {
		wantCheck(t, empty(groups+1), api.OK)
	}
	wantNone(t, api.Stable{})
	wantNone(t, api.Stable{Logs: [][]string{}})
	wantNone(t, api.Stable{Votes: []api.Seen{promised(0, 1, 8)}})
	for _, groups := range []int{5, 6, 256, 257, 1 << 16} {
		wantNone(t, empty(groups))
		wantNone(t, api.Stable{Logs: make([][]string, groups), Votes: []api.Seen{promised(0, 1, 8), promised(4, 1, 8)}})
		wantNone(t, api.Stable{Logs: slices.Repeat([][]string{{"a"}}, groups)})
	}
}

func TestP111HowManyValues(t *testing.T) {
	for groups := 1; groups <= 4; groups++ {
		for group := range groups {
			for _, many := range []int{0, 1, 127, 128, 199, 200} {
				s := changed(empty(groups), func(s *api.Stable) { s.Logs[group] = filled(many) })
				wantCheck(t, s, api.OK)
				wantImage(t, s)
			}
			for _, many := range []int{201, 202, 256, 257, 1 << 16} {
				wantNone(t, changed(empty(groups), func(s *api.Stable) { s.Logs[group] = filled(many) }))
			}
		}
	}
	wantNone(t, api.Stable{Logs: [][]string{make([]string, 201)}})
}

func TestP111ValuesOfLogs(t *testing.T) {
	for group := range 4 {
		for _, at := range []int{0, 1, 99, 198, 199} {
			for _, value := range values() {
				s := changed(decided(), func(s *api.Stable) { s.Logs[group][at] = value })
				wantCheck(t, s, api.OK)
			}
			for _, value := range noValues() {
				wantCheck(t, changed(decided(), func(s *api.Stable) { s.Logs[group][at] = value }), api.ErrBad)
				wantCheck(t, api.Stable{Logs: append(make([][]string, group), []string{value})}, api.ErrBad)
			}
		}
		wantNone(t, changed(busy(), func(s *api.Stable) { s.Logs[group] = []string{long(1025)} }))
		wantNone(t, changed(empty(4), func(s *api.Stable) { s.Logs[group] = []string{"a", long(1025)} }))
	}
	for _, value := range values() {
		wantImage(t, api.Stable{Logs: [][]string{{"a", value}, {value}}})
	}
}

// TestP111WhereAVoteStands has one vote anywhere, beside logs of several lengths.
func TestP111WhereAVoteStands(t *testing.T) {
	lengths := []int{0, 1, 2, 198, 199, 200}
	for groups := 1; groups <= 4; groups++ {
		for i := range lengths {
			s := empty(groups)
			for group := range groups {
				s.Logs[group] = filled(lengths[(i+group)%len(lengths)])
			}
			for _, group := range append(noNumbers(), -1, 0, 1, 2, 3, 4, 5, 256) {
				for _, slot := range append(noNumbers(), -1, 0, 1, 2, 3, 4, 127, 128, 198, 199, 200, 201, 202, 256, 257) {
					s.Votes = []api.Seen{promised(group, slot, 17)}
					may := group >= 0 && group < groups && slot <= 200 && slot > len(s.Logs[group])
					if wantAsWords(t, s) != may {
						t.Error(show(s), may)
					}
					s.Votes = []api.Seen{accepted(group, slot, 17, 17, "x")}
					wantAsWords(t, s)
				}
			}
		}
	}
	for _, v := range []api.Seen{promised(-1, 1, 8), promised(4, 1, 8), promised(0, 2, 8), promised(1, 0, 8), promised(2, 201, 8), promised(math.MinInt, math.MaxInt, 8)} {
		wantNone(t, changed(busy(), func(s *api.Stable) { s.Votes = []api.Seen{v} }))
		wantNone(t, changed(busy(), func(s *api.Stable) { s.Votes = append(s.Votes, v) }))
		wantNone(t, changed(busy(), func(s *api.Stable) { s.Votes = append([]api.Seen{v}, s.Votes...) }))
	}
}

// TestP111AVoteIsBehindItsOwnGroupsLog has logs of which only one is long.
func TestP111AVoteIsBehindItsOwnGroupsLog(t *testing.T) {
	for long := range 4 {
		for group := range 4 {
			for _, slot := range []int{1, 9, 10, 11} {
				s := empty(4)
				s.Logs[long] = filled(10)
				s.Votes = []api.Seen{promised(group, slot, 8)}
				if wantAsWords(t, s) != (group != long || slot == 11) {
					t.Error(long, group, slot)
				}
			}
		}
	}
}

// TestP111VotesRise has all two of some votes behind each other, and some three.
func TestP111VotesRise(t *testing.T) {
	var l []api.Seen
	for group := range 3 {
		for _, slot := range []int{1, 2, 3, 199, 200} {
			l = append(l, promised(group, slot, 17), accepted(group, slot, 8, 8, "x"))
		}
	}
	may := 0
	for i, a := range l {
		for j, b := range l {
			s := api.Stable{Logs: make([][]string, 3), Votes: []api.Seen{a, b}}
			if wantAsWords(t, s) {
				may++
			} else {
				wantNone(t, s)
			}
			wantAsWords(t, changed(s, func(s *api.Stable) { s.Votes = append(s.Votes, l[(i+j)%len(l)]) }))
			wantAsWords(t, changed(s, func(s *api.Stable) { s.Votes = append(s.Votes, promised(2, 200, 8)) }))
		}
	}
	// Of fifteen places each two in one order, with two forms of each.
	if may != 15*14/2*4 {
		t.Error(may)
	}
	for i, v := range busy().Votes {
		wantNone(t, changed(busy(), func(s *api.Stable) { s.Votes = slices.Insert(s.Votes, i, v) }))
		wantNone(t, changed(busy(), func(s *api.Stable) { s.Votes = append(s.Votes, v) }))
		if i > 0 {
			wantNone(t, changed(busy(), func(s *api.Stable) { s.Votes[i], s.Votes[i-1] = s.Votes[i-1], v }))
		}
	}
	wantNone(t, changed(crowded(), func(s *api.Stable) { s.Votes = append(s.Votes, promised(3, 200, 8)) }))
}

// TestP111VotesThatMayNotBe puts each to some place, alone and among others.
func TestP111VotesThatMayNotBe(t *testing.T) {
	for _, v := range noVotes() {
		wantCheck(t, api.Stable{Logs: make([][]string, 1), Votes: []api.Seen{{Slot: 1, Vote: v}}}, api.ErrBad)
		for i := range busy().Votes {
			wantCheck(t, changed(busy(), func(s *api.Stable) { s.Votes[i].Vote = v }), api.ErrBad)
		}
	}
	for _, v := range []api.Vote{{}, {Promised: 7}, {Promised: 17, Value: "x"}, {Promised: 8, Ballot: 9}, {Promised: 17, Ballot: 8, Value: long(1025)}, {Promised: math.MinInt}, {Promised: math.MaxInt, Ballot: math.MaxInt}} {
		wantNone(t, changed(busy(), func(s *api.Stable) { s.Votes[0].Vote = v }))
		wantNone(t, changed(busy(), func(s *api.Stable) { s.Votes[9].Vote = v }))
	}
	for _, b := range ballots() {
		for _, by := range ballots() {
			wantAsWords(t, api.Stable{Logs: make([][]string, 1), Votes: []api.Seen{accepted(0, 1, b, by, "x")}})
		}
		for _, value := range values() {
			s := api.Stable{Logs: make([][]string, 1), Votes: []api.Seen{accepted(0, 1, b, 8, value), promised(0, 2, b)}}
			wantCheck(t, s, api.OK)
			wantImage(t, s)
		}
	}
}

// TestP111AllSmall goes through what is made of few logs and two votes, with what may be and what may not.
func TestP111AllSmall(t *testing.T) {
	votes := []api.Seen{}
	for _, v := range []api.Vote{{}, {Promised: 8}, {Promised: 9, Ballot: 8, Value: "x"}, {Promised: 8, Ballot: 9}, {Promised: 8, Value: "x"}} {
		for group := -1; group < 3; group++ {
			for slot := range 4 {
				votes = append(votes, api.Seen{Group: group, Slot: slot, Vote: v})
			}
		}
	}
	may := 0
	for groups := range 3 {
		for lengths := range 9 {
			s := empty(groups)
			for group := range groups {
				s.Logs[group] = filled([]int{lengths % 3, lengths / 3}[group])
			}
			for _, a := range votes {
				s.Votes = []api.Seen{a}
				wantAsWords(t, s)
				for _, b := range votes {
					s.Votes = []api.Seen{a, b}
					if wantAsWords(t, s) {
						may++
					}
				}
			}
		}
	}
	// Two votes of two forms each: of one group, thrice, behind logs of 0, 1 and 2 values, and of two groups.
	if may != 4*(3*(3+1)+15+2*10+3*6+2*3+1) {
		t.Error(may)
	}
}

// anyOnes may be, or not; no two of them are the same.
func anyOnes() []api.Stable {
	l := []api.Stable{{}, empty(1), empty(4), busy(), crowded(), decided()}
	changes := []func(*api.Stable){
		func(s *api.Stable) { s.Logs = append(s.Logs, nil, nil, nil, nil, nil, nil) },
		func(s *api.Stable) { s.Logs = append(s.Logs, filled(1), nil, nil, nil, nil, nil) },
		func(s *api.Stable) { s.Logs = append(s.Logs, filled(201)) },
		func(s *api.Stable) { s.Logs = append([][]string{{"b", long(1025)}}, s.Logs...) },
		func(s *api.Stable) { s.Votes = append(s.Votes, api.Seen{}) },
		func(s *api.Stable) { s.Votes = append(s.Votes, api.Seen{}, api.Seen{}) },
		func(s *api.Stable) { s.Votes = append(s.Votes, accepted(math.MinInt, math.MaxInt, -1, 9, long(1025))) },
		func(s *api.Stable) { s.Votes = append([]api.Seen{promised(9, 9, 9)}, s.Votes...) },
		func(s *api.Stable) { s.Votes = append(s.Votes, make([]api.Seen, 1001)...) },
	}
	for _, s := range l {
		for _, change := range changes {
			l = append(l, changed(s, change))
		}
	}
	return l
}

func TestP111SameOfAnyOnes(t *testing.T) {
	l := anyOnes()
	for i, a := range l {
		for j, b := range l {
			if got := stable.Same(a, b); got != (i == j) {
				t.Errorf("Same(%s, %s) = %t", show(a), show(b), got)
			}
		}
		if !stable.Same(a, plain(a)) || !stable.Same(plain(a), a) {
			t.Errorf("Same(%s, one in other memory) = false", show(a))
		}
	}
}

func TestP111SameOfListsWithoutElements(t *testing.T) {
	for _, c := range [][2]api.Stable{
		{{}, {Logs: [][]string{}, Votes: []api.Seen{}}},
		{{}, {Logs: make([][]string, 0, 5), Votes: make([]api.Seen, 0, 5)}},
		{empty(2), {Logs: [][]string{{}, {}}}},
		{empty(2), {Logs: [][]string{nil, make([]string, 0, 5)}, Votes: []api.Seen{}}},
	} {
		if !stable.Same(c[0], c[1]) || !stable.Same(c[1], c[0]) {
			t.Error("nil and empty lists are not the same", show(c[0]))
		}
	}
}

// TestP111SameLooksAtEachElement changes one field of one element of each list, at each place.
func TestP111SameLooksAtEachElement(t *testing.T) {
	a := api.Stable{Logs: [][]string{{"a", "b", "c"}, {"a", "b", "c"}, {"a", "b", "c"}}, Votes: make([]api.Seen, 3)}
	for i := range 3 {
		changes := []func(*api.Stable){
			func(s *api.Stable) { s.Logs = s.Logs[:i] }, func(s *api.Stable) { s.Votes = s.Votes[:i] },
			func(s *api.Stable) { s.Logs[i] = nil }, func(s *api.Stable) { s.Logs[i] = append(s.Logs[i], "") },
			func(s *api.Stable) { s.Votes[i].Group = 9 }, func(s *api.Stable) { s.Votes[i].Slot = 9 }, func(s *api.Stable) { s.Votes[i].Vote.Promised = 9 },
			func(s *api.Stable) { s.Votes[i].Vote.Ballot = 9 }, func(s *api.Stable) { s.Votes[i].Vote.Value = "9" },
		}
		for j := range 3 {
			changes = append(changes, func(s *api.Stable) { s.Logs[i][j] = "9" }, func(s *api.Stable) { s.Logs[i] = s.Logs[i][:j] })
		}
		for _, change := range changes {
			if b := changed(a, change); stable.Same(a, b) || stable.Same(b, a) {
				t.Errorf("Same(%s, %s) = true", show(a), show(b))
			}
		}
	}
}

func TestP111TwinOfAnyOnes(t *testing.T) {
	for _, s := range append(anyOnes(), samples()...) {
		want(t, "Twin of "+show(s), stable.Twin(s), api.OK, s, api.OK)
	}
}

// TestP112RecordsOfAllKindsAnywhere does records at all places near the logs' ends and the votes.
func TestP112RecordsOfAllKindsAnywhere(t *testing.T) {
	answers := map[api.Errno]int{}
	for _, s := range samples() {
		for group := range 4 {
			for _, slot := range []int{1, 2, 3, 4, 5, 6, 7, 8, 100, 197, 198, 199, 200} {
				for _, b := range []int{8, 9, 13, 16, 17, 19, 21, 24, 25, 26, 33, last - 1, last} {
					_, e := wantBehind(t, s, promise(group, slot, b))
					answers[e]++
					_, e = wantBehind(t, s, accept(group, slot, b, "x"))
					answers[e]++
				}
				_, e := wantBehind(t, s, decide(group, slot, "x"))
				answers[e]++
			}
		}
	}
	if answers[api.OK] < 1000 || answers[api.ErrOld] < 300 || answers[api.ErrBad] < 1000 || answers[api.ErrNone] < 1000 || len(answers) != 4 {
		t.Error(answers)
	}
}

// TestP112AVoteInAllForms does promises and acceptances to each form of a vote, by ballots that are older, the same and newer.
func TestP112AVoteInAllForms(t *testing.T) {
	for _, v := range []api.Vote{{}, {Promised: 17}, {Promised: 17, Ballot: 8, Value: "x"}, {Promised: 17, Ballot: 16}, {Promised: 17, Ballot: 17, Value: "x"}} {
		s := api.Stable{Logs: [][]string{{"a"}, {"b"}}, Votes: []api.Seen{accepted(0, 2, 21, 21, "other"), promised(1, 2, 29), {Group: 1, Slot: 3, Vote: v}, promised(1, 4, 26)}}
		if v == (api.Vote{}) {
			s.Votes = slices.Delete(s.Votes, 2, 3)
		}
		for _, b := range []int{8, 9, 13, 16, 17, 18, 21, 24, last} {
			if b < v.Promised {
				wantApplyError(t, s, promise(1, 3, b), api.ErrOld)
				wantApplyError(t, s, accept(1, 3, b, "y"), api.ErrOld)
				wantApplyError(t, s, accept(1, 3, b, v.Value), api.ErrOld)
				continue
			}
			wantVote(t, s, promise(1, 3, b), api.Vote{Promised: b, Ballot: v.Ballot, Value: v.Value})
			for _, value := range values() {
				wantVote(t, s, accept(1, 3, b, value), api.Vote{Promised: b, Ballot: b, Value: value})
			}
		}
	}
}

// wantVote asks that behind a record a vote stands in its place, all others as they did.
func wantVote(t *testing.T, s api.Stable, r api.Record, v api.Vote) {
	t.Helper()
	got, e := stable.Apply(s, r)
	wantAt(t, got, r.Group, r.Slot, v, api.OK)
	others := func(s api.Stable) api.Stable {
		return changed(s, func(s *api.Stable) {
			s.Votes = slices.DeleteFunc(s.Votes, func(v api.Seen) bool { return v.Group == r.Group && v.Slot == r.Slot })
		})
	}
	want(t, "the others behind "+showRecord(r), others(got), e, others(s), api.OK)
	wantBehind(t, s, r)
}

// TestP112VotesStandInOrder lets votes come to all places, in several orders.
func TestP112VotesStandInOrder(t *testing.T) {
	for _, step := range []int{1, 3, 7, 201, 397, 599, 799} {
		s, _ := stable.New(4)
		for i := range 800 {
			at := i * step % 800
			r := promise(at/200, at%200+1, 16+at%5)
			if i%3 == 0 {
				r = accept(at/200, at%200+1, 16+at%5, "v")
			}
			var e api.Errno
			if s, e = stable.Apply(s, r); e != api.OK || len(s.Votes) != i+1 || !mayBe(s) {
				t.Fatal(step, i, showRecord(r), e, show(s))
			}
		}
		for at := range 800 {
			if v, is := there(s, at/200, at%200+1); !is || v.Promised != 16+at%5 {
				t.Fatal(step, at, showVote(v), is)
			}
		}
	}
}

func TestP112NoSuchGroup(t *testing.T) {
	for groups := 1; groups <= 4; groups++ {
		for group := range 4 {
			for _, slot := range []int{1, 2, 200} {
				for _, r := range []api.Record{promise(group, slot, 8), accept(group, slot, last, "x"), decide(group, slot, "x")} {
					_, e := wantBehind(t, empty(groups), r)
					if (e == api.ErrNone) != (group >= groups) {
						t.Error(groups, showRecord(r), e)
					}
				}
			}
		}
	}
}

// TestP112SlotsOfALog has records at each slot beside a log of each length.
func TestP112SlotsOfALog(t *testing.T) {
	for _, length := range []int{0, 1, 2, 3, 99, 198, 199, 200} {
		for group := range 3 {
			s := empty(3)
			s.Logs[group] = filled(length)
			for slot := 1; slot <= 200; slot++ {
				for _, r := range []api.Record{promise(group, slot, 8), accept(group, slot, 8, "x"), decide(group, slot, "x")} {
					_, e := wantBehind(t, s, r)
					if (e == api.OK) != (slot == length+1 || slot > length && r.Kind != api.RecDecide) {
						t.Error(length, showRecord(r), e)
					}
				}
			}
		}
	}
}

func TestP112DecisionsOneBehindTheOther(t *testing.T) {
	s, _ := stable.New(2)
	for slot := 1; slot <= 200; slot++ {
		for _, r := range []api.Record{accept(1, slot, 17, "w"), promise(0, slot, 9), decide(1, slot, fmt.Sprint("v", slot)), decide(0, slot, long(1024))} {
			next, e := wantBehind(t, s, r)
			if e != api.OK {
				t.Fatal(showRecord(r), e)
			}
			s = next
		}
		wantApplyError(t, s, decide(1, slot, fmt.Sprint("v", slot)), api.ErrBad)
		wantApplyError(t, s, accept(1, slot, 17, "w"), api.ErrBad)
		wantApplyError(t, s, promise(0, slot, last), api.ErrBad)
	}
	if len(s.Votes) != 0 || len(s.Logs[0]) != 200 || len(s.Logs[1]) != 200 || s.Logs[1][0] != "v1" || s.Logs[1][199] != "v200" {
		t.Error(show(s))
	}
}

// TestP112ADecisionTakesItsVoteAlone has votes on the same slot of other groups, and on later ones.
func TestP112ADecisionTakesItsVoteAlone(t *testing.T) {
	for group := range 4 {
		s := crowded()
		for slot := 1; slot <= 200; slot++ {
			got, e := stable.Apply(s, decide(group, slot, values()[slot%10]))
			if e != api.OK || len(got.Votes) != 800-slot {
				t.Fatal(group, slot, e, show(got))
			}
			if _, is := there(got, group, slot); is {
				t.Fatal(group, slot, show(got))
			}
			wantBehind(t, s, decide(group, slot, values()[slot%10]))
			s = got
		}
	}
	s := api.Stable{Logs: make([][]string, 2), Votes: []api.Seen{promised(0, 2, 8), promised(1, 1, 8)}}
	wantApply(t, s, decide(0, 1, ""), api.Stable{Logs: [][]string{{""}, nil}, Votes: s.Votes}, api.OK)
	wantApply(t, s, decide(1, 1, "x"), api.Stable{Logs: [][]string{nil, {"x"}}, Votes: s.Votes[:1]}, api.OK)
}

func TestP112RecordsThatMayNotBe(t *testing.T) {
	for _, s := range samples() {
		for _, r := range noRecords() {
			wantApplyError(t, s, r, api.ErrBad)
		}
	}
}

// TestP112ValuesOfRecords: a value that is accepted or decided stands as it is.
func TestP112ValuesOfRecords(t *testing.T) {
	for _, value := range values() {
		wantApply(t, empty(1), accept(0, 1, 8, value), api.Stable{Logs: [][]string{nil}, Votes: []api.Seen{accepted(0, 1, 8, 8, value)}}, api.OK)
		wantApply(t, empty(1), decide(0, 1, value), api.Stable{Logs: [][]string{{value}}}, api.OK)
		wantBehind(t, busy(), accept(0, 5, 25, value))
		wantBehind(t, busy(), decide(0, 3, value))
	}
	for _, b := range ballots() {
		wantApply(t, empty(1), promise(0, 200, b), api.Stable{Logs: [][]string{nil}, Votes: []api.Seen{promised(0, 200, b)}}, api.OK)
		wantApply(t, empty(1), accept(0, 200, b, "x"), api.Stable{Logs: [][]string{nil}, Votes: []api.Seen{accepted(0, 200, b, b, "x")}}, api.OK)
	}
}

// TestP112OrderOfErrors has several things wrong at once.
func TestP112OrderOfErrors(t *testing.T) {
	s := api.Stable{Logs: [][]string{{"a"}, nil}, Votes: []api.Seen{promised(0, 2, 25)}}
	bad := changed(s, func(s *api.Stable) { s.Votes[0].Slot = 1 })
	for _, c := range []struct {
		s api.Stable
		r api.Record
		e api.Errno
	}{
		{bad, promise(2, 1, 8), api.ErrBad}, {bad, promise(0, 2, 8), api.ErrBad},
		{s, api.Record{Kind: 1, Group: 2, Slot: 1, Ballot: 7}, api.ErrBad}, {s, api.Record{Kind: 9, Group: 2, Slot: 1}, api.ErrBad}, {s, promise(2, 0, 8), api.ErrBad}, {s, promise(2, 201, 8), api.ErrBad}, {s, promise(4, 1, 8), api.ErrBad}, {s, promise(-1, 1, 8), api.ErrBad}, {s, decide(3, 1, long(1025)), api.ErrBad},
		{s, promise(2, 1, 8), api.ErrNone}, {s, accept(3, 1, 8, "x"), api.ErrNone}, {s, decide(2, 200, "x"), api.ErrNone}, {s, decide(2, 1, "x"), api.ErrNone},
		{s, promise(0, 1, 8), api.ErrBad}, {s, accept(0, 1, 8, "x"), api.ErrBad}, {s, decide(0, 1, "a"), api.ErrBad}, {s, decide(0, 3, "x"), api.ErrBad}, {s, decide(1, 2, "x"), api.ErrBad},
		{s, promise(0, 2, 24), api.ErrOld}, {s, accept(0, 2, 24, "x"), api.ErrOld},
	} {
		wantApplyError(t, c.s, c.r, c.e)
	}
}

func TestP112At(t *testing.T) {
	for _, s := range samples() {
		for group := range s.Logs {
			for slot := 1; slot <= 200; slot++ {
				v, _ := there(s, group, slot)
				wantAt(t, s, group, slot, v, api.OK)
			}
		}
	}
	for i, v := range busy().Votes {
		wantAt(t, busy(), v.Group, v.Slot, busy().Votes[i].Vote, api.OK)
	}
}

func TestP112AtOfNoGroupsAndNoSlots(t *testing.T) {
	for _, s := range samples() {
		groups, noSlots := append(noNumbers(), -1, 4, 5, 256), append(noNumbers(), -200, -1, 0, 201, 202, 256, 257)
		for group := len(s.Logs); group < 4; group++ {
			groups = append(groups, group)
		}
		for _, group := range groups {
			for _, slot := range append(noSlots, 1, 3, 200) {
				wantAt(t, s, group, slot, api.Vote{}, api.ErrNone)
			}
		}
		for group := range s.Logs {
			for _, slot := range noSlots {
				wantAt(t, s, group, slot, api.Vote{}, api.ErrArg)
			}
		}
	}
}

func TestP113ReplayOfNoText(t *testing.T) {
	for groups := 1; groups <= 4; groups++ {
		wantReplay(t, groups, nil, empty(groups), api.OK)
		wantReplay(t, groups, []string{}, empty(groups), api.OK)
	}
	for _, groups := range append(noNumbers(), -1, 0, 5) {
		for _, l := range [][]string{nil, {""}, {"\x01\x00\x01\x08"}, {"\x01\x02\x01\x08", "no record"}, make([]string, 65536), make([]string, 65537)} {
			wantReplayError(t, groups, l, api.ErrArg)
		}
	}
}

// noTexts are no records'.
func noTexts() []string {
	return []string{"", "\x01", "\x01\x00\x01", "\x01\x00\x01\x07", "\x01\x00\x01\x08\x00", "\x00\x00\x01\x08", "\x04\x00\x01\x08", "\x01\x04\x01\x08", "\x01\x00\x00\x08", "\x01\x00\xc9\x01\x08", "\x01\x00\x81\x00\x08",
		"\x02\x00\x01\x08", "\x02\x00\x01\x08\x02x", "\x03\x00\x01", "\x03\x00\x01\x01", "\x03\x00\x01\x08\x01xx", "\x03\x00\x01\x81\x08" + long(1025), "hear ye", long(1041), strings.Repeat("\xff", 1040), strings.Repeat("\x00", 1<<20)}
}

// TestP113ReplayOfTextsThatAreNoRecords puts each ahead of records, between and behind them; records that are refused stand ahead of it, or behind it.
func TestP113ReplayOfTextsThatAreNoRecords(t *testing.T) {
	good := textsOf([]api.Record{promise(1, 1, 8), accept(1, 1, 16, "x"), decide(1, 1, "x"), promise(1, 2, 24)})
	refused := []struct {
		r api.Record
		e api.Errno
	}{{promise(2, 1, 8), api.ErrNone}, {promise(1, 2, 16), api.ErrOld}, {accept(1, 2, 16, "x"), api.ErrOld}, {decide(2, 1, "x"), api.ErrNone}}
	for _, no := range noTexts() {
		for at := range len(good) + 1 {
			wantReplayError(t, 2, slices.Insert(slices.Clone(good), at, no), api.ErrBad)
		}
		for _, c := range refused {
			wantReplayError(t, 2, append(slices.Clone(good), textOf(c.r), no), c.e)
			wantReplayError(t, 2, append(slices.Clone(good), no, textOf(c.r)), api.ErrBad)
		}
	}
	for i, c := range refused {
		for j, d := range refused {
			want := c.e
			wantReplayError(t, 2, append(slices.Clone(good), textOf(c.r), textOf(d.r)), want)
			wantReplayError(t, 2, append(slices.Clone(good), textOf(c.r), good[0]), want)
			if i == j {
				wantReplayError(t, 2, append(slices.Clone(good), textOf(c.r)), want)
			}
		}
	}
	for _, r := range []api.Record{promise(1, 1, 33), decide(1, 1, "x"), decide(1, 3, "x")} {
		wantReplayError(t, 2, append(slices.Clone(good), textOf(r)), api.ErrBad)
		wantReplayError(t, 2, append(slices.Clone(good), textOf(r), textOf(promise(2, 1, 8))), api.ErrBad)
	}
}

func TestP113ReplayHangsOnTheOrder(t *testing.T) {
	wantReplay(t, 1, textsOf([]api.Record{accept(0, 1, 8, "a"), accept(0, 1, 16, "b")}), api.Stable{Logs: [][]string{nil}, Votes: []api.Seen{accepted(0, 1, 16, 16, "b")}}, api.OK)
	wantReplayError(t, 1, textsOf([]api.Record{accept(0, 1, 16, "b"), accept(0, 1, 8, "a")}), api.ErrOld)
	wantReplay(t, 1, textsOf([]api.Record{decide(0, 1, "a"), decide(0, 2, "b")}), api.Stable{Logs: [][]string{{"a", "b"}}}, api.OK)
	wantReplayError(t, 1, textsOf([]api.Record{decide(0, 2, "b"), decide(0, 1, "a")}), api.ErrBad)
	wantReplay(t, 1, textsOf([]api.Record{accept(0, 1, 8, "a"), accept(0, 1, 8, "b")}), api.Stable{Logs: [][]string{nil}, Votes: []api.Seen{accepted(0, 1, 8, 8, "b")}}, api.OK)
}

// TestP113ReplayOfManyTexts has as many as there may be, one more, and many more; what these say counts only where they are not too many.
func TestP113ReplayOfManyTexts(t *testing.T) {
	var l []string
	for round := 1; round <= 65536; round++ {
		l = append(l, textOf(promise(1, 200, 8*round+round%6)))
	}
	wantReplay(t, 2, l, api.Stable{Logs: make([][]string, 2), Votes: []api.Seen{promised(1, 200, 8*65536+65536%6)}}, api.OK)
	wantReplay(t, 2, l[:65535], api.Stable{Logs: make([][]string, 2), Votes: []api.Seen{promised(1, 200, 8*65535+65535%6)}}, api.OK)
	more := append(slices.Clone(l), l[65535])
	wantReplayError(t, 2, more, api.ErrMany)
	wantReplayError(t, 2, append(more, l...), api.ErrMany)
	wantReplayError(t, 2, make([]string, 65536), api.ErrBad)
	wantReplayError(t, 2, make([]string, 65537), api.ErrMany)
	wantReplayError(t, 1, l, api.ErrNone)
	wantReplayError(t, 1, more, api.ErrMany)
	last := slices.Clone(l)
	last[65535] = "no record"
	wantReplayError(t, 2, last, api.ErrBad)
	last[65535] = textOf(promise(1, 200, 8))
	wantReplayError(t, 2, last, api.ErrOld)
	wantReplayError(t, 2, append(last, ""), api.ErrMany)
}

// TestP113ImagesAsTheyStand has whole texts written out, so that the tests' own words are held against something too.
func TestP113ImagesAsTheyStand(t *testing.T) {
	for _, c := range []struct {
		s api.Stable
		l []string
	}{
		{empty(1), nil},
		{empty(4), nil},
		{api.Stable{Logs: [][]string{{"a", ""}, nil, {"hear ye"}}}, []string{"\x03\x00\x01\x01a", "\x03\x00\x02\x00", "\x03\x02\x01\x07hear ye"}},
		{api.Stable{Logs: [][]string{nil, {"a"}}, Votes: []api.Seen{promised(0, 1, 8), accepted(0, 128, 17, 17, ""), accepted(1, 2, 17, 8, "x"), promised(1, 200, last)}},
			[]string{"\x03\x01\x01\x01a", "\x01\x00\x01\x08", "\x02\x00\x80\x01\x11\x00", "\x02\x01\x02\x08\x01x", "\x01\x01\x02\x11", "\x01\x01\xc8\x01\x85\x80\x80\x04"}},
	} {
		if got, e := stable.Image(c.s); !slices.Equal(got, c.l) || e != api.OK {
			t.Errorf("Image(%s) = %q, %d; want %q", show(c.s), got, e, c.l)
		}
		wantReplay(t, len(c.s.Logs), c.l, c.s, api.OK)
	}
}

func TestP113Image(t *testing.T) {
	for _, s := range samples() {
		wantImage(t, s)
	}
	for _, b := range ballots() {
		for _, by := range ballots() {
			if by <= b {
				wantImage(t, api.Stable{Logs: make([][]string, 1), Votes: []api.Seen{promised(0, 1, b), accepted(0, 2, b, by, ""), accepted(0, 3, b, by, "x"), promised(0, 200, by)}})
			}
		}
	}
}
