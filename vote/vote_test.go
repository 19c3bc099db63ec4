package vote_test

import (
	"fmt"
	"math"
	"slices"
	"strconv"
	"strings"
	"testing"

	"towncrier/api"
	"towncrier/vote"
)

const (
	first = 8       // the ballot of the round 1 and the node 0
	last  = 8388613 // the one of the round MaxRound and the node 5
)

// want asks what a call answered: beside an error that is to be nothing. It and those below ask for t.Helper only where something is wrong: it takes longer than what is asked, and some tests ask of all ballots.
func want(t *testing.T, call string, v api.Vote, asked int, value string, got api.Vote, e api.Errno, wantVote api.Vote, wantError api.Errno) {
	if got != wantVote || e != wantError {
		t.Helper()
		t.Errorf("%s(%s, %d, %s) = %s, %d; want %s, %d", call, show(v), asked, brief(value), show(got), e, show(wantVote), wantError)
	}
}

func wantPrepare(t *testing.T, v api.Vote, asked int, wantVote api.Vote) {
	if got, e := vote.Prepare(v, asked); got != wantVote || e != api.OK {
		t.Helper()
		want(t, "Prepare", v, asked, "", got, e, wantVote, api.OK)
	}
}

func wantPrepareError(t *testing.T, v api.Vote, asked int, wantError api.Errno) {
	if got, e := vote.Prepare(v, asked); got != (api.Vote{}) || e != wantError {
		t.Helper()
		want(t, "Prepare", v, asked, "", got, e, api.Vote{}, wantError)
	}
}

func wantAccept(t *testing.T, v api.Vote, asked int, value string) {
	wantVote := api.Vote{Promised: asked, Ballot: asked, Value: value}
	if got, e := vote.Accept(v, asked, value); got != wantVote || e != api.OK {
		t.Helper()
		want(t, "Accept", v, asked, value, got, e, wantVote, api.OK)
	}
}

func wantAcceptError(t *testing.T, v api.Vote, asked int, value string, wantError api.Errno) {
	if got, e := vote.Accept(v, asked, value); got != (api.Vote{}) || e != wantError {
		t.Helper()
		want(t, "Accept", v, asked, value, got, e, api.Vote{}, wantError)
	}
}

func wantCheck(t *testing.T, v api.Vote, wantError api.Errno) {
	if e := vote.Check(v); e != wantError {
		t.Helper()
		t.Errorf("Check(%s) = %d; want %d", show(v), e, wantError)
	}
}

// wantVote asks all calls of a vote that may be: nobody who asks for the last ballot is refused by what was promised.
func wantVote(t *testing.T, v api.Vote) {
	t.Helper()
	wantCheck(t, v, api.OK)
	wantPrepare(t, v, last, api.Vote{Promised: last, Ballot: v.Ballot, Value: v.Value})
	wantAccept(t, v, last, "news")
}

// wantNoVote asks all calls of a vote that may not be, with whatever else may be or not.
func wantNoVote(t *testing.T, v api.Vote) {
	t.Helper()
	wantCheck(t, v, api.ErrBad)
	for _, asked := range append(noBallots(), v.Promised, v.Ballot, first, 21, last) {
		wantPrepareError(t, v, asked, api.ErrBad)
		wantAcceptError(t, v, asked, "", api.ErrBad)
		wantAcceptError(t, v, asked, "x", api.ErrBad)
		wantAcceptError(t, v, asked, long(1025), api.ErrBad)
	}
}

func show(v api.Vote) string {
	return strconv.Itoa(v.Promised) + " | " + strconv.Itoa(v.Ballot) + " " + brief(v.Value)
}

func brief(value string) string {
	if len(value) > 20 {
		return strconv.Quote(value[:20]) + ".. of " + strconv.Itoa(len(value)) + " bytes"
	}
	return strconv.Quote(value)
}

func long(bytes int) string { return strings.Repeat("v", bytes) }

// noBallots are numbers that are no ballots, below all, between them, and above all; 0 is one of them.
func noBallots() []int {
	return []int{
		math.MinInt, math.MinInt + 1, math.MinInt + 8, math.MinInt + 13, -1 << 40, -last, -21, -16, -9, -8, -7, -1,
		0, 1, 2, 3, 4, 5, 6, 7, 14, 15, 22, 23, 30, 31, 86, 87, last - 7, last - 6,
		last + 1, last + 2, last + 3, last + 8, 2 * last, 1 << 32, 1<<32 + 8, 1 << 40, 1<<40 + 13, math.MaxInt - 7, math.MaxInt - 1, math.MaxInt,
	}
}

// ballotsInOrder are the first ones, without one left out; a round and its next one, far up; and the last ones.
func ballotsInOrder() []int {
	l := []int{8, 9, 10, 11, 12, 13, 16, 17, 18, 19, 20, 21, 24, 25}
	l = append(l, 8000, 8001, 8002, 8003, 8004, 8005, 8008, 8009)
	return append(l, last-13, last-9, last-8, last-5, last-4, last-3, last-2, last-1, last)
}

// valuesThatMayBe are of none to 1,024 bytes; some have fewer runes than bytes, and some no runes at all.
func valuesThatMayBe() []string {
	return []string{"", "x", "y", "\x00", "\xff", "news of the town", "é", long(1023), long(1024),
		strings.Repeat("é", 512), strings.Repeat("\xff", 1024), strings.Repeat("\x00", 1024)}
}

// valuesTooLong are of more; the runes of some are few enough.
func valuesTooLong() []string {
	return []string{long(1025), long(1026), long(2048), long(4096), long(1 << 20),
		strings.Repeat("é", 513), strings.Repeat("é", 1024), strings.Repeat("\xff", 1025), strings.Repeat("\x00", 1025)}
}

// someVotes are all that may be by a few ballots and values.
func someVotes(ballots []int, values []string) (l []api.Vote) {
	l = append(l, api.Vote{})
	for i, promised := range ballots {
		l = append(l, api.Vote{Promised: promised})
		for _, accepted := range ballots[:i+1] {
			for _, value := range values {
				l = append(l, api.Vote{Promised: promised, Ballot: accepted, Value: value})
			}
		}
	}
	return l
}

func votesThatMayBe() []api.Vote { return someVotes(ballotsInOrder(), []string{"", "x", long(1024)}) }

func fewVotes() []api.Vote { return someVotes([]int{8, 13, 16, 21, last - 5, last}, []string{"", "x"}) }

// votesThatMayNotBe have something wrong in one field, or in several.
func votesThatMayNotBe() (l []api.Vote) {
	for _, no := range noBallots() {
		if no == 0 {
			continue
		}
		l = append(l, api.Vote{Promised: no}, api.Vote{Promised: no, Value: "x"}, api.Vote{Promised: no, Ballot: no}, api.Vote{Promised: no, Ballot: no, Value: "x"},
			api.Vote{Promised: no, Ballot: first}, api.Vote{Promised: no, Ballot: first, Value: "x"}, api.Vote{Promised: no, Ballot: last},
			api.Vote{Ballot: no}, api.Vote{Ballot: no, Value: "x"},
			api.Vote{Promised: first, Ballot: no}, api.Vote{Promised: last, Ballot: no}, api.Vote{Promised: last, Ballot: no, Value: "x"})
	}
	ballots := ballotsInOrder()
	for i, promised := range ballots {
		l = append(l, api.Vote{Ballot: promised}, api.Vote{Ballot: promised, Value: "x"}, api.Vote{Promised: promised, Value: "x"},
			api.Vote{Promised: promised, Value: "\x00"}, api.Vote{Promised: promised, Value: long(1024)}, api.Vote{Promised: promised, Ballot: promised, Value: long(1025)})
		for _, above := range ballots[i+1:] {
			l = append(l, api.Vote{Promised: promised, Ballot: above}, api.Vote{Promised: promised, Ballot: above, Value: "x"})
		}
	}
	for _, value := range valuesTooLong() {
		l = append(l, api.Vote{Value: value}, api.Vote{Promised: 21, Value: value},
			api.Vote{Promised: 21, Ballot: 21, Value: value}, api.Vote{Promised: 21, Ballot: 8, Value: value}, api.Vote{Promised: 8, Ballot: 21, Value: value})
	}
	return append(l, api.Vote{Value: "x"}, api.Vote{Value: "\x00"}, api.Vote{Value: long(1024)})
}

func TestChapterExamples(t *testing.T) {
	wantPrepare(t, api.Vote{}, 8, api.Vote{Promised: 8})
	wantAccept(t, api.Vote{Promised: 8}, 8, "x")
	that := api.Vote{Promised: 8, Ballot: 8, Value: "x"}
	wantPrepare(t, that, 17, api.Vote{Promised: 17, Ballot: 8, Value: "x"})
	that, _ = vote.Prepare(that, 17)
	wantAcceptError(t, that, 8, "y", api.ErrOld)
	wantPrepareError(t, that, 9, api.ErrOld)
	wantAccept(t, that, 17, "y")
	wantPrepareError(t, api.Vote{}, 7, api.ErrBallot)
	wantCheck(t, api.Vote{Promised: 8, Ballot: 9}, api.ErrBad)
}

func TestP71VotesThatMayBe(t *testing.T) {
	wantVote(t, api.Vote{})
	for _, v := range votesThatMayBe() {
		wantVote(t, v)
	}
}

func TestP71VotesThatMayNotBe(t *testing.T) {
	for _, v := range votesThatMayNotBe() {
		wantNoVote(t, v)
	}
}

func TestP71NothingPromised(t *testing.T) {
	for _, b := range ballotsInOrder() {
		wantNoVote(t, api.Vote{Ballot: b})
		wantNoVote(t, api.Vote{Ballot: b, Value: "x"})
	}
	wantNoVote(t, api.Vote{Value: "x"})
	wantNoVote(t, api.Vote{Value: "\x00"})
}

func TestP71NothingAccepted(t *testing.T) {
	for _, b := range ballotsInOrder() {
		wantVote(t, api.Vote{Promised: b})
		for _, value := range append(valuesThatMayBe()[1:], valuesTooLong()...) {
			wantCheck(t, api.Vote{Promised: b, Value: value}, api.ErrBad)
		}
	}
}

func TestP71AcceptedBesidePromised(t *testing.T) {
	ballots := ballotsInOrder()
	for i, b := range ballots {
		wantVote(t, api.Vote{Promised: b, Ballot: b})
		wantVote(t, api.Vote{Promised: b, Ballot: b, Value: "x"})
		if i > 0 {
			wantVote(t, api.Vote{Promised: b, Ballot: ballots[i-1], Value: "x"})
			wantNoVote(t, api.Vote{Promised: ballots[i-1], Ballot: b, Value: "x"})
		}
	}
	wantVote(t, api.Vote{Promised: last, Ballot: first})
	wantNoVote(t, api.Vote{Promised: first, Ballot: last})
}

func TestP71BytesOfAValue(t *testing.T) {
	for _, value := range valuesThatMayBe() {
		wantVote(t, api.Vote{Promised: 21, Ballot: 21, Value: value})
		wantVote(t, api.Vote{Promised: last, Ballot: first, Value: value})
	}
	for _, value := range valuesTooLong() {
		wantNoVote(t, api.Vote{Promised: 21, Ballot: 21, Value: value})
		wantNoVote(t, api.Vote{Promised: last, Ballot: first, Value: value})
	}
}

// TestP71AllSmallVotes goes through all numbers up to the fourth round's, for both, with a value and without.
func TestP71AllSmallVotes(t *testing.T) {
	isBallot := smallBallots()
	may := 0
	for promised := -9; promised < 34; promised++ {
		for accepted := -9; accepted < 34; accepted++ {
			for _, value := range []string{"", "x"} {
				ok := promised == 0 || isBallot[promised]
				if accepted == 0 {
					ok = ok && value == ""
				} else {
					ok = ok && isBallot[accepted] && accepted <= promised
				}
				e := api.ErrBad
				if ok {
					e = api.OK
					may++
				}
				wantCheck(t, api.Vote{Promised: promised, Ballot: accepted, Value: value}, e)
			}
		}
	}
	// Nothing at all; each of the ballots promised; and two for each that is accepted beside it.
	if ballots := 20; may != 1+ballots+2*(ballots*(ballots+1)/2) {
		t.Error(may)
	}
}

// smallBallots are those below 34.
func smallBallots() map[int]bool {
	m := map[int]bool{}
	for _, b := range []int{8, 9, 10, 11, 12, 13, 16, 17, 18, 19, 20, 21, 24, 25, 26, 27, 28, 29, 32, 33} {
		m[b] = true
	}
	return m
}

func TestP71WhatIsAskedIsABallot(t *testing.T) {
	for _, v := range fewVotes() {
		for _, no := range noBallots() {
			wantPrepareError(t, v, no, api.ErrBallot)
			for _, value := range []string{"", "x", v.Value, long(1024)} {
				wantAcceptError(t, v, no, value, api.ErrBallot)
			}
		}
	}
}

// That something newer was promised is looked for behind all that may not be: each of these is below it too, or has a value that is too long, or both.
func TestP71OrderOfErrors(t *testing.T) {
	tooLong := long(1025)
	for _, v := range votesThatMayNotBe() {
		wantPrepareError(t, v, 7, api.ErrBad)
		wantAcceptError(t, v, 7, tooLong, api.ErrBad)
		wantPrepareError(t, v, first, api.ErrBad)
		wantAcceptError(t, v, first, tooLong, api.ErrBad)
	}
	for _, v := range []api.Vote{{Promised: last}, {Promised: last, Ballot: 21, Value: "x"}, {Promised: 16}, {Promised: 16, Ballot: 16}, {}} {
		for _, no := range noBallots() {
			wantPrepareError(t, v, no, api.ErrBallot)
			wantAcceptError(t, v, no, tooLong, api.ErrBallot)
			wantAcceptError(t, v, no, "x", api.ErrBallot)
		}
	}
	for _, v := range []api.Vote{{Promised: last}, {Promised: last, Ballot: 21, Value: "x"}, {Promised: 16}, {Promised: 16, Ballot: 16}} {
		for _, value := range valuesTooLong() {
			wantAcceptError(t, v, 13, value, api.ErrText)
			wantAcceptError(t, v, last, value, api.ErrText)
		}
		wantAcceptError(t, v, 13, long(1024), api.ErrOld)
		wantPrepareError(t, v, 13, api.ErrOld)
	}
}

func TestP72PrepareBesideWhatWasPromised(t *testing.T) {
	ballots := ballotsInOrder()
	for _, v := range votesThatMayBe() {
		for _, b := range ballots {
			if b < v.Promised {
				wantPrepareError(t, v, b, api.ErrOld)
			} else {
				wantPrepare(t, v, b, api.Vote{Promised: b, Ballot: v.Ballot, Value: v.Value})
			}
		}
	}
}

func TestP72AcceptBesideWhatWasPromised(t *testing.T) {
	ballots := ballotsInOrder()
	for _, v := range votesThatMayBe() {
		for _, b := range ballots {
			for _, value := range []string{"", "x", "y", v.Value} {
				if b < v.Promised {
					wantAcceptError(t, v, b, value, api.ErrOld)
				} else {
					wantAccept(t, v, b, value)
				}
			}
		}
	}
}

// TestP72OneBallotBelowAndAbove asks for the neighbours of what was promised, whichever ballot, however far below it, was accepted.
func TestP72OneBallotBelowAndAbove(t *testing.T) {
	ballots := ballotsInOrder()
	for i := 1; i < len(ballots)-1; i++ {
		below, promised, above := ballots[i-1], ballots[i], ballots[i+1]
		for _, v := range []api.Vote{{Promised: promised}, {Promised: promised, Ballot: first, Value: "x"}, {Promised: promised, Ballot: below, Value: "x"}, {Promised: promised, Ballot: promised, Value: "x"}} {
			wantPrepareError(t, v, below, api.ErrOld)
			wantAcceptError(t, v, below, "x", api.ErrOld)
			wantPrepare(t, v, promised, v)
			wantAccept(t, v, promised, "y")
			wantPrepare(t, v, above, api.Vote{Promised: above, Ballot: v.Ballot, Value: v.Value})
			wantAccept(t, v, above, "y")
		}
	}
}

func TestP72BytesOfAnAcceptedValue(t *testing.T) {
	for _, v := range fewVotes() {
		for _, value := range valuesThatMayBe() {
			wantAccept(t, v, last, value)
			wantAccept(t, v, max(v.Promised, first), value)
		}
		for _, value := range valuesTooLong() {
			wantAcceptError(t, v, last, value, api.ErrText)
			wantAcceptError(t, v, max(v.Promised, first), value, api.ErrText)
			wantAcceptError(t, v, first, value, api.ErrText)
		}
	}
}

// TestP72AllSmallSteps goes through all votes of the first rounds, and all numbers that may be asked there or not.
func TestP72AllSmallSteps(t *testing.T) {
	isBallot := smallBallots()
	var ballots []int
	for b := range isBallot {
		ballots = append(ballots, b)
	}
	slices.Sort(ballots)
	for _, v := range someVotes(ballots, []string{"", "x"}) {
		for asked := -9; asked < 34; asked++ {
			switch {
			case !isBallot[asked]:
				wantPrepareError(t, v, asked, api.ErrBallot)
				wantAcceptError(t, v, asked, "y", api.ErrBallot)
			case asked < v.Promised:
				wantPrepareError(t, v, asked, api.ErrOld)
				wantAcceptError(t, v, asked, "y", api.ErrOld)
			default:
				wantPrepare(t, v, asked, api.Vote{Promised: asked, Ballot: v.Ballot, Value: v.Value})
				wantAccept(t, v, asked, "y")
			}
		}
	}
}

// TestP72AllBallotsUpwards promises one ballot behind the other and accepts each, from the first one to the last; the one ahead is refused then.
func TestP72AllBallotsUpwards(t *testing.T) {
	v, ahead := api.Vote{}, 0
	for round := 1; round <= api.MaxRound && !t.Failed(); round++ {
		for node := range 6 {
			b := 8*round + node
			wantPrepare(t, v, b, api.Vote{Promised: b, Ballot: ahead, Value: v.Value})
			wantAccept(t, v, b, "x")
			v = api.Vote{Promised: b, Ballot: b, Value: "x"}
			wantCheck(t, v, api.OK)
			if ahead > 0 {
				wantPrepareError(t, v, ahead, api.ErrOld)
				wantAcceptError(t, v, ahead, "x", api.ErrOld)
			}
			ahead = b
		}
	}
	if ahead != last {
		t.Error(ahead)
	}
}

// A call keeps nothing of the one ahead: what it answers hangs on its arguments alone.
func TestP72CallsKeepNothing(t *testing.T) {
	v := api.Vote{Promised: 16, Ballot: 9, Value: "x"}
	for range 3 {
		wantPrepare(t, v, last, api.Vote{Promised: last, Ballot: 9, Value: "x"})
		wantAccept(t, v, last, "y")
		wantAcceptError(t, v, 13, "y", api.ErrOld)
		wantPrepare(t, v, 16, v)
		wantAccept(t, api.Vote{}, first, "z")
		wantPrepare(t, api.Vote{}, first, api.Vote{Promised: first})
		wantCheck(t, v, api.OK)
	}
	if v != (api.Vote{Promised: 16, Ballot: 9, Value: "x"}) {
		t.Error(v)
	}
}

// step is one thing that is asked of a vote.
type step struct {
	accept bool
	ballot int
	value  string
}

func (s step) do(v api.Vote) (api.Vote, api.Errno) {
	if s.accept {
		return vote.Accept(v, s.ballot, s.value)
	}
	return vote.Prepare(v, s.ballot)
}

// someSteps are of rounds that follow on each other, and some that are refused whatever the vote.
func someSteps() (l []step) {
	for _, b := range []int{8, 9, 13, 16, 17, last - 1, last} {
		l = append(l, step{ballot: b}, step{true, b, ""}, step{true, b, "x"}, step{true, b, "y"})
	}
	return append(l, step{ballot: 0}, step{ballot: 14}, step{true, -8, "x"}, step{true, 22, "x"}, step{true, last + 1, "x"}, step{true, last, long(1025)})
}

func TestP73WhatIsAnsweredMayBe(t *testing.T) {
	answered := 0
	for _, v := range append(votesThatMayBe(), votesThatMayNotBe()...) {
		for _, s := range someSteps() {
			next, e := s.do(v)
			wantCheck(t, next, api.OK)
			if e == api.OK {
				answered++
			}
		}
	}
	if answered == 0 {
		t.Error("all was refused")
	}
}

func TestP73NothingFalls(t *testing.T) {
	for _, v := range votesThatMayBe() {
		for _, s := range someSteps() {
			if next, e := s.do(v); e == api.OK && (next.Promised < v.Promised || next.Ballot < v.Ballot) {
				t.Errorf("%s: %v: %s", show(v), s, show(next))
			}
		}
	}
}

// TestP73OnceMoreIsSoAgain asks again what was well once, and a third time: it changes nothing.
func TestP73OnceMoreIsSoAgain(t *testing.T) {
	for _, v := range votesThatMayBe() {
		for _, s := range someSteps() {
			next, e := s.do(v)
			if e != api.OK {
				continue
			}
			for range 2 {
				if again, e := s.do(next); again != next || e != api.OK {
					t.Fatalf("%s: %v: %s, then %s, %d", show(v), s, show(next), show(again), e)
				}
			}
		}
	}
}

// TestP73WhatWasPromisedIsSoAgain: also where its value was accepted in between.
func TestP73WhatWasPromisedIsSoAgain(t *testing.T) {
	for _, v := range votesThatMayBe() {
		b := max(v.Promised, first)
		promised, e := vote.Prepare(v, b)
		if e != api.OK {
			t.Fatal(show(v), e)
		}
		wantAccept(t, promised, b, "x")
		accepted := api.Vote{Promised: b, Ballot: b, Value: "x"}
		wantPrepare(t, accepted, b, accepted)
		wantAccept(t, accepted, b, "x")
	}
}

// keeps tells whether a vote holds what a promise of a ballot asks: it accepts nothing lesser, and accepted nothing lesser since then.
func keeps(t *testing.T, since, v api.Vote, promised int) {
	if v.Promised < promised {
		t.Fatalf("%s fell below %d", show(v), promised)
	}
	if v.Ballot < promised && (v.Ballot != since.Ballot || v.Value != since.Value) {
		t.Fatalf("%s was accepted behind a promise of %d; it was %s then", show(v), promised, show(since))
	}
	for _, lesser := range ballotsInOrder() {
		if lesser >= promised {
			return
		}
		wantAcceptError(t, v, lesser, "lesser", api.ErrOld)
		wantPrepareError(t, v, lesser, api.ErrOld)
	}
}

// TestP73AndW3NothingLesserBehindAPromise goes through all that three steps may do behind a promise.
func TestP73AndW3NothingLesserBehindAPromise(t *testing.T) {
	for _, v := range someVotes([]int{8, 13, 16}, []string{"x"}) {
		for _, promised := range []int{8, 9, 16, 17, last} {
			since, e := vote.Prepare(v, promised)
			if e == api.OK {
				goOn(t, since, since, promised, 3)
			}
		}
	}
}

// goOn does each step, and behind it the next ones; what is refused leaves the vote as it was.
func goOn(t *testing.T, since, v api.Vote, promised, more int) {
	keeps(t, since, v, promised)
	if more == 0 {
		return
	}
	for _, s := range someSteps() {
		if next, e := s.do(v); e == api.OK && next != v {
			goOn(t, since, next, promised, more-1)
		}
	}
}

// TestP73AndW3LongWay is a long row of asks by several nodes, whose ballots rise slowly and often come late.
func TestP73AndW3LongWay(t *testing.T) {
	v := api.Vote{}
	done := map[step]bool{}
	mix, refused := 1, 0
	for i := range 200000 {
		mix = (mix*1103515245 + 12345) % (1 << 31)
		s := step{accept: mix>>16%2 == 1, ballot: 8*(1+i/50+mix>>20%5) + mix>>8%6, value: strconv.Itoa(mix >> 24 % 3)}
		next, e := s.do(v)
		if (e == api.OK) != (s.ballot >= v.Promised) {
			t.Fatal(i, s, v, e)
		}
		if e != api.OK {
			refused++
			continue
		}
		if next.Promised != s.ballot || next.Ballot < v.Ballot || next.Ballot != v.Ballot && !s.accept {
			t.Fatal(i, s, v, next)
		}
		if s.accept {
			done[step{true, next.Ballot, next.Value}] = true
		}
		// What stands there as accepted was accepted once, by just that ballot.
		if next.Ballot > 0 && !done[step{true, next.Ballot, next.Value}] {
			t.Fatal(i, s, next)
		}
		v = next
	}
	if refused < 1000 || len(done) < 1000 {
		t.Error(refused, len(done))
	}
}

// TestW3ASlotOfThreeNodes lets each of two ballots be promised and told to three nodes in all orders: whatever a majority accepted, no later ballot of a majority that heard of it finds another one.
func TestW3ASlotOfThreeNodes(t *testing.T) {
	majorities := [][]int{{0, 1}, {0, 2}, {1, 2}, {0, 1, 2}}
	for _, told := range majorities {
		for _, asked := range majorities {
			for late := range 1 << 3 { // who hears of the later ballot ahead of what the first one tells
				var votes [3]api.Vote
				for node := range votes {
					votes[node], _ = vote.Prepare(votes[node], 8)
					if late>>node%2 == 1 && slices.Contains(asked, node) {
						votes[node], _ = vote.Prepare(votes[node], 17)
					}
				}
				accepted := 0
				for _, node := range told {
					if next, e := vote.Accept(votes[node], 8, "x"); e == api.OK {
						votes[node] = next
						accepted++
					}
				}
				found := api.Vote{}
				for _, node := range asked {
					next, e := vote.Prepare(votes[node], 17)
					if e != api.OK {
						t.Fatal(told, asked, late, node, e)
					}
					if next.Ballot > found.Ballot {
						found = next
					}
				}
				if accepted >= 2 && found.Value != "x" {
					t.Error(told, asked, late, votes)
				}
			}
		}
	}
}

func ExampleAccept() {
	v, _ := vote.Prepare(api.Vote{}, 17)
	_, e := vote.Accept(v, 8, "late")
	v, _ = vote.Accept(v, 17, "news")
	fmt.Println(e == api.ErrOld, v.Promised, v.Ballot, v.Value)
	// Output: true 17 17 news
}
