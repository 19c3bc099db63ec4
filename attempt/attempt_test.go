package attempt_test

import (
	"fmt"
	"math"
	"reflect"
	"slices"
	"strconv"
	"strings"
	"testing"

	"towncrier/api"
	"towncrier/attempt"
)

const (
	first = 8       // the ballot of the round 1 and the node 0
	last  = 8388613 // the one of the round MaxRound and the node 5
)

// same holds attempts against each other without asking the package; a list without elements may be nil or not.
func same(a, b api.Attempt) bool { return reflect.DeepEqual(plain(a), plain(b)) }

func plain(a api.Attempt) api.Attempt {
	a.Members = append([]int{}, a.Members...)
	a.Promises = append([]api.Promise{}, a.Promises...)
	a.Accepted = append([]int{}, a.Accepted...)
	return a
}

// want asks what a call answered: beside an error that is to be nothing.
func want(t *testing.T, call string, got api.Attempt, e api.Errno, wantAttempt api.Attempt, wantError api.Errno) {
	if e != wantError || !same(got, wantAttempt) {
		t.Helper()
		t.Errorf("%s = %s, %d; want %s, %d", call, show(got), e, show(wantAttempt), wantError)
	}
}

func wantBegin(t *testing.T, members []int, ballot int, wish string, wantAttempt api.Attempt, wantError api.Errno) {
	if got, e := attempt.Begin(members, ballot, wish); e != wantError || !same(got, wantAttempt) {
		t.Helper()
		want(t, fmt.Sprint("Begin(", members, ", ", ballot, ", ", brief(wish), ")"), got, e, wantAttempt, wantError)
	}
}

func wantBeginError(t *testing.T, members []int, ballot int, wish string, wantError api.Errno) {
	t.Helper()
	wantBegin(t, members, ballot, wish, api.Attempt{}, wantError)
}

func wantPromised(t *testing.T, a api.Attempt, ballot int, p api.Promise, wantAttempt api.Attempt, wantError api.Errno) {
	if got, e := attempt.Promised(a, ballot, p); e != wantError || !same(got, wantAttempt) {
		t.Helper()
		want(t, fmt.Sprint("Promised(", show(a), ", ", ballot, ", ", showPromise(p), ")"), got, e, wantAttempt, wantError)
	}
}

func wantPromisedError(t *testing.T, a api.Attempt, ballot int, p api.Promise, wantError api.Errno) {
	t.Helper()
	wantPromised(t, a, ballot, p, api.Attempt{}, wantError)
}

func wantAccepted(t *testing.T, a api.Attempt, ballot, node int, wantAttempt api.Attempt, wantError api.Errno) {
	if got, e := attempt.Accepted(a, ballot, node); e != wantError || !same(got, wantAttempt) {
		t.Helper()
		want(t, fmt.Sprint("Accepted(", show(a), ", ", ballot, ", ", node, ")"), got, e, wantAttempt, wantError)
	}
}

func wantAcceptedError(t *testing.T, a api.Attempt, ballot, node int, wantError api.Errno) {
	t.Helper()
	wantAccepted(t, a, ballot, node, api.Attempt{}, wantError)
}

func wantCheck(t *testing.T, a api.Attempt, wantError api.Errno) {
	if e := attempt.Check(a); e != wantError {
		t.Helper()
		t.Errorf("Check(%s) = %d; want %d", show(a), e, wantError)
	}
}

// wantNone asks all calls of an attempt that may not be, with whatever else may be or not.
func wantNone(t *testing.T, a api.Attempt) {
	t.Helper()
	wantCheck(t, a, api.ErrBad)
	for _, ballot := range []int{a.Ballot, 17, 7, math.MinInt} {
		for _, node := range []int{0, 5, -1, math.MaxInt} {
			wantPromisedError(t, a, ballot, api.Promise{Node: node}, api.ErrBad)
			wantPromisedError(t, a, ballot, api.Promise{Node: node, Value: "x"}, api.ErrBad)
			wantAcceptedError(t, a, ballot, node, api.ErrBad)
		}
	}
}

func show(a api.Attempt) string {
	s := fmt.Sprint("{", a.Phase, " by ", a.Ballot, " of ", a.Members, " ", brief(a.Wish), " ", brief(a.Value), " promised")
	for _, p := range a.Promises {
		s += " " + showPromise(p)
	}
	return s + fmt.Sprint(" accepted ", a.Accepted, "}")
}

func showPromise(p api.Promise) string { return fmt.Sprint(p.Node, ":", p.Ballot, brief(p.Value)) }

func brief(value string) string {
	if len(value) > 20 {
		return strconv.Quote(value[:20]) + ".. of " + strconv.Itoa(len(value)) + " bytes"
	}
	return strconv.Quote(value)
}

func long(bytes int) string { return strings.Repeat("v", bytes) }

// p is a promise, and none are promises of nodes that had accepted nothing: they stand in many places.
func p(node, ballot int, value string) api.Promise {
	return api.Promise{Node: node, Ballot: ballot, Value: value}
}

func none(nodes ...int) (l []api.Promise) {
	for _, n := range nodes {
		l = append(l, p(n, 0, ""))
	}
	return l
}

// asks, tells and chosen are attempts by 17 of the members 0, 1 and 2, of which node 1 had accepted x by 8.
func asks() api.Attempt {
	return api.Attempt{Phase: api.PhaseAsk, Ballot: 17, Members: []int{0, 1, 2}, Wish: "w", Promises: []api.Promise{p(1, 8, "x")}}
}

func tells() api.Attempt {
	return api.Attempt{Phase: api.PhaseTell, Ballot: 17, Members: []int{0, 1, 2}, Wish: "w", Value: "x", Promises: []api.Promise{p(0, 0, ""), p(1, 8, "x")}, Accepted: []int{2}}
}

func chosen() api.Attempt {
	a := tells()
	a.Phase, a.Accepted = api.PhaseChosen, []int{0, 2}
	return a
}

// changed is an attempt in memory of its own behind a change.
func changed(a api.Attempt, change func(*api.Attempt)) api.Attempt {
	a = plain(a)
	change(&a)
	return a
}

// noBallots are numbers that are no ballots, below all, between them, and above all; 0 is one of them.
func noBallots() []int {
	return []int{
		math.MinInt, math.MinInt + 1, math.MinInt + 8, -1 << 40, -last, -17, -16, -9, -8, -7, -1,
		0, 1, 5, 6, 7, 14, 15, 22, 23, 86, 87, last - 7, last - 6,
		last + 1, last + 2, last + 3, last + 8, 2 * last, 1 << 32, 1<<32 + 8, 1 << 40, math.MaxInt - 7, math.MaxInt - 1, math.MaxInt,
	}
}

func someBallots() []int { return []int{8, 9, 13, 16, 17, 21, 24, 8000, last - 8, last - 1, last} }

// strangers are no nodes of any members.
func strangers() []int {
	return []int{math.MinInt, math.MinInt + 1, -1 << 32, -6, -1, 6, 7, 8, 13, 64, 1 << 32, 1<<32 + 1, math.MaxInt - 1, math.MaxInt}
}

// allMembers are all members that may be: of one node to six.
func allMembers() (l [][]int) {
	for set := 1; set < 64; set++ {
		l = append(l, ofSet(set))
	}
	return l
}

func ofSet(set int) (l []int) {
	for node := range 6 {
		if set>>node%2 == 1 {
			l = append(l, node)
		}
	}
	return l
}

func wrongMembers() [][]int {
	l := [][]int{nil, {}, {0, 0}, {1, 0}, {0, 2, 1}, {0, 1, 2, 3, 4, 4}, {5, 4, 3, 2, 1, 0}}
	for _, n := range strangers() {
		l = append(l, []int{n}, []int{0, n}, []int{n, 0}, []int{0, 1, n, 2})
	}
	return l
}

func tooManyMembers() [][]int {
	return [][]int{{0, 1, 2, 3, 4, 5, 6}, {0, 1, 2, 3, 4, 5, 5}, make([]int, 7), {-1, 0, 1, 2, 3, 4, 5}, make([]int, 1001), make([]int, 1<<20)}
}

// valuesThatMayBe are of none to 1,024 bytes; some have fewer runes than bytes, and some no runes at all.
func valuesThatMayBe() []string {
	return []string{"", "x", "\x00", "\xff", "news of the town", long(1023), long(1024), strings.Repeat("é", 512), strings.Repeat("\xff", 1024)}
}

// valuesTooLong are of more; the runes of some are few enough.
func valuesTooLong() []string {
	return []string{long(1025), long(1026), long(4096), long(1 << 20), strings.Repeat("é", 513), strings.Repeat("\xff", 1025), strings.Repeat("\x00", 1025)}
}

func isBallot(b int) bool { return b >= first && b <= last && b%8 < 6 }

// mayPromise is the chapter's word of it.
func mayPromise(p api.Promise, beside int) bool {
	if p.Ballot == 0 {
		return p.Value == ""
	}
	return isBallot(p.Ballot) && p.Ballot < beside && len(p.Value) <= 1024
}

// bestOf is the chapter's word of it: it goes from the last one back, so that of several the first one stays.
func bestOf(l []api.Promise, wish string) string {
	found := -1
	for i := len(l) - 1; i >= 0; i-- {
		if l[i].Ballot > 0 && (found < 0 || l[i].Ballot >= l[found].Ballot) {
			found = i
		}
	}
	if found < 0 {
		return wish
	}
	return l[found].Value
}

func risingOf(members, nodes []int) bool {
	for i, n := range nodes {
		if !slices.Contains(members, n) || i > 0 && n <= nodes[i-1] {
			return false
		}
	}
	return true
}

func nodesOf(l []api.Promise) (nodes []int) {
	for _, p := range l {
		nodes = append(nodes, p.Node)
	}
	return nodes
}

// mayBe is the chapter's word of an attempt, phase by phase.
func mayBe(a api.Attempt) bool {
	if a.Phase == 0 {
		return a.Ballot == 0 && len(a.Members) == 0 && a.Wish == "" && a.Value == "" && len(a.Promises) == 0 && len(a.Accepted) == 0
	}
	all := []int{0, 1, 2, 3, 4, 5}
	if !isBallot(a.Ballot) || len(a.Members) == 0 || !risingOf(all, a.Members) || len(a.Wish) > 1024 {
		return false
	}
	for _, p := range a.Promises {
		if !mayPromise(p, a.Ballot) {
			return false
		}
	}
	if !risingOf(a.Members, nodesOf(a.Promises)) || !risingOf(a.Members, a.Accepted) {
		return false
	}
	promised, accepted := 2*len(a.Promises) > len(a.Members), 2*len(a.Accepted) > len(a.Members)
	switch a.Phase {
	case 1:
		return !promised && a.Value == "" && len(a.Accepted) == 0
	case 2:
		return promised && a.Value == bestOf(a.Promises, a.Wish) && !accepted
	case 3:
		return promised && a.Value == bestOf(a.Promises, a.Wish) && accepted
	}
	return false
}

func TestChapterExamples(t *testing.T) {
	a, _ := attempt.Begin([]int{0, 1, 2}, 17, "w")
	half := api.Attempt{Phase: api.PhaseAsk, Ballot: 17, Members: []int{0, 1, 2}, Wish: "w", Promises: none(0)}
	wantPromised(t, a, 17, p(0, 0, ""), half, api.OK)
	that := api.Attempt{Phase: api.PhaseTell, Ballot: 17, Members: []int{0, 1, 2}, Wish: "w", Value: "x", Promises: []api.Promise{p(0, 0, ""), p(2, 8, "x")}}
	wantPromised(t, half, 17, p(2, 8, "x"), that, api.OK)
	one := changed(that, func(a *api.Attempt) { a.Accepted = []int{1} })
	wantAccepted(t, that, 17, 1, one, api.OK)
	wantAccepted(t, one, 17, 2, changed(one, func(a *api.Attempt) { a.Phase, a.Accepted = api.PhaseChosen, []int{1, 2} }), api.OK)
	wantPromisedError(t, a, 16, p(0, 0, ""), api.ErrNone)
	wantPromisedError(t, a, 17, p(5, 0, ""), api.ErrNone)
	wantAcceptedError(t, a, 17, 0, api.ErrNone)
	wantPromisedError(t, a, 17, p(0, 17, ""), api.ErrBad)
	wantPromisedError(t, a, 17, p(0, 17, "x"), api.ErrBad)
	wantBeginError(t, []int{0, 1, 2}, 7, "w", api.ErrBallot)
}

func TestP81NothingBegun(t *testing.T) {
	wantCheck(t, api.Attempt{}, api.OK)
	wantCheck(t, api.Attempt{Members: []int{}, Promises: []api.Promise{}, Accepted: []int{}}, api.OK)
	for _, a := range []api.Attempt{
		{Ballot: 8}, {Ballot: 7}, {Ballot: -1}, {Ballot: math.MinInt}, {Members: []int{0}}, {Members: []int{-1}}, {Members: []int{0, 1, 2}},
		{Wish: "w"}, {Wish: "\x00"}, {Wish: long(1025)}, {Value: "x"}, {Value: "\x00"},
		{Promises: none(0)}, {Promises: []api.Promise{{}, {}}}, {Accepted: []int{0}}, {Accepted: []int{3}}, {Accepted: []int{-1}},
		{Ballot: 17, Members: []int{0, 1, 2}}, {Ballot: 17, Members: []int{0, 1, 2}, Wish: "w"},
	} {
		wantNone(t, a)
	}
	for _, a := range []api.Attempt{asks(), tells(), chosen()} {
		wantNone(t, changed(a, func(a *api.Attempt) { a.Phase = api.PhaseNone }))
	}
}

// TestP81Phases gives each phase that there may be in a number to attempts that have come as far as they have.
func TestP81Phases(t *testing.T) {
	begun, _ := attempt.Begin([]int{0, 1, 2}, 17, "w")
	for _, a := range []api.Attempt{{}, begun, asks(), tells(), chosen()} {
		for phase := range 256 {
			other := changed(a, func(a *api.Attempt) { a.Phase = uint8(phase) })
			if uint8(phase) == a.Phase {
				wantCheck(t, other, api.OK)
			} else {
				wantNone(t, other)
			}
		}
	}
}

// TestP81SomeOfAllMembers lets all sets of all members promise, and accept.
func TestP81SomeOfAllMembers(t *testing.T) {
	for _, members := range allMembers() {
		for promised := range 64 {
			for accepted := range 64 {
				for phase := range uint8(4) {
					a := api.Attempt{Phase: phase, Ballot: 17, Members: members, Wish: "w", Value: "w", Promises: none(ofSet(promised)...), Accepted: ofSet(accepted)}
					if phase < 2 {
						a.Value = ""
					}
					e := api.ErrBad
					if mayBe(a) {
						e = api.OK
					}
					wantCheck(t, a, e)
				}
			}
		}
	}
}

func TestP81Members(t *testing.T) {
	for _, members := range append(wrongMembers(), tooManyMembers()...) {
		for _, a := range []api.Attempt{{Phase: api.PhaseAsk, Ballot: 17}, asks(), tells(), chosen()} {
			wantNone(t, changed(a, func(a *api.Attempt) { a.Members = members }))
		}
		alone := members[:min(1, len(members))]
		wantNone(t, api.Attempt{Phase: api.PhaseTell, Ballot: 17, Members: members, Promises: none(members...)})
		wantNone(t, api.Attempt{Phase: api.PhaseChosen, Ballot: 17, Members: members, Promises: none(members...), Accepted: members})
		wantNone(t, api.Attempt{Phase: api.PhaseAsk, Ballot: 17, Members: members, Accepted: alone})
	}
}

func TestP81Ballots(t *testing.T) {
	for _, ballot := range noBallots() {
		wantNone(t, api.Attempt{Phase: api.PhaseAsk, Ballot: ballot, Members: []int{0, 1, 2}})
		wantNone(t, api.Attempt{Phase: api.PhaseTell, Ballot: ballot, Members: []int{4}, Promises: none(4)})
		for _, a := range []api.Attempt{asks(), tells(), chosen()} {
			wantNone(t, changed(a, func(a *api.Attempt) { a.Ballot = ballot }))
		}
	}
	for _, ballot := range someBallots() {
		wantCheck(t, api.Attempt{Phase: api.PhaseAsk, Ballot: ballot, Members: []int{0, 1, 2}}, api.OK)
		wantCheck(t, api.Attempt{Phase: api.PhaseTell, Ballot: ballot, Members: []int{4}, Promises: none(4)}, api.OK)
	}
}

func TestP81Wishes(t *testing.T) {
	for _, wish := range valuesThatMayBe() {
		for _, a := range []api.Attempt{asks(), tells(), chosen(), {Phase: api.PhaseTell, Ballot: 8, Members: []int{4}, Value: wish, Promises: none(4)}} {
			wantCheck(t, changed(a, func(a *api.Attempt) { a.Wish = wish }), api.OK)
		}
	}
	for _, wish := range valuesTooLong() {
		for _, a := range []api.Attempt{asks(), tells(), chosen(), {Phase: api.PhaseTell, Ballot: 8, Members: []int{4}, Value: wish, Promises: none(4)}} {
			wantNone(t, changed(a, func(a *api.Attempt) { a.Wish = wish }))
		}
	}
}

// TestP81APromiseBesideABallot asks with each ballot beside each other number: in each phase, and in Promised.
func TestP81APromiseBesideABallot(t *testing.T) {
	for _, ballot := range someBallots() {
		for _, prior := range slices.Concat(someBallots(), noBallots(), []int{ballot - 8, ballot - 1, ballot + 1, ballot + 8}) {
			for _, value := range []string{"", "x", "\x00", long(1024), long(1025), strings.Repeat("é", 512), strings.Repeat("é", 513)} {
				wantPromiseBeside(t, ballot, p(3, prior, value))
			}
		}
	}
}

func wantPromiseBeside(t *testing.T, ballot int, other api.Promise) {
	t.Helper()
	ok := mayPromise(other, ballot)
	ask := api.Attempt{Phase: api.PhaseAsk, Ballot: ballot, Members: []int{0, 3, 4, 5}, Wish: "w", Promises: []api.Promise{other}}
	tell := api.Attempt{Phase: api.PhaseTell, Ballot: ballot, Members: []int{3}, Wish: "w", Value: bestOf([]api.Promise{other}, "w"), Promises: []api.Promise{other}}
	done := changed(tell, func(a *api.Attempt) { a.Phase, a.Accepted = api.PhaseChosen, []int{3} })
	for _, a := range []api.Attempt{ask, tell, done} {
		if ok {
			wantCheck(t, a, api.OK)
		} else {
			wantCheck(t, a, api.ErrBad)
		}
	}
	begun := changed(ask, func(a *api.Attempt) { a.Promises = nil })
	if ok {
		wantPromised(t, begun, ballot, other, ask, api.OK)
	} else {
		wantPromisedError(t, begun, ballot, other, api.ErrBad)
	}
}

// TestP81WhosePromises has lists that don't rise, or have one in them that is no member's, at each place.
func TestP81WhosePromises(t *testing.T) {
	members := []int{0, 1, 3, 4, 5}
	wrong := [][]int{{2}, {0, 0}, {1, 0}, {5, 4}, {0, 2}, {2, 3}, {0, 1, 1}, {1, 1, 3}, {0, 3, 1}, {3, 0, 1}, {0, 1, 2}, {0, 2, 3}, {2, 3, 4}, {0, 1, 3, 4, 5, 5}, make([]int, 1001), make([]int, 1<<16)}
	for _, n := range strangers() {
		wrong = append(wrong, []int{n}, []int{0, n}, []int{n, 0}, []int{0, 1, n}, []int{n, 0, 1}, []int{0, n, 1})
	}
	for _, nodes := range wrong {
		wantNone(t, api.Attempt{Phase: api.PhaseAsk, Ballot: 17, Members: members, Wish: "w", Promises: none(nodes...)})
		wantNone(t, api.Attempt{Phase: api.PhaseTell, Ballot: 17, Members: members, Wish: "w", Value: "w", Promises: none(nodes...)})
		wantNone(t, api.Attempt{Phase: api.PhaseTell, Ballot: 17, Members: members, Wish: "w", Value: "w", Promises: none(0, 1, 3), Accepted: nodes})
		wantNone(t, api.Attempt{Phase: api.PhaseChosen, Ballot: 17, Members: members, Wish: "w", Value: "w", Promises: none(nodes...), Accepted: []int{0, 1, 3}})
		wantNone(t, api.Attempt{Phase: api.PhaseChosen, Ballot: 17, Members: members, Wish: "w", Value: "w", Promises: none(0, 1, 3), Accepted: nodes})
	}
}

func TestP81Values(t *testing.T) {
	begun, _ := attempt.Begin([]int{0, 1, 2}, 17, "w")
	for _, value := range []string{"w", "x", "\x00", long(1024), long(1025)} {
		for _, a := range []api.Attempt{begun, asks()} {
			wantNone(t, changed(a, func(a *api.Attempt) { a.Value = value }))
		}
	}
	for _, value := range []string{"", "w", "X", "xx", "x\x00", long(1024), long(1025)} {
		for _, a := range []api.Attempt{tells(), chosen()} {
			wantNone(t, changed(a, func(a *api.Attempt) { a.Value = value }))
		}
	}
	two := changed(tells(), func(a *api.Attempt) { a.Promises = []api.Promise{p(0, 8, "x"), p(1, 8, "y"), p(2, 0, "")} })
	wantCheck(t, two, api.OK)
	wantNone(t, changed(two, func(a *api.Attempt) { a.Value = "y" }))
	wantCheck(t, changed(two, func(a *api.Attempt) { a.Value, a.Promises[1].Ballot = "y", 9 }), api.OK)
	wantNone(t, changed(two, func(a *api.Attempt) { a.Promises[1].Ballot = 9 }))
	wantNone(t, changed(two, func(a *api.Attempt) { a.Value = "w" }))
}

func TestP81MajoritiesAndPhases(t *testing.T) {
	wantNone(t, changed(asks(), func(a *api.Attempt) { a.Promises = none(0, 2) }))
	wantNone(t, changed(asks(), func(a *api.Attempt) { a.Accepted = []int{1} }))
	wantNone(t, changed(tells(), func(a *api.Attempt) { a.Promises = a.Promises[1:] }))
	wantNone(t, changed(tells(), func(a *api.Attempt) { a.Accepted = []int{0, 2} }))
	wantNone(t, changed(chosen(), func(a *api.Attempt) { a.Accepted = a.Accepted[1:] }))
	wantNone(t, changed(chosen(), func(a *api.Attempt) { a.Accepted = nil }))
	wantNone(t, changed(chosen(), func(a *api.Attempt) { a.Promises = a.Promises[1:] }))
	wantCheck(t, changed(tells(), func(a *api.Attempt) { a.Accepted = nil }), api.OK)
	wantCheck(t, changed(tells(), func(a *api.Attempt) { a.Promises = append(a.Promises, p(2, 0, "")) }), api.OK)
	wantCheck(t, changed(chosen(), func(a *api.Attempt) { a.Accepted = []int{0, 1, 2} }), api.OK)
}

// TestP81AllSmallAttempts goes through all there are of a few things, those that may not be among them.
func TestP81AllSmallAttempts(t *testing.T) {
	promises := [][]api.Promise{nil}
	some := []api.Promise{p(0, 0, ""), p(0, 8, "x"), p(0, 0, "x"), p(1, 0, ""), p(1, 8, "w"), p(1, 9, ""), p(2, 8, "x"), p(2, 17, "x"), p(-1, 0, "")}
	for _, a := range some {
		promises = append(promises, []api.Promise{a})
		for _, b := range some {
			promises = append(promises, []api.Promise{a, b})
		}
	}
	accepted := [][]int{nil, {0}, {1}, {2}, {0, 1}, {1, 2}, {0, 0}, {1, 0}, {0, 1, 2}, {3}}
	may := map[uint8]int{}
	for _, phase := range []uint8{0, 1, 2, 3, 4, 255} {
		for _, ballot := range []int{0, 7, 9, 17} {
			for _, members := range [][]int{nil, {0}, {1}, {0, 1}, {0, 1, 2}, {1, 0}} {
				for _, texts := range [][2]string{{"", ""}, {"w", ""}, {"w", "w"}, {"w", "x"}, {"", "x"}} {
					for _, l := range promises {
						for _, nodes := range accepted {
							a := api.Attempt{Phase: phase, Ballot: ballot, Members: members, Wish: texts[0], Value: texts[1], Promises: l, Accepted: nodes}
							e := api.ErrBad
							if mayBe(a) {
								e = api.OK
								may[phase]++
							}
							wantCheck(t, a, e)
						}
					}
				}
			}
		}
	}
	if may[0] != 1 || may[1] < 10 || may[2] < 10 || may[3] < 10 || may[4] > 0 || may[255] > 0 {
		t.Error(may)
	}
}

func wantBest(t *testing.T, l []api.Promise, wish, want string) {
	if s := attempt.Best(l, wish); s != want {
		t.Helper()
		t.Errorf("Best(%v, %s) = %s; want %s", l, brief(wish), brief(s), brief(want))
	}
}

func TestP81BestOfPromises(t *testing.T) {
	wantBest(t, nil, "w", "w")
	wantBest(t, []api.Promise{}, "", "")
	wantBest(t, none(0, 1, 2), "w", "w")
	wantBest(t, []api.Promise{p(0, 8, "")}, "w", "")
	wantBest(t, []api.Promise{p(0, 8, "x"), p(1, 9, "")}, "w", "")
	wantBest(t, []api.Promise{p(0, 9, ""), p(1, 8, "x")}, "w", "")
	wantBest(t, []api.Promise{p(0, 0, ""), p(1, 16, "y"), p(2, 9, "z")}, "w", "y")
	wantBest(t, []api.Promise{p(0, 8, "a"), p(1, 8, "b"), p(2, 8, "c")}, "w", "a")
	wantBest(t, []api.Promise{p(0, 8, "a"), p(1, 9, "b"), p(2, 9, "c"), p(3, 8, "d")}, "w", "b")
	wantBest(t, []api.Promise{p(0, last, "a"), p(1, first, "b")}, "w", "a")
}

// TestP81BestOfAnyOnes has such as may be nowhere: of no nodes, twice, by numbers that are no ballots, with values that are too long.
func TestP81BestOfAnyOnes(t *testing.T) {
	wantBest(t, []api.Promise{p(0, 0, "x")}, "w", "w")
	wantBest(t, []api.Promise{p(0, -1, "x"), p(0, math.MinInt, "y")}, "w", "w")
	wantBest(t, []api.Promise{p(-1, -8, "x"), p(9, 1, "y"), p(9, 7, "z")}, "w", "z")
	wantBest(t, []api.Promise{p(3, math.MaxInt, "x"), p(3, math.MaxInt, "y"), p(3, last, "z")}, long(5000), "x")
	wantBest(t, []api.Promise{p(5, 1, long(5000)), p(0, 0, "x")}, "w", long(5000))
	wantBest(t, none(strangers()...), long(5000), long(5000))
	many := make([]api.Promise, 100000)
	for i := range many {
		many[i] = p(i%7, i*7919%100003, strconv.Itoa(i))
	}
	wantBest(t, many, "w", bestOf(many, "w"))
}

// TestP81BestOfAllShortLists goes through all lists of up to four.
func TestP81BestOfAllShortLists(t *testing.T) {
	var goThrough func(l []api.Promise)
	goThrough = func(l []api.Promise) {
		wantBest(t, l, "w", bestOf(l, "w"))
		if len(l) == 4 {
			return
		}
		for _, ballot := range []int{-8, 0, 1, 8, 9} {
			goThrough(append(slices.Clone(l), p(len(l), ballot, strconv.Itoa(len(l)))))
		}
	}
	goThrough(nil)
}

// anyOnes may be, or not; no two of them are the same.
func anyOnes() []api.Attempt {
	l := []api.Attempt{{}, asks(), tells(), chosen()}
	changes := []func(*api.Attempt){
		func(a *api.Attempt) { a.Phase += 4 },
		func(a *api.Attempt) { a.Ballot = math.MinInt },
		func(a *api.Attempt) { a.Ballot++ },
		func(a *api.Attempt) { a.Members = []int{0, 2, 1} },
		func(a *api.Attempt) { a.Members = append(a.Members, 3) },
		func(a *api.Attempt) { a.Members = append([]int{-1}, a.Members...) },
		func(a *api.Attempt) { a.Wish += "w" },
		func(a *api.Attempt) { a.Wish = long(1025) },
		func(a *api.Attempt) { a.Value += "\x00" },
		func(a *api.Attempt) { a.Value = long(1025) },
		func(a *api.Attempt) { a.Promises = append(a.Promises, api.Promise{}) },
		func(a *api.Attempt) { a.Promises = append(a.Promises, p(1, 0, "")) },
		func(a *api.Attempt) { a.Promises = append(a.Promises, p(0, 1, "")) },
		func(a *api.Attempt) { a.Promises = append(a.Promises, p(0, 0, "x")) },
		func(a *api.Attempt) { a.Promises = append([]api.Promise{p(7, -1, "z")}, a.Promises...) },
		func(a *api.Attempt) { a.Accepted = append(a.Accepted, 0) },
		func(a *api.Attempt) { a.Accepted = append(a.Accepted, 1, 1) },
		func(a *api.Attempt) { a.Accepted = append([]int{math.MaxInt}, a.Accepted...) },
	}
	for _, a := range l[:4] {
		for _, change := range changes {
			l = append(l, changed(a, change))
		}
	}
	return l
}

func TestP81SameOfAnyOnes(t *testing.T) {
	l := anyOnes()
	for i, a := range l {
		for j, b := range l {
			if got := attempt.Same(a, b); got != (i == j) {
				t.Errorf("Same(%s, %s) = %t", show(a), show(b), got)
			}
		}
		if !attempt.Same(a, plain(a)) || !attempt.Same(plain(a), a) {
			t.Errorf("Same(%s, one in other memory) = false", show(a))
		}
	}
}

func TestP81SameOfListsWithoutElements(t *testing.T) {
	empty := api.Attempt{Members: []int{}, Promises: []api.Promise{}, Accepted: make([]int, 0, 5)}
	if !attempt.Same(api.Attempt{}, empty) || !attempt.Same(empty, api.Attempt{}) {
		t.Error("nil and empty lists are not the same")
	}
}

// TestP81SameLooksAtEachElement changes one number of each list at each place.
func TestP81SameLooksAtEachElement(t *testing.T) {
	a := api.Attempt{Members: []int{0, 1, 2, 3}, Promises: none(0, 1, 2, 3), Accepted: []int{0, 1, 2, 3}}
	for i := range 4 {
		for _, change := range []func(*api.Attempt){
			func(a *api.Attempt) { a.Members[i] = 9 },
			func(a *api.Attempt) { a.Accepted[i] = 9 },
			func(a *api.Attempt) { a.Promises[i].Node = 9 },
			func(a *api.Attempt) { a.Promises[i].Ballot = 9 },
			func(a *api.Attempt) { a.Promises[i].Value = "9" },
		} {
			if b := changed(a, change); attempt.Same(a, b) || attempt.Same(b, a) {
				t.Errorf("Same(%s, %s) = true", show(a), show(b))
			}
		}
		for _, shorter := range []api.Attempt{
			changed(a, func(a *api.Attempt) { a.Members = a.Members[:i] }),
			changed(a, func(a *api.Attempt) { a.Promises = a.Promises[:i] }),
			changed(a, func(a *api.Attempt) { a.Accepted = a.Accepted[:i] }),
		} {
			if attempt.Same(a, shorter) || attempt.Same(shorter, a) {
				t.Errorf("Same(%s, %s) = true", show(a), show(shorter))
			}
		}
	}
}

func TestP81TwinOfAnyOnes(t *testing.T) {
	for _, a := range anyOnes() {
		want(t, "Twin of "+show(a), attempt.Twin(a), api.OK, a, api.OK)
	}
}

func TestP82Begin(t *testing.T) {
	for _, members := range allMembers() {
		for _, ballot := range someBallots() {
			wantBegin(t, members, ballot, "w", api.Attempt{Phase: api.PhaseAsk, Ballot: ballot, Members: members, Wish: "w"}, api.OK)
		}
	}
	for _, wish := range valuesThatMayBe() {
		wantBegin(t, []int{1, 4}, 21, wish, api.Attempt{Phase: api.PhaseAsk, Ballot: 21, Members: []int{1, 4}, Wish: wish}, api.OK)
	}
}

// TestP82NobodysBallotIsRefused begins by the ballots of nodes that are no members: the chapter asks for none.
func TestP82NobodysBallotIsRefused(t *testing.T) {
	for ballot := 8; ballot < 14; ballot++ {
		wantBegin(t, []int{3}, ballot, "w", api.Attempt{Phase: api.PhaseAsk, Ballot: ballot, Members: []int{3}, Wish: "w"}, api.OK)
	}
}

func TestP82OrderOfErrors(t *testing.T) {
	texts := append(valuesTooLong(), "", "w")
	for _, ballot := range append(noBallots(), first, last) {
		for _, wish := range texts {
			for _, members := range tooManyMembers() {
				wantBeginError(t, members, ballot, wish, api.ErrMany)
			}
			for _, members := range wrongMembers() {
				wantBeginError(t, members, ballot, wish, api.ErrQuorum)
			}
		}
	}
	for _, members := range allMembers() {
		for _, ballot := range noBallots() {
			for _, wish := range texts {
				wantBeginError(t, members, ballot, wish, api.ErrBallot)
			}
		}
		for _, wish := range valuesTooLong() {
			wantBeginError(t, members, 17, wish, api.ErrText)
		}
	}
}

func TestP83PromisesStandByTheirNodes(t *testing.T) {
	a, _ := attempt.Begin([]int{0, 1, 2, 4, 5}, 17, "w")
	wants := []api.Attempt{
		changed(a, func(a *api.Attempt) { a.Promises = []api.Promise{p(2, 8, "x")} }),
		changed(a, func(a *api.Attempt) { a.Promises = []api.Promise{p(2, 8, "x"), p(5, 9, "y")} }),
		changed(a, func(a *api.Attempt) {
			a.Phase, a.Value, a.Promises = api.PhaseTell, "y", []api.Promise{p(0, 0, ""), p(2, 8, "x"), p(5, 9, "y")}
		}),
	}
	for i, other := range []api.Promise{p(2, 8, "x"), p(5, 9, "y"), p(0, 0, "")} {
		wantPromised(t, a, 17, other, wants[i], api.OK)
		a = wants[i]
	}
	wantPromised(t, wants[1], 17, p(4, 13, "z"), changed(wants[1], func(a *api.Attempt) {
		a.Phase, a.Value, a.Promises = api.PhaseTell, "z", []api.Promise{p(2, 8, "x"), p(4, 13, "z"), p(5, 9, "y")}
	}), api.OK)
}

func TestP83JustAMajorityEndsIt(t *testing.T) {
	for _, members := range allMembers() {
		a, _ := attempt.Begin(members, 17, "w")
		for i, node := range members {
			before := a
			var e api.Errno
			a, e = attempt.Promised(a, 17, p(node, 0, ""))
			if i < len(members)/2 {
				want(t, "Promised", a, e, changed(before, func(a *api.Attempt) { a.Promises = none(members[:i+1]...) }), api.OK)
				continue
			}
			want(t, "Promised", a, e, changed(before, func(a *api.Attempt) {
				a.Phase, a.Value, a.Promises = api.PhaseTell, "w", none(members[:i+1]...)
			}), api.OK)
			break
		}
		if a.Phase != api.PhaseTell {
			t.Error(members, show(a))
		}
	}
}

// TestP83TheFirstPromiseOfANodeCounts promises once more, the same or another thing: nothing changes.
func TestP83TheFirstPromiseOfANodeCounts(t *testing.T) {
	a, _ := attempt.Begin([]int{0, 1, 2, 3, 5}, 17, "w")
	for _, node := range []int{3, 1} {
		a, _ = attempt.Promised(a, 17, p(node, 9, strconv.Itoa(node)))
		for _, known := range a.Promises {
			wantPromised(t, a, 17, known, a, api.OK)
			for _, other := range []api.Promise{p(known.Node, 0, ""), p(known.Node, 16, "greater"), p(known.Node, 8, long(1024)), p(known.Node, 9, "")} {
				wantPromised(t, a, 17, other, a, api.OK)
			}
			for _, other := range []api.Promise{p(known.Node, 0, "x"), p(known.Node, 17, "x"), p(known.Node, 7, ""), p(known.Node, 9, long(1025))} {
				wantPromisedError(t, a, 17, other, api.ErrBad)
			}
		}
	}
}

func TestP83NoneWhoMayPromise(t *testing.T) {
	begun, _ := attempt.Begin([]int{0, 1, 2}, 17, "w")
	for _, a := range []api.Attempt{begun, asks()} {
		for _, ballot := range append(append(noBallots(), someBallots()...), 16, 18, 25) {
			if ballot == 17 {
				continue
			}
			for _, node := range []int{0, 1, 2, 3, -1} {
				wantPromisedError(t, a, ballot, p(node, 0, ""), api.ErrNone)
				wantPromisedError(t, a, ballot, p(node, 8, "x"), api.ErrNone)
			}
		}
		for _, node := range append(strangers(), 3, 4, 5) {
			wantPromisedError(t, a, 17, p(node, 0, ""), api.ErrNone)
			wantPromisedError(t, a, 17, p(node, 8, "x"), api.ErrNone)
		}
	}
	for _, members := range allMembers() {
		a, _ := attempt.Begin(members, 21, "w")
		for node := -1; node < 8; node++ {
			if _, e := attempt.Promised(a, 21, p(node, 0, "")); (e == api.OK) != slices.Contains(members, node) {
				t.Error(members, node, e)
			}
		}
	}
}

// TestP83NothingIsPromisedElsewhere asks where nothing was begun, and behind the majority: also of what is there already.
func TestP83NothingIsPromisedElsewhere(t *testing.T) {
	for _, a := range []api.Attempt{{}, tells(), chosen()} {
		for _, ballot := range []int{0, 8, 17, 18, -1, math.MinInt, math.MaxInt} {
			for _, node := range []int{0, 1, 2, 3, -1, math.MinInt, math.MaxInt} {
				for _, other := range []api.Promise{p(node, 0, ""), p(node, 8, "x"), p(node, 0, "x"), p(node, 17, ""), p(node, 8, long(1025))} {
					wantPromisedError(t, a, ballot, other, api.ErrNone)
				}
			}
		}
	}
}

// TestP83OrderOfErrors has promises that may not be of nodes, and for ballots, that are none here; attempts that may not be are asked with all of it elsewhere.
func TestP83OrderOfErrors(t *testing.T) {
	for _, wrong := range []api.Promise{p(0, 0, "x"), p(0, 17, ""), p(0, 18, "x"), p(0, 7, "x"), p(0, -8, ""), p(0, math.MinInt, ""), p(0, math.MaxInt, "x"), p(0, 8, long(1025))} {
		wantPromisedError(t, asks(), 17, wrong, api.ErrBad)
		wantPromisedError(t, asks(), 16, wrong, api.ErrNone)
		wantPromisedError(t, asks(), 25, wrong, api.ErrNone)
		wantPromisedError(t, asks(), math.MaxInt, wrong, api.ErrNone)
		wrong.Node = 3
		wantPromisedError(t, asks(), 17, wrong, api.ErrNone)
		wrong.Node = -1
		wantPromisedError(t, asks(), 17, wrong, api.ErrNone)
	}
}

func TestP84AcceptancesRise(t *testing.T) {
	a := api.Attempt{Phase: api.PhaseTell, Ballot: 17, Members: []int{0, 1, 2, 4, 5}, Wish: "w", Value: "w", Promises: none(0, 1, 2)}
	steps := []struct {
		node     int
		accepted []int
		phase    uint8
	}{{4, []int{4}, 2}, {1, []int{1, 4}, 2}, {4, []int{1, 4}, 2}, {5, []int{1, 4, 5}, 3}, {1, []int{1, 4, 5}, 3}, {0, []int{0, 1, 4, 5}, 3}, {2, []int{0, 1, 2, 4, 5}, 3}, {2, []int{0, 1, 2, 4, 5}, 3}}
	for _, s := range steps {
		next := changed(a, func(a *api.Attempt) { a.Phase, a.Accepted = s.phase, s.accepted })
		wantAccepted(t, a, 17, s.node, next, api.OK)
		a = next
	}
}

// TestP84JustAMajorityIsChosen asks who promised nothing too: whoever accepts counts.
func TestP84JustAMajorityIsChosen(t *testing.T) {
	for _, members := range allMembers() {
		need := len(members)/2 + 1
		a := api.Attempt{Phase: api.PhaseTell, Ballot: 17, Members: members, Wish: "w", Value: "w", Promises: none(members[:need]...)}
		for i := range members {
			node := members[len(members)-1-i]
			next := changed(a, func(a *api.Attempt) {
				a.Accepted = members[len(members)-1-i:]
				if i+1 >= need {
					a.Phase = api.PhaseChosen
				}
			})
			wantAccepted(t, a, 17, node, next, api.OK)
			wantAccepted(t, next, 17, node, next, api.OK)
			a = next
		}
	}
}

func TestP84NoneWhoMayAccept(t *testing.T) {
	begun, _ := attempt.Begin([]int{0, 1, 2}, 17, "w")
	for _, a := range []api.Attempt{{}, begun, asks()} {
		for _, ballot := range append(noBallots(), 8, 16, 17, 18) {
			for _, node := range append(strangers(), 0, 1, 2, 3) {
				wantAcceptedError(t, a, ballot, node, api.ErrNone)
			}
		}
	}
	for _, a := range []api.Attempt{tells(), chosen()} {
		for _, ballot := range append(noBallots(), 8, 16, 18, 25, last) {
			for _, node := range append(strangers(), 0, 1, 2, 3) {
				wantAcceptedError(t, a, ballot, node, api.ErrNone)
			}
		}
		for _, node := range append(strangers(), 3, 4, 5) {
			wantAcceptedError(t, a, 17, node, api.ErrNone)
		}
	}
}

// spare is an attempt whose lists have room behind them, with something in it.
func spare(a api.Attempt) api.Attempt {
	a.Members = append(slices.Clone(a.Members), 77, 77, 77)[:len(a.Members)]
	a.Accepted = append(slices.Clone(a.Accepted), 77, 77, 77)[:len(a.Accepted)]
	a.Promises = append(slices.Clone(a.Promises), p(77, 77, "room"), p(77, 77, "room"), p(77, 77, "room"))[:len(a.Promises)]
	return a
}

// whole is an attempt with what stands behind its lists, in memory of its own.
func whole(a api.Attempt) api.Attempt {
	return plain(api.Attempt{Phase: a.Phase, Ballot: a.Ballot, Wish: a.Wish, Value: a.Value,
		Members: a.Members[:cap(a.Members)], Promises: a.Promises[:cap(a.Promises)], Accepted: a.Accepted[:cap(a.Accepted)]})
}

// spoil writes over all that an attempt's lists have, with what is behind them.
func spoil(a api.Attempt) {
	for i := range a.Members[:cap(a.Members)] {
		a.Members[:cap(a.Members)][i] = -5
	}
	for i := range a.Accepted[:cap(a.Accepted)] {
		a.Accepted[:cap(a.Accepted)][i] = -6
	}
	for i := range a.Promises[:cap(a.Promises)] {
		a.Promises[:cap(a.Promises)][i] = p(-7, -7, "spoilt")
	}
}

// wantApart asks that a call changed nothing of what it was handed, and that what it answered has no memory of it, nor any list of it another one's.
func wantApart(t *testing.T, call string, in api.Attempt, do func(api.Attempt) api.Attempt) {
	t.Helper()
	in = spare(in)
	before := whole(in)
	got := do(in)
	if !same(whole(in), before) {
		t.Errorf("%s of %s wrote into it: %s", call, show(before), show(whole(in)))
	}
	answered := plain(got)
	spoil(in)
	if !same(got, answered) {
		t.Errorf("%s: what was answered, %s, hangs on what was handed in: %s", call, show(answered), show(got))
	}
	got = do(spare(plain(api.Attempt{Phase: before.Phase, Ballot: before.Ballot, Wish: before.Wish, Value: before.Value,
		Members: before.Members[:len(in.Members)], Promises: before.Promises[:len(in.Promises)], Accepted: before.Accepted[:len(in.Accepted)]})))
	for i := range got.Members[:cap(got.Members)] {
		got.Members[:cap(got.Members)][i] = -5
	}
	if !slices.Equal(got.Accepted, answered.Accepted) {
		t.Errorf("%s: two lists of %s share memory", call, show(answered))
	}
}

// apartCases are attempts for the tests of memory: in all of the phases, with lists of several lengths.
func apartCases() []api.Attempt {
	begun, _ := attempt.Begin([]int{0, 1, 2}, 17, "w")
	return []api.Attempt{{}, begun, asks(), tells(), chosen(), changed(chosen(), func(a *api.Attempt) { a.Accepted = []int{0, 1, 2} })}
}

func TestP85WhatIsHandedInIsOnlyRead(t *testing.T) {
	for _, a := range append(apartCases(), anyOnes()...) {
		for _, node := range []int{0, 1, 2, 3} {
			wantApart(t, "Promised", a, func(a api.Attempt) api.Attempt {
				got, _ := attempt.Promised(a, 17, p(node, 8, "x"))
				return got
			})
			wantApart(t, "Accepted", a, func(a api.Attempt) api.Attempt {
				got, _ := attempt.Accepted(a, 17, node)
				return got
			})
		}
		wantApart(t, "Begin", a, func(a api.Attempt) api.Attempt {
			got, _ := attempt.Begin(a.Members, 17, "w")
			return got
		})
		wantApart(t, "Twin", a, attempt.Twin)
		wantApart(t, "Check, Best and Same", a, func(a api.Attempt) api.Attempt {
			attempt.Check(a)
			attempt.Best(a.Promises, a.Wish)
			attempt.Same(a, a)
			return api.Attempt{}
		})
	}
}

// TestP85NewMemoryWhereNothingChanges promises and accepts again what is there, and writes over what is answered.
func TestP85NewMemoryWhereNothingChanges(t *testing.T) {
	a := asks()
	got, e := attempt.Promised(a, 17, p(1, 8, "x"))
	want(t, "Promised again", got, e, asks(), api.OK)
	spoil(got)
	want(t, "what was handed in", a, api.OK, asks(), api.OK)
	for _, a := range []api.Attempt{tells(), chosen()} {
		before := plain(a)
		got, e := attempt.Accepted(a, 17, 2)
		want(t, "Accepted again", got, e, before, api.OK)
		spoil(got)
		want(t, "what was handed in", a, api.OK, before, api.OK)
	}
	twin := attempt.Twin(a)
	spoil(twin)
	want(t, "what was handed in", a, api.OK, asks(), api.OK)
}

// TestP85OneListInTwoPlaces hands in attempts whose members are those that accepted too.
func TestP85OneListInTwoPlaces(t *testing.T) {
	l := []int{0, 3}
	a := api.Attempt{Phase: api.PhaseChosen, Ballot: 8, Members: l, Promises: none(0, 3), Accepted: l}
	for _, got := range []api.Attempt{attempt.Twin(a), accepted(a, 3)} {
		want(t, "of one list", got, api.OK, api.Attempt{Phase: api.PhaseChosen, Ballot: 8, Members: []int{0, 3}, Promises: none(0, 3), Accepted: []int{0, 3}}, api.OK)
		got.Members[0] = 1
		if got.Accepted[0] != 0 || l[0] != 0 {
			t.Error("lists share memory", got, l)
		}
	}
}

func accepted(a api.Attempt, node int) api.Attempt {
	got, _ := attempt.Accepted(a, a.Ballot, node)
	return got
}

// story is what the tests of all ways keep of an attempt beside it: the promises that came, by their nodes, those who accepted, and what is to be told.
type story struct {
	begun    api.Attempt
	promises map[int]api.Promise
	accepted map[int]bool
	value    string
	phase    uint8
}

func (s story) next() story {
	n := story{s.begun, map[int]api.Promise{}, map[int]bool{}, s.value, s.phase}
	for node, p := range s.promises {
		n.promises[node] = p
	}
	for node := range s.accepted {
		n.accepted[node] = true
	}
	return n
}

// attempt is what the story tells.
func (s story) attempt() api.Attempt {
	a := s.begun
	a.Phase, a.Value = s.phase, s.value
	for node := range 6 {
		if p, ok := s.promises[node]; ok {
			a.Promises = append(a.Promises, p)
		}
		if s.accepted[node] {
			a.Accepted = append(a.Accepted, node)
		}
	}
	return a
}

func (s story) promised(p api.Promise) (story, api.Errno) {
	n := s.next()
	if s.phase != api.PhaseAsk {
		return n, api.ErrNone
	}
	if _, ok := n.promises[p.Node]; !ok {
		n.promises[p.Node] = p
	}
	if 2*len(n.promises) > len(s.begun.Members) {
		n.phase = api.PhaseTell
		n.value = bestOf(n.attempt().Promises, s.begun.Wish)
	}
	return n, api.OK
}

func (s story) acceptedBy(node int) (story, api.Errno) {
	n := s.next()
	if s.phase < api.PhaseTell {
		return n, api.ErrNone
	}
	n.accepted[node] = true
	if 2*len(n.accepted) > len(s.begun.Members) {
		n.phase = api.PhaseChosen
	}
	return n, api.OK
}

// TestP86AllWaysOfFewMembers goes through all that may come to an attempt, again and again till nothing is new.
func TestP86AllWaysOfFewMembers(t *testing.T) {
	for _, members := range [][]int{{4}, {0, 1}, {1, 3, 5}, {0, 2, 3, 4}} {
		a, e := attempt.Begin(members, 17, "w")
		want(t, "Begin", a, e, api.Attempt{Phase: api.PhaseAsk, Ballot: 17, Members: members, Wish: "w"}, api.OK)
		seen := map[string]bool{}
		phases := map[uint8]int{}
		goOn(t, a, story{begun: a, phase: api.PhaseAsk}.next(), seen, phases)
		if phases[1] < 1 || phases[2] < 3 || phases[3] < 3 {
			t.Error(members, phases)
		}
	}
}

// goOn asks each step of an attempt, and of each one that it leads to.
func goOn(t *testing.T, a api.Attempt, s story, seen map[string]bool, phases map[uint8]int) {
	if seen[show(a)] {
		return
	}
	seen[show(a)] = true
	phases[a.Phase]++
	for _, node := range a.Members {
		for _, other := range []api.Promise{p(node, 0, ""), p(node, 8, "x"), p(node, 9, "y"), p(node, 9, "")} {
			got, e := attempt.Promised(a, 17, other)
			to, wantError := s.promised(other)
			goOnTo(t, a, got, e, to, wantError, seen, phases)
		}
		got, e := attempt.Accepted(a, 17, node)
		to, wantError := s.acceptedBy(node)
		goOnTo(t, a, got, e, to, wantError, seen, phases)
	}
}

// goOnTo asks what a step led to: it may be, no phase falls, and what was begun stays, and what is told.
func goOnTo(t *testing.T, from, got api.Attempt, e api.Errno, to story, wantError api.Errno, seen map[string]bool, phases map[uint8]int) {
	if wantError != api.OK {
		want(t, "a step of "+show(from), got, e, api.Attempt{}, wantError)
		return
	}
	want(t, "a step of "+show(from), got, e, to.attempt(), api.OK)
	wantCheck(t, got, api.OK)
	if got.Phase < from.Phase || got.Ballot != from.Ballot || got.Wish != from.Wish || !slices.Equal(got.Members, from.Members) {
		t.Error("from", show(from), "to", show(got))
	}
	if from.Phase >= api.PhaseTell && got.Value != from.Value {
		t.Error("from", show(from), "to", show(got))
	}
	if !t.Failed() {
		goOn(t, got, to, seen, phases)
	}
}

// orders are all of a list's.
func orders(l []int) (all [][]int) {
	if len(l) == 0 {
		return [][]int{nil}
	}
	for i, n := range l {
		rest := slices.Delete(slices.Clone(l), i, i+1)
		for _, more := range orders(rest) {
			all = append(all, append([]int{n}, more...))
		}
	}
	return all
}

// TestP86OrderCountsForNothing lets each majority promise, and then all accept, in all orders, some twice.
func TestP86OrderCountsForNothing(t *testing.T) {
	had := []api.Promise{p(0, 8, "a"), p(1, 16, "b"), p(2, 0, ""), p(3, 16, "d"), p(4, 13, ""), p(5, 12, "f")}
	for _, members := range [][]int{{3}, {2, 4}, {0, 1, 5}, {1, 2, 3, 4}, {0, 1, 2, 3, 4}, {0, 1, 2, 3, 4, 5}} {
		for set := range 64 {
			some := ofSet(set)
			if len(some) != len(members)/2+1 || !risingOf(members, some) {
				continue
			}
			var wantPromises []api.Promise
			for _, node := range some {
				wantPromises = append(wantPromises, had[node])
			}
			told := api.Attempt{Phase: api.PhaseTell, Ballot: 21, Members: members, Wish: "w", Value: bestOf(wantPromises, "w"), Promises: wantPromises}
			for _, order := range orders(some) {
				a, _ := attempt.Begin(members, 21, "w")
				for _, node := range order {
					a, _ = attempt.Promised(a, 21, had[node])
					if a.Phase == api.PhaseAsk {
						a, _ = attempt.Promised(a, 21, had[order[0]])
					}
				}
				want(t, fmt.Sprint("promised in the order ", order), a, api.OK, told, api.OK)
			}
			wantAcceptedInAllOrders(t, told, some)
		}
	}
}

func wantAcceptedInAllOrders(t *testing.T, told api.Attempt, some []int) {
	t.Helper()
	done := changed(told, func(a *api.Attempt) { a.Phase, a.Accepted = api.PhaseChosen, some })
	for _, order := range orders(some) {
		a := told
		for _, node := range order {
			a = accepted(a, node)
			a = accepted(a, order[0])
		}
		want(t, fmt.Sprint("accepted in the order ", order), a, api.OK, done, api.OK)
	}
}

// TestP86AndW3WhatIsToldIsAWishOrAccepted lets each majority of six promise what they had accepted: none of less than the greatest of these is told.
func TestP86AndW3WhatIsToldIsAWishOrAccepted(t *testing.T) {
	mix := 1
	for range 20000 {
		mix = (mix*1103515245 + 12345) % (1 << 31)
		members := ofSet(1 + mix>>8%63)
		a, _ := attempt.Begin(members, last, "wish")
		greatest, values := 0, map[string]bool{"wish": true}
		for i := 0; a.Phase == api.PhaseAsk; i++ {
			mix = (mix*1103515245 + 12345) % (1 << 31)
			other := p(members[mix>>16%len(members)], 0, "")
			if mix>>12%3 > 0 {
				other = p(other.Node, 8*(1+mix>>20%3)+mix>>24%6, strconv.Itoa(i))
			}
			known := len(a.Promises)
			a, _ = attempt.Promised(a, last, other)
			if len(a.Promises) == known {
				continue // it had promised already
			}
			if other.Ballot > greatest {
				greatest, values = other.Ballot, map[string]bool{}
			}
			if other.Ballot == greatest && greatest > 0 {
				values[other.Value] = true
			}
		}
		if !values[a.Value] || a.Phase != api.PhaseTell {
			t.Fatal(show(a), greatest, values)
		}
	}
}

// TestW3TwoAttemptsAtOneSlot lets one attempt be chosen by any majority, and asks any majority for promises of a later ballot: it finds what was chosen, and nothing else to tell.
func TestW3TwoAttemptsAtOneSlot(t *testing.T) {
	for _, members := range allMembers() {
		for told := range 64 {
			accepts := ofSet(told)
			if !risingOf(members, accepts) || 2*len(accepts) <= len(members) {
				continue
			}
			for set := range 64 {
				asked := ofSet(set)
				if !risingOf(members, asked) || len(asked) != len(members)/2+1 {
					continue
				}
				a, _ := attempt.Begin(members, 17, "later")
				for _, node := range asked {
					prior := p(node, 0, "")
					if slices.Contains(accepts, node) {
						prior = p(node, 8, "chosen")
					}
					a, _ = attempt.Promised(a, 17, prior)
				}
				if a.Phase != api.PhaseTell || a.Value != "chosen" {
					t.Fatal(accepts, asked, show(a))
				}
			}
		}
	}
}

// TestP86CallsKeepNothing asks one thing ahead of others and behind them.
func TestP86CallsKeepNothing(t *testing.T) {
	a, _ := attempt.Begin([]int{0, 1, 2}, 17, "w")
	once, _ := attempt.Promised(a, 17, p(1, 8, "x"))
	attempt.Promised(once, 17, p(0, 9, "y"))
	attempt.Begin([]int{3, 4}, 18, "z")
	attempt.Accepted(chosen(), 17, 1)
	wantPromised(t, a, 17, p(1, 8, "x"), once, api.OK)
	want(t, "Promised", once, api.OK, asks(), api.OK)
}

func ExamplePromised() {
	a, _ := attempt.Begin([]int{0, 1, 2}, 17, "hear ye")
	a, _ = attempt.Promised(a, 17, api.Promise{Node: 0})
	fmt.Println(a.Phase == api.PhaseAsk)
	a, _ = attempt.Promised(a, 17, api.Promise{Node: 2, Ballot: 8, Value: "oyez"})
	fmt.Println(a.Phase == api.PhaseTell, a.Value)
	a, _ = attempt.Accepted(a, 17, 1)
	a, _ = attempt.Accepted(a, 17, 2)
	fmt.Println(a.Phase == api.PhaseChosen, a.Value)
	// Output:
	// true
	// true oyez
	// true oyez
}
