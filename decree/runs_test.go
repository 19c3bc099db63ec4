package decree_test

import (
	"fmt"
	"reflect"
	"slices"
	"strconv"
	"testing"

	"towncrier/api"
	"towncrier/decree"
)

// spare is a world, in memory of its own, whose lists have room behind them, with something in it.
func spare(w api.World) api.World {
	w.Members = append(slices.Clone(w.Members), 77, 77, 77)[:len(w.Members)]
	w.Votes = append(slices.Clone(w.Votes), api.Vote{Value: "room"}, api.Vote{})[:len(w.Votes)]
	w.Tries = append(slices.Clone(w.Tries), api.Attempt{Wish: "room", Members: []int{77}}, api.Attempt{})[:len(w.Tries)]
	for i, a := range w.Tries {
		w.Tries[i].Members = append(slices.Clone(a.Members), 77, 77, 77)[:len(a.Members)]
		w.Tries[i].Promises = append(slices.Clone(a.Promises), p(77, 77, "room"), p(77, 77, "room"))[:len(a.Promises)]
		w.Tries[i].Accepted = append(slices.Clone(a.Accepted), 77, 77, 77)[:len(a.Accepted)]
	}
	w.Mail = append(slices.Clone(w.Mail), slices.Repeat([]api.Mail{{Value: "room"}}, 8)...)[:len(w.Mail)]
	w.Chosen = append(slices.Clone(w.Chosen), api.Choice{Value: "room"}, api.Choice{Value: "room"})[:len(w.Chosen)]
	return w
}

// whole is a world with what stands behind its lists, in memory of its own.
func whole(w api.World) api.World {
	w.Members, w.Votes, w.Tries = w.Members[:cap(w.Members)], w.Votes[:cap(w.Votes)], slices.Clone(w.Tries[:cap(w.Tries)])
	for i, a := range w.Tries {
		w.Tries[i].Members, w.Tries[i].Promises, w.Tries[i].Accepted = a.Members[:cap(a.Members)], a.Promises[:cap(a.Promises)], a.Accepted[:cap(a.Accepted)]
	}
	w.Mail, w.Chosen = w.Mail[:cap(w.Mail)], w.Chosen[:cap(w.Chosen)]
	return plain(w)
}

// area is the memory of a list, its room too.
type area struct{ from, to uintptr }

func areas(w api.World) (l []area) {
	add := func(list any) {
		v := reflect.ValueOf(list)
		if size := uintptr(v.Cap()) * v.Type().Elem().Size(); size > 0 {
			l = append(l, area{v.Pointer(), v.Pointer() + size})
		}
	}
	add(w.Members)
	add(w.Votes)
	add(w.Tries)
	for _, a := range w.Tries {
		add(a.Members)
		add(a.Promises)
		add(a.Accepted)
	}
	add(w.Mail)
	add(w.Chosen)
	return l
}

// wantApart asks that no two lists of a world share memory, nor one of it with one of what was handed in.
func wantApart(t *testing.T, call string, in, got api.World) {
	t.Helper()
	all := areas(got)
	for i, a := range all {
		for _, b := range append(all[:i:i], areas(in)...) {
			if a.from < b.to && b.from < a.to {
				t.Errorf("%s: lists of %s share memory, or with %s", call, show(got), show(in))
				return
			}
		}
	}
}

// wantRead asks that a call changes nothing of what it is handed, and answers new memory.
func wantRead(t *testing.T, call string, w api.World, do func(api.World) api.World) {
	t.Helper()
	in := spare(w)
	before := whole(in)
	got := do(in)
	if !same(whole(in), before) {
		t.Errorf("%s of %s wrote into it: %s", call, show(before), show(whole(in)))
	}
	wantApart(t, call, in, got)
}

// movesOf are moves that change a world and such as don't, or are refused.
func movesOf(w api.World) (l []api.Move) {
	for node := range 7 {
		l = append(l, begin(node, "w"), crash(node))
	}
	for at := range len(w.Mail) + 1 {
		l = append(l, deliver(at), twice(at), drop(at))
	}
	return append(l, api.Move{})
}

// readCases are worlds for the tests of memory; from the last ones on mail that comes makes nodes tell, and find something chosen.
func readCases() []api.World {
	two := changed(asking(2, 26, promise(4, 2, 26, 16, "y")), func(w *api.World) { w.Mail = append(w.Mail, promise(0, 2, 26, 0, "")) })
	tell := changed(beginning(0, 1, 2), func(w *api.World) {
		w.Tries[0] = inPhase([]int{0, 1, 2}, api.PhaseTell, 24)
		w.Mail = []api.Mail{taken(0, 0, 24), taken(1, 0, 24), taken(2, 0, 24)}
	})
	return []api.World{beginning(4), beginning(0, 1, 2, 3, 4, 5), busy(), found(busy(), 5), two, tell}
}

func TestP94WhatIsHandedInIsOnlyRead(t *testing.T) {
	for _, w := range append(readCases(), anyOnes()...) {
		wantRead(t, "Twin", w, decree.Twin)
		wantRead(t, "Check and Same", w, func(w api.World) api.World {
			decree.Check(w)
			decree.Same(w, w)
			return api.World{}
		})
		wantRead(t, "New and Run", w, func(w api.World) api.World {
			got, _ := decree.New(w.Members)
			run, _ := decree.Run(w.Members, []api.Move{begin(0, "w"), deliver(0)})
			wantApart(t, "New and Run", got, run)
			wantApart(t, "Run", w, run)
			return got
		})
		for _, m := range movesOf(w)[:min(100, len(movesOf(w)))] {
			wantRead(t, "Do "+showMove(m), w, func(w api.World) api.World {
				got, _ := decree.Do(w, m)
				return got
			})
		}
	}
}

// TestP94NewMemoryWhereNothingChanges does moves behind which all is as it was, and writes over what is answered.
func TestP94NewMemoryWhereNothingChanges(t *testing.T) {
	for _, c := range []struct {
		w api.World
		m api.Move
	}{{busy(), crash(3)}, {busy(), twice(4)}, {busy(), twice(3)}, {beginning(0, 1), crash(0)}, {asking(2, 26, promise(1, 2, 26, 8, "x")), twice(1)}} {
		before := plain(c.w)
		got, e := decree.Do(c.w, c.m)
		wantApart(t, "Do "+showMove(c.m), c.w, got)
		got.Members[0], got.Votes[1].Promised, got.Tries[3].Wish = 5, 7, "spoilt"
		for i := range got.Mail {
			got.Mail[i].Value = "spoilt"
		}
		if e != api.OK || !same(c.w, before) {
			t.Error(showMove(c.m), e, show(c.w))
		}
	}
}

// TestP94OneListInManyPlaces hands in a world in which the members of all attempts are the world's, and others' lists are one too.
func TestP94OneListInManyPlaces(t *testing.T) {
	l, promises := []int{0, 1, 2}, none(0, 1)
	w := beginning(l...)
	w.Members = l
	for node := range 6 {
		w.Tries[node] = api.Attempt{Phase: api.PhaseChosen, Ballot: 16 + node, Members: l, Promises: promises, Accepted: l}
	}
	w.Mail = []api.Mail{prepare(0, 1, 16), refuse(0, 1, 16, 17)}
	wantApart(t, "Twin", w, decree.Twin(w))
	for _, m := range movesOf(w) {
		got, _ := decree.Do(w, m)
		wantApart(t, "Do "+showMove(m), w, got)
	}
}

// TestP94RunReadsItsMoves hands in moves, with room behind them.
func TestP94RunReadsItsMoves(t *testing.T) {
	members := append([]int{0, 1, 2}, 77)[:3]
	l := append([]api.Move{begin(0, "x"), deliver(0), {}, deliver(1)}, api.Move{Kind: 77})[:4]
	got, e := decree.Run(members, l)
	if e != api.OK || !slices.Equal(l[:5], []api.Move{begin(0, "x"), deliver(0), {}, deliver(1), {Kind: 77}}) || !slices.Equal(members[:4], []int{0, 1, 2, 77}) {
		t.Error(l[:5], members[:4], e)
	}
	members[0] = 9
	if got.Members[0] != 0 || got.Tries[0].Members[0] != 0 {
		t.Error(show(got))
	}
}

// TestR2CallsKeepNothing asks one thing ahead of others and behind them.
func TestR2CallsKeepNothing(t *testing.T) {
	for range 2 {
		wantNew(t, []int{1, 2}, beginning(1, 2), api.OK)
		next, _ := behind(busy(), deliver(0))
		wantDo(t, busy(), deliver(0), next, api.OK)
		decree.Do(next, begin(0, "other"))
		decree.Run([]int{1, 2}, []api.Move{begin(1, "w"), begin(2, "v")})
	}
}

// dice tell the same numbers each time.
type dice uint64

func (d *dice) below(n int) int {
	*d = *d*6364136223846793005 + 1442695040888963407
	return int(*d>>33) % n
}

// story is what a run tells beside its world: whose wishes there were, and what was found chosen, by its least ballot.
type story struct {
	t      *testing.T
	w      api.World
	wishes map[string]bool
	value  string
	ballot int // 0: nothing was found chosen
}

// do does a move, holds it against the chapter's words, and looks at what follows.
func (s *story) do(m api.Move) {
	known := len(s.w.Chosen)
	next, e := wantBehind(s.t, s.w, m)
	if e != api.OK {
		return
	}
	s.w = next
	if m.Kind == api.MoveBegin {
		s.wishes[m.Value] = true
	}
	for _, c := range next.Chosen[known:] {
		ballot := next.Tries[c.Node].Ballot
		if s.ballot > 0 && c.Value != s.value || !s.wishes[c.Value] || c.Value != next.Tries[c.Node].Value {
			s.t.Fatalf("behind %s: found %s, ahead of it %s: %s", showMove(m), brief(c.Value), brief(s.value), show(next))
		}
		if s.ballot == 0 || ballot < s.ballot {
			s.value, s.ballot = c.Value, ballot
		}
	}
	for _, a := range next.Tries {
		if a.Phase < api.PhaseTell {
			continue
		}
		if !s.wishes[a.Value] || s.ballot > 0 && a.Ballot >= s.ballot && a.Value != s.value {
			s.t.Fatalf("behind %s: %d tells %s, chosen is %s: %s", showMove(m), a.Ballot, brief(a.Value), brief(s.value), show(next))
		}
	}
}

// somewhere is a place of mail, mostly; now and then there is none.
func (s *story) somewhere(d *dice) int {
	if len(s.w.Mail) == 0 || d.below(40) == 0 {
		return len(s.w.Mail)
	}
	return d.below(len(s.w.Mail))
}

// next is some move: mostly mail is delivered.
func (s *story) next(d *dice, nodes int) api.Move {
	switch n := d.below(40); {
	case n < 3 || len(s.w.Mail) == 0:
		return begin(d.below(nodes), strconv.Itoa(len(s.wishes)))
	case n < 5:
		return crash(d.below(6))
	case n < 8:
		return drop(s.somewhere(d))
	case n < 14:
		return twice(s.somewhere(d))
	case n == 14:
		return api.Move{Kind: uint8(d.below(7)), Node: d.below(8) - 1, At: -1, Value: "none"}
	}
	return deliver(s.somewhere(d))
}

// beginsAgain lets a node begin till it gets its majority, and asks what it tells then.
func (s *story) beginsAgain(node int) {
	for range 200 {
		s.do(begin(node, "later"))
		s.answer(s.w.Tries[node].Ballot, node)
		if a := s.w.Tries[node]; a.Phase >= api.PhaseTell {
			if a.Value != s.value {
				s.t.Fatalf("%d tells %s, chosen is %s: %s", a.Ballot, brief(a.Value), brief(s.value), show(s.w))
			}
			return
		}
	}
	s.t.Fatalf("%d gets no majority: %s", node, show(s.w))
}

// answer delivers all that is asked by a ballot, and all that is promised to it.
func (s *story) answer(ballot, node int) {
	for at := 0; at < len(s.w.Mail); {
		m := s.w.Mail[at]
		if m.Ballot == ballot && (m.From == node && m.Kind == api.MailPrepare || m.To == node && m.Kind == api.MailPromise) {
			s.do(deliver(at))
		} else {
			at++
		}
	}
}

// TestP95AndW3ManyRuns runs some hundreds of times, with copies, drops and crashes, of all members; behind each run that found something all nodes begin again.
func TestP95AndW3ManyRuns(t *testing.T) {
	d, runs, others := dice(1), 0, 0
	for i := range 1500 {
		members := allMembers()[i%63]
		s := story{t: t, w: beginning(members...), wishes: map[string]bool{}}
		var l []api.Move
		for range 30 + d.below(150) {
			l = append(l, s.next(&d, 1+d.below(6)))
			s.do(l[len(l)-1])
		}
		wantRun(t, members, l, s.w, api.OK)
		if s.ballot == 0 || t.Failed() {
			continue
		}
		runs++
		if len(s.w.Chosen) > 1 && slices.ContainsFunc(s.w.Tries, func(a api.Attempt) bool { return a.Phase == api.PhaseChosen && a.Wish != s.value }) {
			others++
		}
		for node := range 6 {
			again := s
			again.beginsAgain(node)
		}
	}
	if runs < 500 || others < 100 {
		t.Error(runs, others)
	}
}

// TestP95AndW3TwoWhoRace lets nodes of few members begin in turns, so that what one of them told is half accepted when the next one asks.
func TestP95AndW3TwoWhoRace(t *testing.T) {
	d, runs := dice(7), 0
	for range 1500 {
		s := story{t: t, w: beginning(0, 1, 2), wishes: map[string]bool{}}
		for turn := range 12 {
			s.do(begin(turn%2+2*d.below(2), strconv.Itoa(turn)))
			for range d.below(9) {
				s.do(deliver(s.somewhere(&d)))
			}
			if d.below(4) == 0 {
				s.do(twice(s.somewhere(&d)))
			}
		}
		if s.ballot > 0 {
			runs++
			s.beginsAgain(d.below(6))
		}
	}
	if runs < 300 {
		t.Error(runs)
	}
}

// TestP95AndW3AllWaysOfTwo goes through all that may happen to two members and a node that is none, who begin three times in all, while at most three pieces of mail are under way, till nothing is new.
func TestP95AndW3AllWaysOfTwo(t *testing.T) {
	seen := map[string]bool{}
	chosen, again := 0, 0
	var goOn func(s story, begun int)
	goOn = func(s story, begun int) {
		key := fmt.Sprint(begun, s.ballot, s.value) + show(s.w)
		if seen[key] || t.Failed() {
			return
		}
		seen[key] = true
		if s.ballot > 0 {
			chosen++
		}
		if len(s.w.Chosen) > 1 {
			again++
		}
		for _, m := range waysOfTwo(s.w, begun) {
			next := s
			next.wishes = map[string]bool{"0": true, "1": true, "2": true}
			next.do(m)
			if len(next.w.Mail) > 3 {
				continue
			}
			if m.Kind == api.MoveBegin {
				goOn(next, begun+1)
			} else {
				goOn(next, begun)
			}
		}
	}
	goOn(story{t: t, w: beginning(0, 1)}, 0)
	if chosen < 3000 || again < 200 {
		t.Error(len(seen), chosen, again)
	}
}

// waysOfTwo are the moves of all ways: nodes may begin, each time other ones, mail may come and go, and who tells may crash.
func waysOfTwo(w api.World, begun int) (l []api.Move) {
	for _, node := range [][]int{{0, 1}, {1}, {0, 1, 2}, nil}[begun] {
		l = append(l, begin(node, strconv.Itoa(begun)))
	}
	for at := range w.Mail {
		l = append(l, deliver(at))
	}
	if len(w.Mail) == 3 {
		l = append(l, drop(0), drop(1), drop(2))
	}
	for node, a := range w.Tries {
		if a.Phase == api.PhaseTell {
			l = append(l, crash(node))
		}
	}
	return l
}

func ExampleRun() {
	moves := []api.Move{
		{Kind: api.MoveBegin, Node: 0, Value: "hear ye"},
		{Kind: api.MoveDeliver, At: 0}, // node 1 promises
		{Kind: api.MoveDeliver, At: 1}, // a majority: node 0 tells
		{Kind: api.MoveDeliver, At: 1}, // node 1 accepts
		{Kind: api.MoveCrash, Node: 0}, // and nobody hears of it
		{Kind: api.MoveBegin, Node: 2, Value: "oyez"},
	}
	w, _ := decree.Run([]int{0, 1, 2}, moves)
	for len(w.Mail) > 0 {
		w, _ = decree.Do(w, api.Move{Kind: api.MoveDeliver})
	}
	fmt.Println(w.Chosen)
	// Output: [{2 hear ye}]
}
