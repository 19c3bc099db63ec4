package skeen_test

import (
	"fmt"
	"math"
	"slices"
	"testing"

	"towncrier/api"
	"towncrier/skeen"
)

// wantCheck and those below ask for t.Helper only where something is wrong: that takes longer than what is asked.
func wantCheck(t *testing.T, s api.Skeen, wantError api.Errno) {
	if e := skeen.Check(s); e != wantError {
		t.Helper()
		t.Errorf("Check(%s) = %d; want %d", show(s), e, wantError)
	}
}

// wantAsWords asks Check of what may be or not.
func wantAsWords(t *testing.T, s api.Skeen) bool {
	may := mayBe(s)
	if e := skeen.Check(s); may && e != api.OK || !may && e != api.ErrBad {
		t.Helper()
		t.Errorf("Check(%s) = %d; it may be: %t", show(s), e, may)
	}
	return may
}

// wantApply asks what a command makes, and which messages are delivered; beside an error that is to be nothing.
func wantApply(t *testing.T, s api.Skeen, group int, c api.Command, want api.Skeen, delivered []api.Message, wantError api.Errno) {
	got, l, e := skeen.Apply(s, group, c)
	if e != wantError || !same(got, want) || !sameMessages(l, delivered) {
		t.Helper()
		t.Errorf("Apply(%s, %d, %s) = %s, %v, %d; want %s, %v, %d", show(s), group, showCommand(c), show(got), idsOf(l), e, show(want), idsOf(delivered), wantError)
	}
}

// wantBehind asks of a command what the words tell, and answers that.
func wantBehind(t *testing.T, s api.Skeen, group int, c api.Command) (api.Skeen, []api.Message, api.Errno) {
	want, delivered, wantError := behind(s, group, c)
	got, l, e := skeen.Apply(s, group, c)
	if e != wantError || !same(got, want) || !sameMessages(l, delivered) {
		t.Helper()
		t.Errorf("Apply(%s, %d, %s) = %s, %v, %d; want %s, %v, %d", show(s), group, showCommand(c), show(got), idsOf(l), e, show(want), idsOf(delivered), wantError)
	}
	return want, delivered, wantError
}

func wantRefused(t *testing.T, s api.Skeen, group int, c api.Command, wantError api.Errno) {
	t.Helper()
	wantApply(t, s, group, c, api.Skeen{}, nil, wantError)
}

// wantNothing asks of a command that it does nothing.
func wantNothing(t *testing.T, s api.Skeen, group int, c api.Command) {
	t.Helper()
	wantApply(t, s, group, c, s, nil, api.OK)
}

func wantLocal(t *testing.T, s api.Skeen, id, wantTime int, wantFinal bool, wantError api.Errno) {
	if time, final, e := skeen.Local(s, id); time != wantTime || final != wantFinal || e != wantError {
		t.Helper()
		t.Errorf("Local(%s, %d) = %d, %t, %d; want %d, %t, %d", show(s), id, time, final, e, wantTime, wantFinal, wantError)
	}
}

func TestChapterExamples(t *testing.T) {
	m, n := message(5, 0), message(9, 0)
	s := skeen.New()
	do := func(c api.Command, want api.Skeen, delivered ...api.Message) {
		t.Helper()
		wantApply(t, s, 0, c, want, delivered, api.OK)
		s = want
	}
	do(assignOf(m), api.Skeen{Clock: 1, Waits: []api.Wait{{Message: m, Time: 1}}})
	do(assignOf(n), api.Skeen{Clock: 2, Waits: []api.Wait{{Message: m, Time: 1}, {Message: n, Time: 2}}})
	do(final(9, 7), api.Skeen{Clock: 7, Waits: []api.Wait{{Message: m, Time: 1}, {Message: n, Time: 7, Final: true}}})
	do(final(5, 3), clock(7, nil, 3, 5, 7, 9), m, n)
	do(assignOf(m), s)
	do(final(5, 9), s)
	do(assign(11, 1), s)
}

// ExampleApply shows two messages: the one that has its last time first is not the first one that is delivered.
func ExampleApply() {
	s := skeen.New()
	for _, c := range []api.Command{
		{Kind: api.CmdAssign, Message: api.Message{Id: 5, Groups: []int{0, 1}, Body: "hear ye"}},
		{Kind: api.CmdAssign, Message: api.Message{Id: 9, Groups: []int{0}, Body: "oyez"}},
		{Kind: api.CmdFinal, Id: 9, Time: 2},
		{Kind: api.CmdFinal, Id: 5, Time: 2},
	} {
		var delivered []api.Message
		s, delivered, _ = skeen.Apply(s, 0, c)
		fmt.Println(s.Clock, len(s.Waits), delivered, s.Done)
	}
	// Output:
	// 1 1 [] []
	// 2 2 [] []
	// 2 2 [] []
	// 2 0 [{5 [0 1] 0  hear ye} {9 [0] 0  oyez}] [{2 5} {2 9}]
}

// TestTheWordsOnceMore holds the tests' own words against what the chapter says.
func TestTheWordsOnceMore(t *testing.T) {
	for _, s := range someClocks() {
		if !mayBe(s) {
			t.Error(show(s))
		}
	}
	for _, s := range noClocks() {
		if mayBe(s) {
			t.Error(show(s))
		}
	}
	for _, m := range noMessages() {
		if isMessage(m) {
			t.Error(m.Id, len(m.Groups), m.Topic)
		}
	}
	for _, c := range noCommands() {
		if isCommand(c) {
			t.Error(showCommand(c))
		}
	}
	for _, c := range append(idle(), assign(0, 0), assign(lastId, 0, 1, 2, 3), assign(7, 3), final(0, 1), final(lastId, lastTime)) {
		if !isCommand(c) {
			t.Error(showCommand(c))
		}
	}
}

func TestP151NewIsAllZero(t *testing.T) {
	s := skeen.New()
	if s.Clock != 0 || len(s.Waits) != 0 || len(s.Done) != 0 {
		t.Error(show(s))
	}
	wantCheck(t, s, api.OK)
	wantLocal(t, s, 0, 0, false, api.ErrNone)
}

func TestP151CheckTellsWhatMayBe(t *testing.T) {
	for _, s := range someClocks() {
		wantCheck(t, s, api.OK)
	}
	for i, s := range noClocks() {
		wantCheck(t, s, api.ErrBad)
		if t.Failed() {
			t.Fatal(i)
		}
	}
}

func TestP151CheckOfClocks(t *testing.T) {
	for _, time := range []int{0, 1, 2, 1 << 20, lastTime - 1, lastTime} {
		wantCheck(t, api.Skeen{Clock: time}, api.OK)
	}
	for _, time := range []int{-1, -2, math.MinInt, -lastTime, lastTime + 1, 1 << 32, 1 << 40, math.MaxInt} {
		wantCheck(t, api.Skeen{Clock: time}, api.ErrBad)
	}
}

// TestP151CheckOfHowManyThereAre has as many as may wait and be done, and one more.
func TestP151CheckOfHowManyThereAre(t *testing.T) {
	for _, number := range []int{0, 1, 2, slots - 1, slots, slots + 1, slots + 2, 1 << 12} {
		for _, other := range []int{0, 1, slots} {
			want := api.OK
			if number > slots {
				want = api.ErrBad
			}
			wantCheck(t, longClock(number, other), want)
			wantCheck(t, longClock(other, number), want)
		}
	}
}

// TestP151CheckOfTimes has, of what waits and of what is done, times at both ends.
func TestP151CheckOfTimes(t *testing.T) {
	for _, now := range []int{1, 2, 20, lastTime - 1, lastTime} {
		for _, time := range []int{math.MinInt, -1, 0, 1, 2, now - 1, now, now + 1, 1 << 40, math.MaxInt} {
			want := api.OK
			if time < 1 || time > now {
				want = api.ErrBad
			}
			wantCheck(t, clock(now, waits(wait(5, time))), want)
			wantCheck(t, clock(now, nil, time, 5), want)
			if want == api.OK {
				wantCheck(t, clock(now, waits(wait(5, time), wait(9, now)), time, 3), api.OK)
				wantCheck(t, clock(now, waits(wait(5, time), last(9, time))), api.OK)
			}
		}
	}
	wantCheck(t, clock(0, waits(wait(5, 0))), api.ErrBad)
	wantCheck(t, clock(0, waits(wait(5, 1))), api.ErrBad)
	wantCheck(t, clock(0, nil, 0, 5), api.ErrBad)
	wantCheck(t, clock(0, nil, 1, 5), api.ErrBad)
}

// TestP151CheckAtEachPlace spoils long lists at each place of theirs.
func TestP151CheckAtEachPlace(t *testing.T) {
	good := longClock(slots, slots)
	wantCheck(t, good, api.OK)
	for i := range slots {
		for k, turn := range []func(s *api.Skeen){
			func(s *api.Skeen) { s.Waits[i].Time = s.Clock + 1 },
			func(s *api.Skeen) { s.Waits[i].Time = 0 },
			func(s *api.Skeen) { s.Waits[i].Time = slots - 1 },
			func(s *api.Skeen) { s.Waits[i].Message.Groups = []int{4} },
			func(s *api.Skeen) { s.Waits[i].Message.Id = s.Waits[(i+1)%slots].Message.Id },
			func(s *api.Skeen) { s.Waits[i].Message.Id = s.Waits[(i+9)%slots].Message.Id },
			func(s *api.Skeen) { s.Done[i].Time = s.Clock + 1 },
			func(s *api.Skeen) { s.Done[i].Time = 0 },
			func(s *api.Skeen) { s.Done[i].Id = lastId + 1 },
			func(s *api.Skeen) { s.Done[i].Id = s.Waits[i].Message.Id },
			func(s *api.Skeen) { s.Done[i].Id = s.Waits[(i+77)%slots].Message.Id },
			func(s *api.Skeen) { s.Done[i].Id = s.Done[(i+1)%slots].Id },
			func(s *api.Skeen) { s.Done[i].Id = s.Done[(i+101)%slots].Id },
			func(s *api.Skeen) { s.Done[i], s.Done[(i+1)%slots] = s.Done[(i+1)%slots], s.Done[i] },
			func(s *api.Skeen) { s.Waits[i], s.Waits[(i+1)%slots] = s.Waits[(i+1)%slots], s.Waits[i] },
		} {
			s := turned(good, turn)
			if wantCheck(t, s, api.ErrBad); t.Failed() {
				t.Fatal(i, k)
			}
		}
		// Of what waits the least one alone is not to be final.
		s := turned(good, func(s *api.Skeen) { s.Waits[i].Final = true })
		if least := s.Waits[i].Time == slots+1; least != (skeen.Check(s) == api.ErrBad) {
			t.Fatal(i, least)
		}
		// What is done and what waits may have one time: then the ids tell.
		s = turned(good, func(s *api.Skeen) { s.Waits[i].Time = slots })
		wantCheck(t, s, api.ErrBad)
		s.Done[slots-1].Id = 3
		wantCheck(t, s, api.OK)
	}
}

// changes are what can be changed of theClock, one field each.
func changes() []func(s *api.Skeen) {
	l := []func(s *api.Skeen){
		func(s *api.Skeen) { s.Clock++ },
		func(s *api.Skeen) { s.Waits = s.Waits[:2] },
		func(s *api.Skeen) { s.Waits = s.Waits[1:] },
		func(s *api.Skeen) { s.Waits = append(s.Waits, api.Wait{}) },
		func(s *api.Skeen) { s.Waits = nil },
		func(s *api.Skeen) { s.Waits[0], s.Waits[1] = s.Waits[1], s.Waits[0] },
		func(s *api.Skeen) { s.Done = s.Done[:2] },
		func(s *api.Skeen) { s.Done = s.Done[1:] },
		func(s *api.Skeen) { s.Done = append(s.Done, api.Stamp{}) },
		func(s *api.Skeen) { s.Done = nil },
		func(s *api.Skeen) { s.Done[0], s.Done[1] = s.Done[1], s.Done[0] },
	}
	for i := range 3 {
		l = append(l,
			func(s *api.Skeen) { s.Waits[i].Time++ },
			func(s *api.Skeen) { s.Waits[i].Time += 1 << 32 },
			func(s *api.Skeen) { s.Waits[i].Final = !s.Waits[i].Final },
			func(s *api.Skeen) { s.Waits[i].Message.Id-- },
			func(s *api.Skeen) { s.Waits[i].Message.Groups[1]++ },
			func(s *api.Skeen) { s.Waits[i].Message.Groups = s.Waits[i].Message.Groups[:1] },
			func(s *api.Skeen) { s.Waits[i].Message.Groups = nil },
			func(s *api.Skeen) { s.Waits[i].Message.Groups = append(s.Waits[i].Message.Groups, 0) },
			func(s *api.Skeen) { s.Waits[i].Message.Topic += 4 },
			func(s *api.Skeen) { s.Waits[i].Message.Key += "\x00" },
			func(s *api.Skeen) { s.Waits[i].Message.Body = "OYEZ" },
			func(s *api.Skeen) { s.Done[i].Time-- },
			func(s *api.Skeen) { s.Done[i].Id-- },
		)
	}
	return l
}

// TestP151SameAsksAllFields changes one field of a clock, then two, so that others that may not be are asked too.
func TestP151SameAsksAllFields(t *testing.T) {
	all := changes()
	for i, turn := range all {
		a := turned(theClock(), turn)
		if skeen.Same(theClock(), a) || skeen.Same(a, theClock()) || !skeen.Same(a, a) || !skeen.Same(a, deepCopy(a)) || !skeen.Same(deepCopy(a), a) {
			t.Error(i, show(a))
		}
		for k, other := range all {
			b := turned(theClock(), other)
			if got := skeen.Same(a, b); got != (i == k) {
				t.Error(i, k, got)
			}
		}
	}
}

func TestP151SameOfAnyOnes(t *testing.T) {
	all := append(someClocks(), noClocks()...)
	for _, a := range all {
		for _, b := range all {
			if got := skeen.Same(a, b); got != same(a, b) {
				t.Errorf("Same(%s, %s) = %t", show(a), show(b), got)
			}
		}
	}
	empty := api.Skeen{Waits: []api.Wait{}, Done: []api.Stamp{}}
	if !skeen.Same(empty, api.Skeen{}) || !skeen.Same(api.Skeen{}, empty) {
		t.Error("a list without elements is nil or not")
	}
	none, some := api.Skeen{Waits: []api.Wait{{Message: api.Message{Groups: []int{}}}}}, api.Skeen{Waits: []api.Wait{{}}}
	if !skeen.Same(none, some) || !skeen.Same(some, none) || skeen.Same(none, api.Skeen{}) {
		t.Error("a message without groups")
	}
}

func TestP151TwinOfAnyOnes(t *testing.T) {
	for _, s := range append(someClocks(), noClocks()...) {
		before := deepCopy(s)
		got := skeen.Twin(s)
		if !same(got, s) || !same(s, before) {
			t.Errorf("Twin(%s) = %s", show(before), show(got))
		}
		if !skeen.Same(got, s) {
			t.Errorf("%s is not its twin", show(s))
		}
	}
	for i, turn := range changes() {
		if s := turned(theClock(), turn); !same(skeen.Twin(s), s) {
			t.Error(i, show(s))
		}
	}
}

// TestP152ErrorsInOrder has everything wrong at once, and then one thing less each time.
func TestP152ErrorsInOrder(t *testing.T) {
	full := clock(lastTime, waits(wait(5, 9)), 3, 8)
	for _, group := range []int{-1, -2, 4, 5, math.MinInt, 1 << 32, math.MaxInt} {
		for _, c := range append(noCommands(), api.Command{}, assign(6, 0), assign(6, 0, 1, 2, 3), final(5, 20)) {
			for _, s := range noClocks()[:20] {
				wantRefused(t, s, group, c, api.ErrBad)
			}
			for _, s := range []api.Skeen{{}, theClock(), full} {
				wantRefused(t, s, group, c, api.ErrArg)
			}
		}
	}
	for _, c := range noCommands() {
		for group := range 4 {
			wantRefused(t, api.Skeen{Clock: -1}, group, c, api.ErrBad)
			for _, s := range someClocks() {
				wantRefused(t, s, group, c, api.ErrKind)
			}
		}
	}
	for _, s := range noClocks() {
		wantRefused(t, s, 0, api.Command{}, api.ErrBad)
		wantRefused(t, s, 0, assign(6, 0), api.ErrBad)
		wantRefused(t, s, 0, final(5, 20), api.ErrBad)
	}
	wantRefused(t, full, 0, assign(6, 0), api.ErrFull)
}

func TestP152Groups(t *testing.T) {
	for group := -2; group < 6; group++ {
		want := api.OK
		if group < 0 || group > 3 {
			want = api.ErrArg
		}
		for _, c := range []api.Command{{}, final(5, 9), final(6, 9), assign(6, 0), assign(6, 0, 1, 2, 3)} {
			if _, _, e := wantBehind(t, theClock(), group, c); e != want {
				t.Error(group, e)
			}
		}
	}
}

// TestP152AssignGoesToItsGroupsAlone has messages to each group, and to all but each.
func TestP152AssignGoesToItsGroupsAlone(t *testing.T) {
	others := [][]int{{1, 2, 3}, {0, 2, 3}, {0, 1, 3}, {0, 1, 2}}
	for group := range 4 {
		for to := range 4 {
			for _, s := range []api.Skeen{{}, theClock(), longClock(9, 9)} {
				if own := assign(6, to); to == group {
					m := own.Message
					want := turned(s, func(s *api.Skeen) {
						s.Clock++
						at := 0
						for at < len(s.Waits) && s.Waits[at].Message.Id < 6 {
							at++
						}
						s.Waits = slices.Insert(s.Waits, at, api.Wait{Message: m, Time: s.Clock})
					})
					wantApply(t, s, group, own, want, nil, api.OK)
					wantNothing(t, s, group, assign(6, others[to]...))
				} else {
					wantNothing(t, s, group, own)
					wantBehind(t, s, group, assign(6, others[to]...))
				}
			}
		}
		wantBehind(t, theClock(), group, assign(6, 0, 1, 2, 3))
	}
}

// TestP152AssignStandsByItsId lets messages come in all orders: they wait by ids, with times by how they came.
func TestP152AssignStandsByItsId(t *testing.T) {
	for _, ids := range [][]int{{0, 1, 2, 3}, {3, 2, 1, 0}, {7, lastId, 0, 5}, {lastId, 0, lastId - 1, 1}, {5, 9, 7, 6}} {
		s := skeen.New()
		for i, id := range ids {
			next, l, e := skeen.Apply(s, 2, assign(id, 2, 3))
			if s = next; e != api.OK || len(l) > 0 || s.Clock != i+1 || len(s.Waits) != i+1 || len(s.Done) > 0 {
				t.Fatal(show(s), l, e)
			}
			for k, ahead := range ids[:i+1] {
				wantLocal(t, s, ahead, k+1, false, api.OK)
			}
		}
		for i, id := range slices.Sorted(slices.Values(ids)) {
			if !sameMessage(s.Waits[i].Message, message(id, 2, 3)) {
				t.Error(show(s))
			}
		}
	}
}

// TestP152AssignOnce has a message that waits, or is done, and others by its id.
func TestP152AssignOnce(t *testing.T) {
	other := message(5, 0, 1, 2, 3)
	other.Body, other.Key, other.Topic = "another one", "", 3
	for _, s := range []api.Skeen{theClock(), turned(theClock(), func(s *api.Skeen) { s.Clock = lastTime })} {
		for _, id := range []int{5, 7, 9, 8, 11, 2} {
			wantNothing(t, s, 0, assign(id, 0, 2))
			wantNothing(t, s, 2, assign(id, 0, 2))
			m := other
			m.Id = id
			wantNothing(t, s, 0, assignOf(m))
			wantNothing(t, s, 1, assignOf(m))
		}
	}
}

// TestP152AssignAtTheEnds has clocks at which there is no time left, and lists in which there is no room.
func TestP152AssignAtTheEnds(t *testing.T) {
	for _, now := range []int{0, 1, lastTime - 2, lastTime - 1} {
		wantApply(t, api.Skeen{Clock: now}, 0, assign(6, 0), api.Skeen{Clock: now + 1, Waits: waits(api.Wait{Message: message(6, 0), Time: now + 1})}, nil, api.OK)
	}
	end := clock(lastTime, waits(wait(5, lastTime), wait(9, 3)), 3, 8)
	wantRefused(t, api.Skeen{Clock: lastTime}, 0, assign(6, 0), api.ErrFull)
	wantRefused(t, end, 0, assign(6, 0), api.ErrFull)
	wantRefused(t, end, 3, assign(lastId, 0, 3), api.ErrFull)
	for _, c := range []api.Command{assign(6, 1), assign(5, 0), assign(9, 0), assign(8, 0), assign(6, 1, 2, 3)} {
		wantNothing(t, end, 0, c)
	}
	for _, done := range []int{0, 1, slots} {
		wantBehindOK(t, longClock(slots-1, done), assign(6, 0))
		full := longClock(slots, done)
		wantRefused(t, full, 0, assign(6, 0), api.ErrFull)
		wantRefused(t, full, 0, assign(lastId-1, 0), api.ErrFull)
		for _, c := range append(idle(), assign(6, 1), assign(1000, 0), assign(1000+7*(slots-1), 0), final(6, 900)) {
			wantNothing(t, full, 0, c)
		}
	}
	// What is done has no need of room where nothing is delivered.
	wantBehindOK(t, longClock(0, slots), assign(6, 0))
}

// wantBehindOK asks of a command that is well.
func wantBehindOK(t *testing.T, s api.Skeen, c api.Command) {
	t.Helper()
	if _, _, e := wantBehind(t, s, 0, c); e != api.OK {
		t.Error(show(s), showCommand(c), e)
	}
}

// TestP152FinalOfWhatDoesNotWait has ids that are nobody's, that are done, and that are final by now, whatever the time.
func TestP152FinalOfWhatDoesNotWait(t *testing.T) {
	for _, time := range []int{1, 2, 3, 8, 9, 11, 12, 13, 19, 20, 21, lastTime} {
		for _, id := range []int{0, 1, 3, 4, 6, 8, 10, 2, 11, 7, 1000, lastId} {
			wantNothing(t, theClock(), 0, final(id, time))
			wantNothing(t, api.Skeen{}, 0, final(id, time))
			wantNothing(t, api.Skeen{Clock: 20}, 0, final(id, time))
			wantNothing(t, longClock(0, slots), 0, final(id, time))
		}
	}
}

// TestP152FinalByItsTime has times below, at and above a message's own one, and above the clock.
func TestP152FinalByItsTime(t *testing.T) {
	s := clock(20, waits(wait(5, 9), wait(7, 6)), 3, 8)
	for _, time := range []int{1, 2, 3, 5, 6, 7, 8} {
		wantNothing(t, s, 0, final(5, time))
	}
	for _, time := range []int{9, 10, 15, 19, 20, 21, 22, 1 << 20, lastTime - 1, lastTime} {
		wantApply(t, s, 0, final(5, time), clock(max(time, 20), waits(last(5, time), wait(7, 6)), 3, 8), nil, api.OK)
		alone := clock(20, waits(wait(5, 9)), 3, 8)
		wantApply(t, alone, 3, final(5, time), clock(max(time, 20), nil, 3, 8, time, 5), []api.Message{message(5, 0, 2)}, api.OK)
	}
	wantRefused(t, s, 0, final(5, 0), api.ErrKind)
	wantRefused(t, s, 0, final(5, lastTime+1), api.ErrKind)
	end := clock(lastTime, waits(wait(5, lastTime)))
	wantNothing(t, end, 0, final(5, lastTime-1))
	wantApply(t, end, 0, final(5, lastTime), clock(lastTime, nil, lastTime, 5), []api.Message{message(5, 0, 2)}, api.OK)
}

// TestP152FinalAsksForNoGroup: what waits in a group is its own, though the tests' messages go to others.
func TestP152FinalAsksForNoGroup(t *testing.T) {
	for group := range 4 {
		s := clock(20, waits(wait(5, 9)))
		wantApply(t, s, group, final(5, 9), clock(20, nil, 9, 5), []api.Message{message(5, 0, 2)}, api.OK)
	}
}

// TestP152DeliversNoneOneAndMany has a CmdFinal of the least one, behind which others are final or not.
func TestP152DeliversNoneOneAndMany(t *testing.T) {
	of := func(ids ...int) (l []api.Message) {
		for _, id := range ids {
			l = append(l, message(id, 0, 2))
		}
		return l
	}
	s := clock(20, waits(wait(1, 4), last(2, 8), wait(3, 9), last(4, 6), last(5, 10), last(6, 9), last(7, 8)))
	wantApply(t, s, 0, final(3, 9), clock(20, waits(wait(1, 4), last(2, 8), last(3, 9), last(4, 6), last(5, 10), last(6, 9), last(7, 8))), nil, api.OK)
	for _, c := range []struct {
		time int
		want api.Skeen
		ids  []int
	}{
		{4, clock(20, waits(wait(3, 9), last(5, 10), last(6, 9)), 4, 1, 6, 4, 8, 2, 8, 7), []int{1, 4, 2, 7}},
		{6, clock(20, waits(wait(3, 9), last(5, 10), last(6, 9)), 6, 1, 6, 4, 8, 2, 8, 7), []int{1, 4, 2, 7}},
		{7, clock(20, waits(wait(3, 9), last(5, 10), last(6, 9)), 6, 4, 7, 1, 8, 2, 8, 7), []int{4, 1, 2, 7}},
		{8, clock(20, waits(wait(3, 9), last(5, 10), last(6, 9)), 6, 4, 8, 1, 8, 2, 8, 7), []int{4, 1, 2, 7}},
		{9, clock(20, waits(wait(3, 9), last(5, 10), last(6, 9)), 6, 4, 8, 2, 8, 7, 9, 1), []int{4, 2, 7, 1}},
		{10, clock(20, waits(last(1, 10), wait(3, 9), last(5, 10), last(6, 9)), 6, 4, 8, 2, 8, 7), []int{4, 2, 7}},
		{99, clock(99, waits(last(1, 99), wait(3, 9), last(5, 10), last(6, 9)), 6, 4, 8, 2, 8, 7), []int{4, 2, 7}},
	} {
		wantApply(t, s, 0, final(1, c.time), c.want, of(c.ids...), api.OK)
	}
	one := clock(20, waits(wait(1, 4), wait(2, 4), last(3, 4)))
	wantApply(t, one, 0, final(1, 4), clock(20, waits(wait(2, 4), last(3, 4)), 4, 1), of(1), api.OK)
	wantApply(t, one, 0, final(2, 4), clock(20, waits(wait(1, 4), last(2, 4), last(3, 4))), nil, api.OK)
	// The last of them may be ahead of what was least, when it is made final.
	wantApply(t, clock(20, waits(wait(2, 4), last(9, 19))), 0, final(2, 19), clock(20, nil, 19, 2, 19, 9), of(2, 9), api.OK)
	wantApply(t, clock(20, waits(last(2, 19), wait(9, 4))), 0, final(9, 19), clock(20, nil, 19, 2, 19, 9), of(2, 9), api.OK)
}

// TestP152DeliversAll has as many as may wait, all of which are final but the least.
func TestP152DeliversAll(t *testing.T) {
	for _, number := range []int{2, 3, 50, slots} {
		s := longClock(number, 0)
		var least api.Wait
		for i := range s.Waits {
			if s.Waits[i].Time == 1 {
				least = s.Waits[i]
			} else {
				s.Waits[i].Final = true
			}
		}
		for _, time := range []int{1, number / 2, number, number + 1, lastTime} {
			got, delivered, e := wantBehind(t, s, 0, final(least.Message.Id, max(time, 1)))
			if e != api.OK || len(delivered) != number || len(got.Done) != number || len(got.Waits) > 0 {
				t.Error(number, time, len(delivered), show(got), e)
			}
		}
	}
}

// TestP152NoMoreAreDoneThanMayBe has commands by which just as many would be done as may be, or one more.
func TestP152NoMoreAreDoneThanMayBe(t *testing.T) {
	for _, number := range []int{1, 2, 3, 50, slots} {
		for done := slots - number - 1; done <= slots; done++ {
			if done < 0 {
				continue
			}
			s := longClock(number, done)
			id := 0
			for i := range s.Waits {
				if s.Waits[i].Time == done+1 {
					id = s.Waits[i].Message.Id
				} else {
					s.Waits[i].Final = true
				}
			}
			_, _, e := wantBehind(t, s, 0, final(id, s.Clock+5))
			if full := done+number > slots; full != (e == api.ErrFull) {
				t.Error(number, done, e)
			}
			if done > 0 {
				wantNothing(t, s, 0, final(id, done))
			}
			wantNothing(t, s, 0, assign(6, 1))
		}
	}
	// Where what is made final is delivered not yet, there is room for it.
	s := clock(slots+9, waits(wait(5, slots+3), wait(9, slots+2)))
	s.Done = delivered(slots)
	wantApply(t, s, 0, final(5, slots+3), turned(s, func(s *api.Skeen) { s.Waits[0].Final = true }), nil, api.OK)
	wantRefused(t, s, 0, final(9, slots+2), api.ErrFull)
	wantBehindOK(t, s, final(9, slots+3))
	wantBehindOK(t, s, final(9, slots+4))
}

func TestP152KindsThatDoNothing(t *testing.T) {
	for _, s := range someClocks() {
		for _, c := range idle() {
			for group := range 4 {
				wantNothing(t, s, group, c)
			}
		}
	}
}

func TestP152LocalIsWhatWaits(t *testing.T) {
	for _, s := range someClocks() {
		for _, w := range s.Waits {
			wantLocal(t, s, w.Message.Id, w.Time, w.Final, api.OK)
		}
		for _, d := range s.Done {
			wantLocal(t, s, d.Id, 0, false, api.ErrNone)
		}
		for _, id := range []int{4, 10, 999, 1001, -1, lastId - 2, lastId + 1, math.MinInt, 1<<32 + 5, math.MaxInt} {
			wantLocal(t, s, id, 0, false, api.ErrNone)
		}
	}
	wantLocal(t, theClock(), 5, 9, false, api.OK)
	wantLocal(t, theClock(), 7, 12, true, api.OK)
	wantLocal(t, theClock(), 8, 0, false, api.ErrNone)
}

func TestP152LocalOfWhatMayNotBe(t *testing.T) {
	for _, s := range noClocks() {
		for _, id := range []int{5, 7, 9, 8, 1000, 4, -1, math.MinInt, math.MaxInt} {
			wantLocal(t, s, id, 0, false, api.ErrBad)
		}
	}
}
