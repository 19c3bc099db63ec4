package order_test

import (
	"fmt"
	"math"
	"slices"
	"testing"

	"towncrier/api"
	"towncrier/command"
	"towncrier/order"
)

// wantPlay and those below ask for t.Helper only where something is wrong: that takes longer than what is asked.
func wantPlay(t *testing.T, group int, l []api.Command, want api.Skeen, delivered []api.Message) {
	got, m, e := order.Play(group, textsOf(l))
	if e != api.OK || !same(got, want) || !sameMessages(m, delivered) {
		t.Helper()
		t.Errorf("Play(%d, %s) = %s, %v, %d; want %s, %v", group, show(l), showClock(got), idsOf(m), e, showClock(want), idsOf(delivered))
	}
}

func wantLocal(t *testing.T, group int, l []api.Command, want []api.Stamp) {
	got, e := order.Local(group, textsOf(l))
	if e != api.OK || !slices.Equal(got, want) {
		t.Helper()
		t.Errorf("Local(%d, %s) = %v, %d; want %v", group, show(l), got, e, want)
	}
}

// wantPlayed asks both of a log that may be what the words tell.
func wantPlayed(t *testing.T, group int, l []api.Command) played {
	p := playedBy(group, l)
	got, m, e := order.Play(group, textsOf(l))
	at, also := order.Local(group, textsOf(l))
	if e != api.OK || also != api.OK || !same(got, p.skeen()) || !sameMessages(m, p.delivered) || !slices.Equal(at, p.locals()) {
		t.Helper()
		t.Errorf("%d, %s: Play is %s, %v, %d, Local %v, %d; want %s, %v, %v", group, show(l), showClock(got), idsOf(m), e, at, also, showClock(p.skeen()), idsOf(p.delivered), p.locals())
	}
	return p
}

// wantNoPlay asks both of what is refused: all other results are zero.
func wantNoPlay(t *testing.T, group int, l []string, want api.Errno) {
	s, m, e := order.Play(group, l)
	at, also := order.Local(group, l)
	if e != want || also != want || !same(s, api.Skeen{}) || len(m) > 0 || len(at) > 0 {
		t.Helper()
		t.Errorf("%d, %s: Play is %s, %v, %d, Local %v, %d; want %d", group, brief([][]string{l}), showClock(s), idsOf(m), e, at, also, want)
	}
}

func wantFinal(t *testing.T, logs [][]api.Command, m api.Message, wantTime int, want bool) {
	time, is, e := order.Final(allTexts(logs), m)
	if time != wantTime || is != want || e != api.OK {
		t.Helper()
		t.Errorf("Final(%s, %d %v) = %d, %t, %d; want %d, %t", showAll(logs), m.Id, m.Groups, time, is, e, wantTime, want)
	}
}

func wantNoFinal(t *testing.T, logs [][]string, m api.Message, want api.Errno) {
	if time, is, e := order.Final(logs, m); time != 0 || is || e != want {
		t.Helper()
		t.Errorf("Final(%s, %d) = %d, %t, %d; want %d", brief(logs), m.Id, time, is, e, want)
	}
}

func wantHonest(t *testing.T, logs [][]api.Command, want bool) {
	if is, e := order.Honest(allTexts(logs)); is != want || e != api.OK {
		t.Helper()
		t.Errorf("Honest(%s) = %t, %d; want %t", showAll(logs), is, e, want)
	}
}

func wantNotHonest(t *testing.T, logs [][]string, want api.Errno) {
	if is, e := order.Honest(logs); is || e != want {
		t.Helper()
		t.Errorf("Honest(%s) = %t, %d; want %d", brief(logs), is, e, want)
	}
}

// wantAsWords asks Honest of logs, and Final of each of some messages.
func wantAsWords(t *testing.T, logs [][]api.Command, messages ...api.Message) bool {
	all := playedAll(logs)
	for _, m := range messages {
		time, is := finalOf(all, m)
		if !is {
			time = 0
		}
		wantFinal(t, logs, m, time, is)
	}
	honest := areHonest(all)
	wantHonest(t, logs, honest)
	return honest
}

// wantAgree asks it both ways.
func wantAgree(t *testing.T, a, b []api.Stamp, want bool) {
	if order.Agree(a, b) != want || order.Agree(b, a) != want {
		t.Helper()
		t.Errorf("Agree(%v, %v) = %t, the other way %t; want %t", a, b, order.Agree(a, b), order.Agree(b, a), want)
	}
}

func TestChapterExamples(t *testing.T) {
	m, n := message(1, 0, 1), message(2, 1)
	both := example()
	wantLocal(t, 1, both[1], stamps(1, 2, 2, 1))
	wantFinal(t, both, m, 2, true)
	wantHonest(t, both, true)
	wantPlay(t, 0, both[0], api.Skeen{Clock: 2, Done: stamps(2, 1)}, []api.Message{m})
	wantPlay(t, 1, both[1], api.Skeen{Clock: 2, Done: stamps(1, 2, 2, 1)}, []api.Message{n, m})
	wantAgree(t, stamps(2, 1), stamps(1, 2, 2, 1), true)
	wantHonest(t, logs(way(assign(1, 0, 1), final(1, 3)), both[1]), false)
	wantFinal(t, logs(both[0]), m, 0, false)
}

// ExampleHonest shows two groups that gave one message two times: the greater one is its last.
func ExampleHonest() {
	text := func(c api.Command) string {
		s, _ := command.Write(c)
		return s
	}
	m := api.Message{Id: 1, Groups: []int{0, 1}, Body: "hear ye"}
	n := api.Message{Id: 2, Groups: []int{1}, Body: "oyez"}
	saysM, saysN := text(api.Command{Kind: api.CmdAssign, Message: m}), text(api.Command{Kind: api.CmdAssign, Message: n})
	lastOfM, lastOfN := text(api.Command{Kind: api.CmdFinal, Id: 1, Time: 2}), text(api.Command{Kind: api.CmdFinal, Id: 2, Time: 1})
	logs := [][]string{{saysM, lastOfM}, {saysN, saysM, lastOfN, lastOfM}}
	time, is, _ := order.Final(logs, m)
	fmt.Println(time, is)
	fmt.Println(order.Honest(logs))
	a, _, _ := order.Play(0, logs[0])
	b, _, _ := order.Play(1, logs[1])
	fmt.Println(a.Done, b.Done, order.Agree(a.Done, b.Done))
	// Output:
	// 2 true
	// true towncrier: well
	// [{2 1}] [{1 2} {2 1}] true
}

// TestTheWordsOnceMore holds the tests' own words against what the chapter says.
func TestTheWordsOnceMore(t *testing.T) {
	for i, l := range honestLogs() {
		if !areHonest(playedAll(l)) {
			t.Error(i, showAll(l))
		}
	}
	for i, l := range noHonestLogs() {
		if areHonest(playedAll(l)) {
			t.Error(i, showAll(l))
		}
	}
	for _, l := range append(honestLogs(), noHonestLogs()...) {
		for group := range l {
			for _, c := range l[group] {
				if s, e := command.Write(c); s != textOf(c) || e != api.OK {
					t.Error(show(way(c)), e)
				}
			}
		}
	}
	if p := playedBy(0, way(assign(5, 0), assign(9, 0), final(9, 7), final(5, 3), assign(5, 0), final(5, 9), assign(11, 1))); !slices.Equal(p.done, stamps(3, 5, 7, 9)) || p.clock != 7 || len(p.waits) > 0 || len(p.finals) != 2 {
		t.Error(showClock(p.skeen()))
	}
}

func TestP161PlayAndLocalOfGroups(t *testing.T) {
	for _, l := range [][]api.Command{nil, example()[0], example()[1], nops(slots), fullWay(2)} {
		for group := -3; group < 7; group++ {
			if group >= 0 && group <= 3 {
				wantPlayed(t, group, l)
			} else {
				wantNoPlay(t, group, textsOf(l), api.ErrArg)
			}
		}
		for _, group := range []int{math.MinInt, math.MinInt32, 1 << 32, 1<<32 + 1, math.MaxInt} {
			wantNoPlay(t, group, textsOf(l), api.ErrArg)
		}
	}
}

// TestP161ErrorsInOrder has a group and a log that may not be, then the log alone.
func TestP161ErrorsInOrder(t *testing.T) {
	for _, l := range noLogs() {
		for _, group := range []int{-1, 4, math.MinInt, math.MaxInt} {
			wantNoPlay(t, group, l.log, api.ErrArg)
		}
		for group := range 4 {
			wantNoPlay(t, group, l.log, l.e)
		}
	}
}

func TestP161PlayOfNothing(t *testing.T) {
	for group := range 4 {
		for _, l := range [][]api.Command{nil, {}, nops(1), nops(slots), idle(), way(final(1, 1), final(lastId, lastTime)), way(assign(1, (group+1)%4))} {
			wantPlay(t, group, l, api.Skeen{}, nil)
			wantLocal(t, group, l, nil)
		}
	}
	if s, m, e := order.Play(3, nil); e != api.OK || !same(s, api.Skeen{}) || len(m) > 0 {
		t.Error(showClock(s), m, e)
	}
}

// TestP161AssignsThatDoNothing has a message to others, one that waits, and one that is done, as it was and as another one.
func TestP161AssignsThatDoNothing(t *testing.T) {
	m := message(1, 0, 1)
	for _, other := range append(others(), m) {
		waiting := way(assignOf(m), assignOf(other), assign(2, 0))
		wantPlay(t, 0, waiting, api.Skeen{Clock: 2, Waits: []api.Wait{{Message: m, Time: 1}, {Message: message(2, 0), Time: 2}}}, nil)
		wantLocal(t, 0, waiting, stamps(1, 1, 2, 2))
		done := way(assignOf(m), final(1, 4), assignOf(other), assign(2, 0), assignOf(other))
		wantPlay(t, 0, done, api.Skeen{Clock: 5, Waits: []api.Wait{{Message: message(2, 0), Time: 5}}, Done: stamps(4, 1)}, []api.Message{m})
		wantLocal(t, 0, done, stamps(1, 1, 5, 2))
	}
	for group := range 4 {
		for to := range 4 {
			l := way(assign(3, to), assign(1, to), assign(2, 0, 1, 2, 3))
			if to == group {
				wantLocal(t, group, l, stamps(1, 3, 2, 1, 3, 2))
			} else {
				wantLocal(t, group, l, stamps(1, 2))
			}
			wantPlayed(t, group, l)
		}
	}
}

// TestP161FinalsByTheirTimes has a CmdFinal of what does not wait, of what is final by now, and below, at and above a message's own time.
func TestP161FinalsByTheirTimes(t *testing.T) {
	front := way(assign(8, 0), final(8, 5), assign(1, 0), assign(2, 0), assign(3, 0), final(3, 8), final(2, 20)) // 1 waits at 6, 2 and 3 are final, 8 is done
	waits := func(one api.Wait) []api.Wait {
		return []api.Wait{one, {Message: message(2, 0), Time: 20, Final: true}, {Message: message(3, 0), Time: 8, Final: true}}
	}
	still := api.Skeen{Clock: 20, Waits: waits(api.Wait{Message: message(1, 0), Time: 6}), Done: stamps(5, 8)}
	for _, c := range append(idle(), final(1, 1), final(1, 5), final(2, 7), final(2, 20), final(2, 21), final(3, 8), final(3, 9), final(8, 5), final(8, 9), final(7, 9), final(lastId, lastTime), assign(1, 0), assign(7, 1)) {
		wantPlay(t, 0, append(slices.Clone(front), c), still, []api.Message{message(8, 0)})
		wantLocal(t, 0, append(slices.Clone(front), c), stamps(1, 8, 6, 1, 7, 2, 8, 3))
	}
	of := func(ids ...int) (l []api.Message) {
		for _, id := range ids {
			l = append(l, message(id, 0))
		}
		return l
	}
	for _, c := range []struct {
		time, clock int
		done        []api.Stamp
		ids         []int
	}{
		{6, 20, stamps(5, 8, 6, 1, 8, 3, 20, 2), []int{8, 1, 3, 2}}, {7, 20, stamps(5, 8, 7, 1, 8, 3, 20, 2), []int{8, 1, 3, 2}},
		{8, 20, stamps(5, 8, 8, 1, 8, 3, 20, 2), []int{8, 1, 3, 2}}, {9, 20, stamps(5, 8, 8, 3, 9, 1, 20, 2), []int{8, 3, 1, 2}},
		{20, 20, stamps(5, 8, 8, 3, 20, 1, 20, 2), []int{8, 3, 1, 2}}, {21, 21, stamps(5, 8, 8, 3, 20, 2, 21, 1), []int{8, 3, 2, 1}},
		{lastTime, lastTime, stamps(5, 8, 8, 3, 20, 2, lastTime, 1), []int{8, 3, 2, 1}},
	} {
		l := append(slices.Clone(front), final(1, c.time))
		wantPlay(t, 0, l, api.Skeen{Clock: c.clock, Done: c.done}, of(c.ids...))
		wantLocal(t, 0, l, stamps(1, 8, 6, 1, 7, 2, 8, 3))
	}
}

// TestP161LocalIsTheFirstTime: neither a last time nor being delivered changes it, and ids do not order it.
func TestP161LocalIsTheFirstTime(t *testing.T) {
	l := way(assign(9, 0), assign(5, 0), final(5, 7), assign(7, 0), final(9, 3), assign(0, 0, 3), final(7, 8), final(0, lastTime))
	wantLocal(t, 0, l, stamps(1, 9, 2, 5, 8, 7, 9, 0))
	for k := range len(l) + 1 {
		wantPlayed(t, 0, l[:k])
	}
}

// TestP161WhatIsRefusedDoesNothing has a clock that has come to the last time: what is assigned then is refused, and all else goes on.
func TestP161WhatIsRefusedDoesNothing(t *testing.T) {
	l := way(assign(1, 0), assign(2, 0), final(2, lastTime), assign(3, 0), assign(4, 0, 1), final(3, lastTime), assign(5, 1), assign(1, 0), final(1, 9), assign(3, 0), final(1, 10))
	wantPlay(t, 0, l, api.Skeen{Clock: lastTime, Done: stamps(9, 1, lastTime, 2)}, []api.Message{message(1, 0), message(2, 0)})
	wantLocal(t, 0, l, stamps(1, 1, 2, 2))
	wantPlay(t, 0, l[:8], api.Skeen{Clock: lastTime, Waits: []api.Wait{{Message: message(1, 0), Time: 1}, {Message: message(2, 0), Time: lastTime, Final: true}}}, nil)
	// One time is left.
	late := way(assign(1, 0), final(1, lastTime-1), assign(2, 0), assign(3, 0), final(2, lastTime))
	wantPlay(t, 0, late, api.Skeen{Clock: lastTime, Done: stamps(lastTime-1, 1, lastTime, 2)}, []api.Message{message(1, 0), message(2, 0)})
	wantLocal(t, 0, late, stamps(1, 1, lastTime, 2))
	// What was refused was given no time.
	wantFinal(t, logs(l), message(1, 0), 1, true)
	wantFinal(t, logs(l), message(3, 0), 0, false)
	wantFinal(t, logs(l, way(assign(4, 0, 1))), message(4, 0, 1), 0, false)
}

func TestP161PlayOfLongLogs(t *testing.T) {
	var all []api.Command
	for id := range slots {
		all = append(all, assign(id*7919%slots, 1, 2))
	}
	back := slices.Clone(all[:slots/2])
	for i := range slots / 2 {
		back = append(back, final(all[slots/2-1-i].Message.Id, slots))
	}
	for _, l := range [][]api.Command{all, back, fullWay(1), append(nops(slots-2), assign(1, 1), final(1, 1)), append(fullWay(1)[:slots-3], assign(5, 1), assign(6, 1), final(6, 900))} {
		p := wantPlayed(t, 1, l)
		if len(l) != slots || len(p.begun) == 0 {
			t.Error(len(l), len(p.begun))
		}
	}
	if p := playedBy(1, back); len(p.delivered) != slots/2 {
		t.Error(len(p.delivered))
	}
}

// greatestIn are four logs that give the message 1 to groups a time: in one of these it is 10, in the others less; a group to which it does not go has no say.
func greatestIn(last int, groups []int) (l [][]api.Command) {
	for group := range 4 {
		ahead := 3 + group%2
		switch {
		case group == last:
			ahead = 9
		case !slices.Contains(groups, group):
			ahead = 20
		}
		var own []api.Command
		for i := range ahead {
			own = append(own, assign(1000*group+100+i, group))
		}
		l = append(l, append(own, assign(1, groups...)))
	}
	return l
}

// TestP162FinalIsTheGreatestTime has it in the first, in the last, in each of a message's groups.
func TestP162FinalIsTheGreatestTime(t *testing.T) {
	for _, groups := range [][]int{{0}, {3}, {0, 1}, {1, 3}, {0, 2, 3}, {0, 1, 2}, {0, 1, 2, 3}} {
		m := message(1, groups...)
		for _, last := range groups {
			l := greatestIn(last, groups)
			wantFinal(t, l, m, 10, true)
			wantAsWords(t, l, m)
			wantFinal(t, l[:groups[len(groups)-1]+1], m, 10, true)
			// Without one of the logs there is none.
			for _, group := range groups {
				wantFinal(t, l[:group], m, 0, false)
				without := slices.Clone(l)
				without[group] = without[group][:len(without[group])-1]
				wantFinal(t, without, m, 0, false)
				without[group] = nil
				wantFinal(t, without, m, 0, false)
			}
		}
	}
}

// TestP162FinalOfWhatIsFinalOrDone: neither changes its time, be its last one the right one or not.
func TestP162FinalOfWhatIsFinalOrDone(t *testing.T) {
	groups := []int{0, 2, 3}
	m := message(1, groups...)
	for _, last := range groups {
		l := greatestIn(last, groups)
		l[last] = append(l[last], final(1, 10))
		wantFinal(t, l, m, 10, true)
		wantHonest(t, l, true)
		for i, c := range l[last][:9] {
			l[last] = append(l[last], final(c.Message.Id, i+1))
		}
		if p := playedBy(last, l[last]); !hasId(p.done, 1) {
			t.Fatal(show(l[last]))
		}
		wantFinal(t, l, m, 10, true)
		wantHonest(t, l, true)
		for _, group := range groups {
			l[group] = append(l[group], final(1, 77))
			wantFinal(t, l, m, 10, true)
			wantAsWords(t, l, m)
		}
		wantHonest(t, l, false)
	}
}

// TestP162FinalOfWhatAGroupHasNoTimeOf has no logs, logs without it, and logs in which it is not to be.
func TestP162FinalOfWhatAGroupHasNoTimeOf(t *testing.T) {
	m := message(1, 0, 1)
	said := way(assign(1, 0, 1))
	for _, l := range [][][]api.Command{
		nil, {}, logs(nil), logs(nil, nil), logs(nil, nil, nil, nil), logs(said), logs(said, nil), logs(nil, said), logs(nil, nil, said, said), logs(said, nil, said, said),
		logs(said, way(assign(2, 1))), logs(said, way(final(1, 5))), logs(said, idle()), logs(said, way(assign(1, 0))), logs(said, way(assign(3, 0, 1), final(3, 1))),
	} {
		wantFinal(t, l, m, 0, false)
		wantAsWords(t, l, m)
	}
	wantFinal(t, logs(said, said), m, 1, true)
	wantFinal(t, logs(said, said, nil, nil), m, 1, true)
	wantFinal(t, logs(said, said, said, said), m, 1, true)
	for group := range 4 {
		own := message(7, group)
		l := logs(nil, nil, nil, nil)
		l[group] = way(assign(3, group), assignOf(own))
		wantFinal(t, l, own, 2, true)
		wantFinal(t, l[:group], own, 0, false)
		wantFinal(t, l[:group+1], own, 2, true)
	}
	all := way(assign(1, 0, 1, 2, 3))
	wantFinal(t, logs(all, all, all, all), message(1, 0, 1, 2, 3), 1, true)
	wantFinal(t, logs(all, all, all), message(1, 0, 1, 2, 3), 0, false)
}

// TestP162FinalOfAnotherMessage has, of one id, another one in the first log, in the last one, in both.
func TestP162FinalOfAnotherMessage(t *testing.T) {
	m := message(1, 0, 1)
	own := way(assign(2, 0, 1), assignOf(m))
	for i, other := range others() {
		otherWay := way(assignOf(other), assignOf(m)) // what comes behind it is given no time
		for _, l := range [][][]api.Command{logs(own, otherWay), logs(otherWay, own), logs(otherWay, otherWay), logs(own, otherWay, own, own)} {
			wantFinal(t, l, m, 0, false)
			wantAsWords(t, l, m, other)
		}
		wantFinal(t, logs(own, own), other, 0, false)
		// Where both have the other one, and it goes to these two, it is that one that has a time.
		if two := slices.Equal(other.Groups, m.Groups); two {
			wantFinal(t, logs(otherWay, otherWay), other, 1, true)
		}
		// Another one in a log of a group to which it does not go changes nothing.
		away := other
		away.Groups = []int{2, 3}
		wantFinal(t, logs(own, own, way(assignOf(away)), way(assignOf(away))), m, 2, true)
		// Nor does another one that comes behind it.
		wantFinal(t, logs(append(own[:2:2], assignOf(other)), own), m, 2, true)
		if t.Failed() {
			t.Fatal(i)
		}
	}
	wantFinal(t, logs(way(assign(1, 0)), way(assign(1, 1))), m, 0, false)
	wantFinal(t, logs(way(assign(1, 0)), way(assign(1, 1))), message(1, 0), 1, true)
	wantFinal(t, logs(way(assign(1, 0)), way(assign(1, 1))), message(1, 1), 1, true)
}

// TestP162FinalOfMessagesOfAnyKind has ids, topics, keys and bodies at their ends.
func TestP162FinalOfMessagesOfAnyKind(t *testing.T) {
	for _, id := range []int{0, 1, 127, 128, 1 << 20, lastId - 1, lastId} {
		m := message(id, 1, 2)
		m.Key, m.Body, m.Topic = "sixteen bytes \x00\xff", string(make([]byte, 64)), 3
		wantFinal(t, logs(nil, way(assignOf(m)), way(assign(id^1, 2), assignOf(m))), m, 2, true)
		less := m
		less.Body = less.Body[1:]
		wantFinal(t, logs(nil, way(assignOf(m)), way(assign(id^1, 2), assignOf(m))), less, 0, false)
	}
}

func TestP162Honest(t *testing.T) {
	for _, l := range honestLogs() {
		wantHonest(t, l, true)
	}
	for _, l := range noHonestLogs() {
		wantHonest(t, l, false)
	}
}

// TestP162HonestAtEachPlace spoils honest logs by one message or one time, in each of their commands.
func TestP162HonestAtEachPlace(t *testing.T) {
	honest, not := 0, 0
	for _, l := range honestLogs() {
		for group := range l {
			for i, c := range l[group] {
				if len(l[group]) == slots && i%37 > 1 {
					continue
				}
				turned := slices.Clone(l)
				turned[group] = slices.Clone(l[group])
				switch c.Kind {
				case api.CmdAssign:
					c.Message.Body += "!"
				case api.CmdFinal:
					c.Time++
				}
				turned[group][i] = c
				if wantAsWords(t, turned) {
					honest++
				} else {
					not++
				}
				turned[group] = slices.Delete(slices.Clone(l[group]), i, i+1)
				wantAsWords(t, turned)
			}
		}
	}
	if honest < 20 || not < 20 {
		t.Error(honest, not)
	}
}

// TestP162HonestAsksFinalsThatDoSomething has finals of another time, of which each but the last ones does nothing.
func TestP162HonestAsksFinalsThatDoSomething(t *testing.T) {
	other := way(assign(5, 1), assign(6, 1), assign(1, 0, 1)) // 1 has the time 3 there
	ahead := way(assign(4, 0), assign(1, 0, 1))               // and 2 here
	for _, c := range []struct {
		more   []api.Command
		honest bool
	}{
		{nil, true}, {way(final(1, 3)), true}, {way(final(1, 3), final(1, 4)), true}, {way(final(1, 3), final(1, 3)), true}, {way(final(1, 3), final(1, 2)), true},
		{way(final(1, 1)), true}, {way(final(1, 1), final(1, 3)), true}, {way(final(4, 1), final(1, 3), final(1, lastTime)), true}, {way(final(9, 7), final(1, 3)), true},
		{way(final(1, 2)), false}, {way(final(1, 4)), false}, {way(final(1, lastTime)), false}, {way(final(1, 2), final(1, 3)), false}, {way(final(1, 4), final(1, 3)), false},
		{way(final(1, 1), final(1, 2)), false}, {way(final(4, 1), final(1, 3)), true}, {way(final(4, 2), final(1, 3)), false}, {way(final(1, 3), final(4, 3)), false}, {way(final(1, 3), final(4, 1), final(4, 3)), true},
	} {
		l := logs(append(slices.Clone(ahead), c.more...), other)
		wantHonest(t, l, c.honest)
		wantAsWords(t, l, message(1, 0, 1), message(4, 0))
	}
	// A final stands ahead of what it is the final of: it does nothing.
	wantHonest(t, logs(append(way(final(1, 9)), ahead...), other), true)
}

// TestP162HonestAsksAllPairsOfGroups has two messages of one id in any two logs, that both go there, or one each.
func TestP162HonestAsksAllPairsOfGroups(t *testing.T) {
	for a := range 4 {
		for b := range 4 {
			if a == b {
				continue
			}
			l := logs(nil, nil, nil, nil)
			l[a] = way(assign(3, 0, 1, 2, 3), assign(1, a))
			l[b] = way(assign(1, b), assign(3, 0, 1, 2, 3))
			wantHonest(t, l, false)
			m := message(1, 0, 1, 2, 3)
			l[a], l[b] = way(assign(3, a), assignOf(m)), way(assignOf(m))
			wantHonest(t, l, true)
			m.Key = "another one"
			l[b] = way(assignOf(m))
			wantHonest(t, l, false)
		}
	}
}

// TestP162ErrorsInOrder has too many logs, logs that may not be, and a message that may not be, all at once, and then one thing less each time.
func TestP162ErrorsInOrder(t *testing.T) {
	good := textsOf(example()[0])
	m := message(1, 0, 1)
	bad := noMessages()
	for _, l := range noLogs() {
		for _, number := range []int{5, 6, 1000} {
			many := make([][]string, number)
			wantNotHonest(t, many, api.ErrMany)
			for at := range many {
				many[at] = good
			}
			wantNoFinal(t, many, m, api.ErrMany)
			many[0] = l.log
			wantNotHonest(t, many, api.ErrMany)
			wantNoFinal(t, many, m, api.ErrMany)
			wantNoFinal(t, many, bad[0], api.ErrMany)
		}
		for number := 1; number <= 4; number++ {
			for at := range number {
				some := slices.Repeat([][]string{good}, number)
				some[at] = l.log
				wantNotHonest(t, some, l.e)
				wantNoFinal(t, some, m, l.e)
				wantNoFinal(t, some, bad[at], l.e)
			}
		}
	}
	for _, l := range noLogs() {
		long, wrong := textsOf(nops(slots+1)), []string{"what"}
		wantNotHonest(t, [][]string{good, l.log, long}, l.e)
		wantNotHonest(t, [][]string{nil, l.log, wrong, good}, l.e)
		wantNoFinal(t, [][]string{l.log, long}, m, l.e)
		wantNoFinal(t, [][]string{l.log, wrong}, m, l.e)
		wantNotHonest(t, [][]string{long, l.log}, api.ErrMany)
		wantNotHonest(t, [][]string{wrong, l.log}, api.ErrBad)
		wantNoFinal(t, [][]string{long, l.log}, bad[0], api.ErrMany)
		wantNoFinal(t, [][]string{good, wrong, l.log}, bad[0], api.ErrBad)
		// A log of a group to which it does not go is asked too.
		wantNoFinal(t, [][]string{good, good, good, l.log}, m, l.e)
	}
	for _, wrong := range bad {
		for _, l := range [][][]string{nil, {}, {good}, {good, good, good, good}, make([][]string, 4)} {
			wantNoFinal(t, l, wrong, api.ErrBad)
		}
		wantNoFinal(t, [][]string{textsOf(nops(slots + 1))}, wrong, api.ErrMany)
	}
}

// TestP162HowManyLogs has none, up to as many as there are groups, and one more.
func TestP162HowManyLogs(t *testing.T) {
	for number := range 8 {
		l := make([][]string, number)
		if number > 4 {
			wantNotHonest(t, l, api.ErrMany)
			wantNoFinal(t, l, message(1, 0), api.ErrMany)
			continue
		}
		if is, e := order.Honest(l); !is || e != api.OK {
			t.Error(number, is, e)
		}
		wantNoFinal(t, l, message(1, 0), api.OK)
	}
}

func TestP163Agree(t *testing.T) {
	long := stamps(1, 5, 2, 4, 2, 6, 3, 1, 7, 9)
	for _, c := range []struct {
		a, b []api.Stamp
		want bool
	}{
		{nil, nil, true}, {nil, []api.Stamp{}, true}, {nil, long, true}, {[]api.Stamp{}, long, true},
		{stamps(1, 1), stamps(1, 2), true}, {stamps(1, 1, 2, 3), stamps(2, 2, 1, 4), true}, // no id in common
		{stamps(1, 1), stamps(1, 1), true}, {long, long, true}, {long, long[:3], true}, {long, long[:1], true}, // the same; one begins the other
		{long, long[2:], true}, {long, stamps(2, 6), true}, {long[:3], long[2:], true}, // what both have is the same
		{stamps(1, 1), stamps(2, 1), false}, {stamps(1, 1), stamps(1<<32+1, 1), false}, // of one id two times
		{long, stamps(1, 5, 2, 4, 2, 6, 3, 1, 8, 9), false}, {long, stamps(2, 5, 2, 4, 2, 6, 3, 1, 7, 9), false}, {long, stamps(8, 9), false}, // they differ at their last one, at their first one
		{long, stamps(1, 5, 2, 6, 2, 4, 3, 1), false}, {stamps(1, 1, 2, 2), stamps(2, 2, 1, 1), false}, {long, stamps(7, 9, 1, 5), false}, // in another order
		{long, stamps(1, 8, 1, 5, 2, 7, 2, 4, 9, 3), true}, {stamps(1, 1, 3, 3, 4, 4), stamps(1, 1, 2, 2, 4, 4), true}, // with others between
		{stamps(1, 1, 3, 3, 4, 4), stamps(1, 1, 2, 2, 5, 4), false}, {stamps(3, 3, 1, 1), stamps(2, 2, 4, 4, 2, 1), false},
		{stamps(1, 1, 1, 1), stamps(1, 1), true}, {stamps(1, 1, 2, 1), stamps(1, 1), true}, {stamps(2, 1, 1, 1), stamps(1, 1), false}, // ids twice
		{stamps(1, 1, 2, 1), stamps(1, 1, 2, 1, 3, 1), true}, {stamps(1, 1, 2, 1, 3, 2), stamps(1, 1, 3, 2), false}, {stamps(1, 1, 3, 2, 2, 1), stamps(1, 1, 3, 2), true}, {stamps(1, 1, 2, 1), stamps(1, 1, 3, 1), false},
		{stamps(0, -1, -5, 3), stamps(0, -1), true}, {stamps(0, -1, -5, 3), stamps(-5, 3, 0, -1), false}, {stamps(math.MinInt, math.MaxInt), stamps(math.MinInt, math.MaxInt), true}, {stamps(math.MinInt, math.MaxInt), stamps(math.MaxInt, math.MaxInt), false}, // what may not be
		{stamps(0, 0), stamps(0, 0), true}, {stamps(0, 0), stamps(1, 0), false}, {stamps(5, 0), stamps(5, 1), true},
	} {
		wantAgree(t, c.a, c.b, c.want)
		if agree(c.a, c.b) != c.want {
			t.Error(c.a, c.b)
		}
	}
}

// TestP163AgreeAtEachPlace changes one stamp of an order: only what the other one has too counts, unless it stands behind all of that.
func TestP163AgreeAtEachPlace(t *testing.T) {
	var long []api.Stamp
	for i := range slots {
		long = append(long, api.Stamp{Time: i + 1, Id: i * 7919 % slots})
	}
	for i := range long {
		later := slices.Clone(long)
		later[i].Time++
		wantAgree(t, long, later, false)
		wantAgree(t, long[:i], later, true)
		wantAgree(t, long[:i+1], later, false)
		wantAgree(t, long[i+1:], later, true)
		other := slices.Clone(long)
		other[i].Id = slots
		wantAgree(t, long, other, true)
		without := slices.Delete(slices.Clone(long), i, i+1)
		wantAgree(t, long, without, true)
		if i > 0 {
			turned := slices.Clone(long)
			turned[i-1], turned[i] = turned[i], turned[i-1]
			wantAgree(t, long, turned, false)
			wantAgree(t, long[:i], turned, true)
			wantAgree(t, long[i:], turned, true)
		}
	}
}

// shortOrders are all lists of up to three stamps, the times and ids from 1 to 2.
func shortOrders() [][]api.Stamp {
	l := [][]api.Stamp{nil}
	from := 0
	for range 3 {
		till := len(l)
		for _, ahead := range l[from:till] {
			for _, s := range stamps(1, 1, 1, 2, 2, 1, 2, 2, 1, 3) {
				l = append(l, append(slices.Clone(ahead), s))
			}
		}
		from = till
	}
	return l
}

func TestP163AllShortOrders(t *testing.T) {
	all := shortOrders()
	some := 0
	for _, a := range all {
		for _, b := range all {
			if got := order.Agree(a, b); got != agree(a, b) {
				t.Fatalf("Agree(%v, %v) = %t", a, b, got)
			} else if got {
				some++
			}
		}
	}
	if len(all) != 156 || some < 3000 || some > len(all)*len(all)-3000 {
		t.Error(len(all), some)
	}
}
