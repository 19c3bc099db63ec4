package skeen_test

import (
	"math"
	"reflect"
	"runtime"
	"slices"
	"sort"
	"testing"

	"towncrier/api"
	"towncrier/skeen"
)

// roomy is a list in memory of its own that has room behind it, with something in it.
func roomy[T any](l []T, room ...T) []T {
	return append(append(make([]T, 0, len(l)+len(room)), l...), room...)[:len(l)]
}

// whole is a list with what stands behind it, in memory of its own.
func whole[T any](l []T) []T { return slices.Clone(l[:cap(l)]) }

// handed is a clock in memory of its own, in lists with room behind them. What stands in the room would change each answer.
func handed(s api.Skeen) api.Skeen {
	s = deepCopy(s)
	for i := range s.Waits {
		s.Waits[i].Message.Groups = handedMessage(s.Waits[i].Message).Groups
	}
	s.Waits = roomy(s.Waits, handedWait(last(0, 1)), handedWait(wait(lastId, 5)), api.Wait{Time: -7})
	s.Done = roomy(s.Done, stamps(1, 7, lastTime, lastId, -7, -7)...)
	return s
}

func handedWait(w api.Wait) api.Wait {
	w.Message = handedMessage(w.Message)
	return w
}

func handedMessage(m api.Message) api.Message {
	m.Groups = roomy(m.Groups, 0, 3, 9)
	return m
}

func handedCommand(c api.Command) api.Command {
	c.Message = handedMessage(c.Message)
	c.Members = roomy(c.Members, 5, -7)
	return c
}

// wholeClock is all that a clock has, and what stands behind its lists.
func wholeClock(s api.Skeen) api.Skeen {
	s = api.Skeen{Clock: s.Clock, Waits: whole(s.Waits), Done: whole(s.Done)}
	for i := range s.Waits {
		s.Waits[i].Message.Groups = whole(s.Waits[i].Message.Groups)
	}
	return s
}

// area is the memory of a list, its room too.
type area struct{ from, to uintptr }

func areasOf(lists ...any) (l []area) {
	for _, list := range lists {
		v := reflect.ValueOf(list)
		if size := uintptr(v.Cap()) * v.Type().Elem().Size(); size > 0 {
			l = append(l, area{v.Pointer(), v.Pointer() + size})
		}
	}
	return l
}

func areasOfClock(s api.Skeen) []area {
	l := areasOf(s.Waits, s.Done)
	for _, w := range s.Waits[:cap(s.Waits)] {
		l = append(l, areasOf(w.Message.Groups)...)
	}
	return l
}

func areasOfMessages(messages []api.Message) []area {
	l := areasOf(messages)
	for _, m := range messages[:cap(messages)] {
		l = append(l, areasOf(m.Groups)...)
	}
	return l
}

func areasOfCommand(c api.Command) []area { return areasOf(c.Message.Groups, c.Members) }

// wantApart asks that no two lists of what is answered share memory, nor one of it with one of what was handed in.
func wantApart(t *testing.T, call string, in, got []area) {
	type end struct {
		at   uintptr
		from bool
		own  bool
	}
	var ends []end
	for _, a := range got {
		ends = append(ends, end{a.from, true, true}, end{a.to, false, true})
	}
	for _, a := range in {
		ends = append(ends, end{a.from, true, false}, end{a.to, false, false})
	}
	// What ends at a place is no more when another one begins there.
	sort.Slice(ends, func(i, k int) bool {
		return ends[i].at < ends[k].at || ends[i].at == ends[k].at && !ends[i].from && ends[k].from
	})
	own, others := 0, 0
	for _, e := range ends {
		n := -1
		if e.from {
			n = 1
		}
		if e.own {
			own += n
		} else {
			others += n
		}
		if own > 1 || own > 0 && others > 0 {
			t.Helper()
			t.Errorf("%s: lists of the answer share memory, or with what was handed in", call)
			return
		}
	}
}

// spoil writes over all that a list has, and over what is behind it.
func spoil[T any](l []T, with T) {
	for i := range l[:cap(l)] {
		l[:cap(l)][i] = with
	}
}

func spoilClock(s api.Skeen) {
	for _, w := range s.Waits[:cap(s.Waits)] {
		spoil(w.Message.Groups, -5)
	}
	spoil(s.Waits, api.Wait{Time: -5, Final: true})
	spoil(s.Done, api.Stamp{Time: -5, Id: -5})
}

func spoilMessages(l []api.Message) {
	for _, m := range l[:cap(l)] {
		spoil(m.Groups, -5)
	}
	spoil(l, api.Message{Id: -5})
}

// someCommands are such that do something to some of the clocks, such that do nothing, and such that may not be.
func someCommands() []api.Command {
	return append(idle()[:6], assign(6, 0, 2), assign(0, 0), assign(lastId-1, 0, 1, 2, 3), assign(7, 0), assign(6, 1), final(5, 9), final(5, 10), final(5, 30), final(9, 9), final(9, 4), final(7, 12), final(0, 1), final(8, 12),
		final(lastId, lastTime), final(1000, 401), final(1000, 9), final(6, 9), assignOf(api.Message{Id: 6, Groups: []int{2, 0}}), final(5, 0), api.Command{Kind: 9, Members: []int{1}}, api.Command{Kind: api.CmdChange, Members: []int{1, 0}})
}

func TestP153WhatIsHandedInIsOnlyRead(t *testing.T) {
	commands := someCommands()
	for _, s := range append(someClocks(), noClocks()...) {
		in, other := handed(s), handed(theClock())
		before, otherBefore := wholeClock(in), wholeClock(other)
		skeen.Check(in)
		skeen.Same(in, other)
		skeen.Same(other, in)
		twin := skeen.Twin(in)
		skeen.Local(in, 5)
		skeen.Local(in, 1000)
		wantApart(t, "Twin", areasOfClock(in), areasOfClock(twin))
		for i, c := range commands {
			if i%3 != len(s.Waits)%3 && len(s.Waits) > 9 {
				continue
			}
			handedIn := handedCommand(c)
			got, delivered, _ := skeen.Apply(in, 0, handedIn)
			wantApart(t, "Apply of "+showCommand(c), append(areasOfClock(in), areasOfCommand(handedIn)...), append(areasOfClock(got), areasOfMessages(delivered)...))
			if again := handedCommand(c); !slices.Equal(whole(handedIn.Message.Groups), whole(again.Message.Groups)) || !slices.Equal(whole(handedIn.Members), whole(again.Members)) {
				t.Fatalf("%s: it was written into", showCommand(c))
			}
		}
		if !same(wholeClock(in), before) || !same(wholeClock(other), otherBefore) {
			t.Fatalf("%s: it was written into", show(s))
		}
	}
}

// TestP153SpareRoomDoesNotCount has messages and stamps behind what waits and is done.
func TestP153SpareRoomDoesNotCount(t *testing.T) {
	for _, s := range someClocks() {
		in := handed(s)
		wantCheck(t, in, api.OK)
		if !same(skeen.Twin(in), s) || !skeen.Same(in, s) || !skeen.Same(s, in) {
			t.Error(show(s))
		}
		wantLocal(t, turned(s, func(s *api.Skeen) { *s = handed(*s) }), 4, 0, false, api.ErrNone)
		for _, c := range someCommands() {
			wantBehind(t, in, 0, handedCommand(c))
			wantBehind(t, in, 2, handedCommand(c))
		}
		wantNothing(t, in, 3, handedCommand(assign(6, 0, 1, 2)))
	}
	for _, s := range noClocks() {
		wantCheck(t, handed(s), api.ErrBad)
	}
}

// TestP153NoTwoAnswersShareMemory keeps many answers: so no two of them have the same memory by chance.
func TestP153NoTwoAnswersShareMemory(t *testing.T) {
	for _, s := range someClocks() {
		in := handed(s)
		var all []area
		var kept []any
		given := areasOfClock(in)
		for _, c := range someCommands() {
			c = handedCommand(c)
			given, kept = append(given, areasOfCommand(c)...), append(kept, c)
			got, delivered, _ := skeen.Apply(in, 0, c)
			again, deliveredAgain, _ := skeen.Apply(in, 0, c)
			twin := skeen.Twin(in)
			all, kept = append(all, slices.Concat(areasOfClock(got), areasOfMessages(delivered), areasOfClock(again), areasOfMessages(deliveredAgain), areasOfClock(twin))...), append(kept, got, delivered, again, deliveredAgain, twin)
		}
		begin, other := skeen.New(), skeen.New()
		all = append(all, append(areasOfClock(begin), areasOfClock(other)...)...)
		wantApart(t, "Apply and Twin of "+show(s), given, all)
		runtime.KeepAlive(kept)
	}
}

// TestP153WhatIsAnsweredMayBeWrittenOver writes over what is answered, its room too, and asks once more; and over what was handed in.
func TestP153WhatIsAnsweredMayBeWrittenOver(t *testing.T) {
	for _, s := range someClocks() {
		for _, c := range someCommands() {
			want, deliveredWant, wantError := behind(s, 0, c)
			in, handedIn := handed(s), handedCommand(c)
			for range 2 {
				got, delivered, e := skeen.Apply(in, 0, handedIn)
				twin := skeen.Twin(in)
				if !same(got, want) || !sameMessages(delivered, deliveredWant) || e != wantError || !same(twin, s) {
					t.Fatal(show(s), showCommand(c), show(got), idsOf(delivered), e)
				}
				spoilMessages(delivered)
				if !same(got, want) || !same(twin, s) {
					t.Fatal(show(s), showCommand(c), "what was delivered is in what was answered beside it")
				}
				spoilClock(got)
				spoilClock(twin)
			}
			got, delivered, _ := skeen.Apply(in, 0, handedIn)
			twin := skeen.Twin(in)
			spoilClock(in)
			spoil(handedIn.Message.Groups, -5)
			spoil(handedIn.Members, -5)
			if !same(got, want) || !sameMessages(delivered, deliveredWant) || !same(twin, s) {
				t.Fatal(show(s), showCommand(c), show(got), idsOf(delivered))
			}
		}
	}
}

// TestP153OneListInManyPlaces has one list of groups in all messages, and the command's is it, too.
func TestP153OneListInManyPlaces(t *testing.T) {
	groups := []int{0, 1, 2, 3}
	s := api.Skeen{Clock: 9, Done: stamps(1, 3)}
	for i := range 6 {
		s.Waits = append(s.Waits, api.Wait{Message: message(5+i*2, groups...), Time: 2 + i, Final: i > 0})
		s.Waits[i].Message.Groups = groups[i%3:]
	}
	given := append(areasOf(s.Waits, s.Done), areasOf(groups)...)
	for _, c := range []api.Command{assign(6, groups...), assign(6, groups[1:]...), final(5, 2), final(5, 4), final(5, 7), {}} {
		if c.Kind == api.CmdAssign {
			c.Message.Groups = groups[:len(c.Message.Groups)]
		}
		wantBehind(t, s, 0, c)
		got, delivered, _ := skeen.Apply(s, 0, c)
		wantApart(t, "Apply", given, append(areasOfClock(got), areasOfMessages(delivered)...))
		wantApart(t, "Twin", given, areasOfClock(skeen.Twin(s)))
	}
	if !slices.Equal(groups, []int{0, 1, 2, 3}) {
		t.Error(groups)
	}
}

// TestR1WhateverIsHandedIn asks all calls of lists and texts of great lengths, and of numbers at both ends.
func TestR1WhateverIsHandedIn(t *testing.T) {
	many := api.Skeen{Clock: lastTime, Waits: make([]api.Wait, 1<<20), Done: make([]api.Stamp, 1<<20)}
	deep := clock(5, waits(api.Wait{Message: api.Message{Id: 5, Groups: make([]int, 1<<20)}, Time: 1}))
	numbers := []int{math.MinInt, math.MinInt + 1, -1, 0, 1, lastTime, lastId, math.MaxInt - 1, math.MaxInt}
	for _, s := range []api.Skeen{many, deep, {Waits: many.Waits}, {Done: many.Done}} {
		wantCheck(t, s, api.ErrBad)
		wantRefused(t, s, 0, api.Command{}, api.ErrBad)
		wantLocal(t, s, 0, 0, false, api.ErrBad)
		if twin := skeen.Twin(s); !skeen.Same(twin, s) || skeen.Same(twin, api.Skeen{}) {
			t.Error(len(twin.Waits), len(twin.Done))
		}
	}
	for _, a := range numbers {
		for _, b := range numbers {
			for _, s := range []api.Skeen{{Clock: a}, clock(a, nil, b, a), clock(b, waits(wait(a, b), last(b, a))), clock(lastTime, waits(wait(a, b)), b, a)} {
				wantAsWords(t, s)
				wantBehind(t, s, b, final(a, b))
				wantBehind(t, s, 0, final(b, a))
				wantBehind(t, s, 0, assign(a, b))
				wantBehind(t, s, 0, assign(a, 0, b))
				wantBehind(t, s, 0, api.Command{Kind: api.CmdChange, Members: []int{a, b}})
				skeen.Local(s, a)
				if !skeen.Same(skeen.Twin(s), s) {
					t.Error(show(s))
				}
			}
		}
	}
	for kind := range 256 {
		for _, s := range someClocks()[:8] {
			wantBehind(t, s, 0, api.Command{Kind: uint8(kind), Id: 5, Time: 20})
			wantBehind(t, s, 0, api.Command{Kind: uint8(kind), Message: message(6, 0)})
			wantBehind(t, s, 0, api.Command{Kind: uint8(kind)})
		}
	}
}

// TestR2CallsKeepNothing asks the same again, behind other calls.
func TestR2CallsKeepNothing(t *testing.T) {
	before := runtime.NumGoroutine()
	for range 3 {
		for _, s := range append(someClocks(), noClocks()[:9]...) {
			for _, c := range someCommands() {
				wantBehind(t, s, 0, c)
			}
			wantAsWords(t, s)
		}
		wantLocal(t, theClock(), 7, 12, true, api.OK)
		wantLocal(t, theClock(), 8, 0, false, api.ErrNone)
		if s := skeen.New(); !same(s, api.Skeen{}) {
			t.Error(show(s))
		}
	}
	if now := runtime.NumGoroutine(); now > before {
		t.Error(before, now)
	}
}

// dice tells numbers that look like any ones, always the same.
type dice uint64

func (d *dice) below(n int) int {
	*d = *d*6364136223846793005 + 1442695040888963407
	return int(uint64(*d) >> 33 % uint64(n))
}

func pick[T any](d *dice, l []T) T { return l[d.below(len(l))] }

// command is any one, about few ids and times; more often than not it does something.
func (d *dice) command(group, ids, now int) api.Command {
	id := d.below(ids)
	switch d.below(12) {
	case 0:
		return pick(d, idle())
	case 1:
		return assign(id, (group+1)%4)
	case 2:
		m := message(id, group)
		m.Body = "another one"
		return assignOf(m)
	case 3, 4, 5:
		return assign(id, group)
	case 6:
		return final(id, now+1+d.below(3))
	case 7:
		return final(id, 1+d.below(now+9))
	}
	return final(id, max(1, now-d.below(6)))
}

// story is what a group was told: all that follows is asked of it, behind each command.
type story struct {
	t         *testing.T
	group     int
	clock     api.Skeen
	said      map[int]api.Message // as it was assigned
	begun     map[int]int         // the time by that
	finals    map[int]int         // the time of the CmdFinal that did something
	delivered []api.Message
}

func tell(t *testing.T, group int) *story {
	return &story{t: t, group: group, clock: skeen.New(), said: map[int]api.Message{}, begun: map[int]int{}, finals: map[int]int{}}
}

// do does a command, writes down what it is to mean, and asks all that follows.
func (s *story) do(c api.Command) api.Errno {
	before := s.clock
	after, l, e := skeen.Apply(before, s.group, c)
	if want, delivered, wantError := behind(before, s.group, c); e != wantError || !same(after, want) || !sameMessages(l, delivered) {
		s.t.Fatalf("Apply(%s, %d, %s) = %s, %v, %d; want %s, %v, %d", show(before), s.group, showCommand(c), show(after), idsOf(l), e, show(want), idsOf(delivered), wantError)
	}
	if e != api.OK {
		return e
	}
	s.note(c, after)
	s.clock, s.delivered = after, append(s.delivered, l...)
	if skeen.Check(after) != api.OK || after.Clock < before.Clock || !slices.Equal(after.Done[:len(before.Done)], before.Done) || len(after.Done) != len(s.delivered) {
		s.t.Fatalf("%s, then %s: %s", show(before), showCommand(c), show(after))
	}
	for i, m := range l {
		at := after.Done[len(before.Done)+i]
		said, was := s.said[m.Id]
		time, isFinal := s.finals[m.Id]
		if !was || !sameMessage(said, m) || !isFinal || at != (api.Stamp{Time: time, Id: m.Id}) || time < s.begun[m.Id] {
			s.t.Fatalf("%s, then %s: %v was delivered at %v", show(before), showCommand(c), m, at)
		}
	}
	return e
}

// note writes down the first CmdAssign of an id, and the first CmdFinal behind it that is not of the past.
func (s *story) note(c api.Command, after api.Skeen) {
	switch c.Kind {
	case api.CmdAssign:
		if _, was := s.said[c.Message.Id]; !was && slices.Contains(c.Message.Groups, s.group) {
			s.said[c.Message.Id], s.begun[c.Message.Id] = c.Message, after.Clock
		}
	case api.CmdFinal:
		if begun, was := s.begun[c.Id]; was && s.finals[c.Id] == 0 && c.Time >= begun {
			s.finals[c.Id] = c.Time
		}
	}
}

// wantOneOrder asks of all that was delivered that it rises by times and ids, each id once.
func (s *story) wantOneOrder() {
	ids := map[int]bool{}
	for i, d := range s.clock.Done {
		if i > 0 && placeOf(s.clock.Done[i-1].Time, s.clock.Done[i-1].Id) >= placeOf(d.Time, d.Id) || ids[d.Id] || s.delivered[i].Id != d.Id {
			s.t.Fatal(show(s.clock))
		}
		ids[d.Id] = true
	}
}

// end makes all final that waits, each at its time or later: then all of it is delivered.
func (s *story) end(d *dice) {
	ids := []int{}
	for _, w := range s.clock.Waits {
		if !w.Final {
			ids = append(ids, w.Message.Id)
		}
	}
	for len(ids) > 0 {
		at := d.below(len(ids))
		time, _, e := skeen.Local(s.clock, ids[at])
		if e != api.OK {
			s.t.Fatal(show(s.clock), ids[at], e)
		}
		if s.do(final(ids[at], min(lastTime, time+d.below(2)*d.below(9)))) != api.OK {
			s.t.Fatal(show(s.clock))
		}
		ids = slices.Delete(ids, at, at+1)
	}
	if len(s.clock.Waits) > 0 || len(s.delivered) != len(s.said) {
		s.t.Fatalf("all is final, and %d of %d are delivered: %s", len(s.delivered), len(s.said), show(s.clock))
	}
	s.wantOneOrder()
}

func TestP154W1W6ManyRuns(t *testing.T) {
	d := dice(15)
	delivered, many := 0, 0
	for run := range 300 {
		s := tell(t, run%4)
		ids := pick(&d, []int{3, 8, 20, 60})
		for range pick(&d, []int{10, 60, 150, 300}) {
			ahead := len(s.delivered)
			if e := s.do(d.command(s.group, ids, s.clock.Clock)); e != api.OK {
				t.Fatal(run, e)
			}
			if len(s.delivered) > ahead+1 {
				many++
			}
		}
		s.wantOneOrder()
		s.end(&d)
		delivered += len(s.delivered)
	}
	if delivered < 3000 || many < 100 {
		t.Error(delivered, many)
	}
}

// TestP154W6AllThatIsFinalIsDelivered lets up to as many wait as may, and makes them final in orders of all kinds.
func TestP154W6AllThatIsFinalIsDelivered(t *testing.T) {
	d := dice(156)
	for _, number := range []int{1, 2, 3, 10, slots} {
		for range 3 {
			s := tell(t, 0)
			for len(s.said) < number {
				s.do(assign(d.below(lastId+1), 0, 1+d.below(3)))
			}
			if len(s.clock.Waits) != number || s.clock.Clock != number {
				t.Fatal(show(s.clock))
			}
			s.end(&d)
		}
	}
	// Made final from the last one on, all of them are delivered by the last CmdFinal; from the first one on, one by each.
	for _, back := range []bool{true, false} {
		s := tell(t, 0)
		for id := range slots {
			s.do(assign(id, 0))
		}
		for i := range slots {
			id := i
			want := i + 1
			if back {
				id, want = slots-1-i, 0
			}
			s.do(final(id, id+1))
			if got := len(s.delivered); got != want && i < slots-1 || i == slots-1 && got != slots {
				t.Fatal(back, i, got)
			}
		}
		s.wantOneOrder()
	}
}

// TestP154UpToTheLastTime goes on to the end of all times, and up to as many as may be done.
func TestP154UpToTheLastTime(t *testing.T) {
	s := tell(t, 1)
	s.do(assign(1, 1))
	s.do(final(1, lastTime-2))
	for _, c := range []struct {
		c api.Command
		e api.Errno
	}{{assign(2, 1), api.OK}, {assign(3, 1), api.OK}, {assign(4, 1), api.ErrFull}, {final(3, lastTime), api.OK}, {final(2, lastTime), api.OK}, {assign(4, 1), api.ErrFull}, {assign(4, 0), api.OK}, {assign(3, 1), api.OK}} {
		if e := s.do(c.c); e != c.e {
			t.Error(showCommand(c.c), e)
		}
	}
	s.wantOneOrder()
	if !slices.Equal(s.clock.Done, stamps(lastTime-2, 1, lastTime, 2, lastTime, 3)) {
		t.Error(show(s.clock))
	}
	s = tell(t, 0)
	for id := range slots {
		s.do(assign(id, 0))
		s.do(final(id, id+1))
	}
	if e := s.do(assign(slots, 0)); e != api.OK {
		t.Error(e)
	}
	for _, time := range []int{slots + 1, slots + 2, lastTime} {
		if e := s.do(final(slots, time)); e != api.ErrFull {
			t.Error(e)
		}
	}
	s.wantOneOrder()
}

// TestP154AllShortWays goes through all ways of up to five commands of some about three messages.
func TestP154AllShortWays(t *testing.T) {
	commands := []api.Command{assign(1, 0), assign(2, 0, 1), assign(3, 0), assign(1, 1), final(1, 1), final(1, 3), final(2, 2), final(2, 3), final(3, 3), final(3, 1)}
	asked := map[int]int{}
	var goOn func(s api.Skeen, delivered []int, left int)
	goOn = func(s api.Skeen, delivered []int, left int) {
		asked[len(delivered)]++
		if skeen.Check(s) != api.OK || len(s.Done) != len(delivered) {
			t.Fatal(show(s))
		}
		if left == 0 {
			return
		}
		for _, c := range commands {
			next, l, e := wantBehind(t, s, 0, c)
			if e != api.OK || t.Failed() {
				t.Fatal(show(s), showCommand(c), e)
			}
			goOn(next, append(slices.Clone(delivered), idsOf(l)...), left-1)
		}
	}
	goOn(skeen.New(), nil, 5)
	if asked[0] < 1000 || asked[1] < 1000 || asked[2] < 10 {
		t.Error(asked)
	}
}

// shortWaits are all lists of up to two that wait, the ids and times from 0 on.
func shortWaits() [][]api.Wait {
	var one []api.Wait
	for id := range 2 {
		for time := range 4 {
			one = append(one, wait(id, time), last(id, time))
		}
	}
	l := [][]api.Wait{nil}
	for _, a := range one {
		l = append(l, waits(a))
		for _, b := range one {
			l = append(l, waits(a, b))
		}
	}
	return l
}

// shortDone are all lists of up to two stamps.
func shortDone() [][]api.Stamp {
	var one []api.Stamp
	for id := range 3 {
		for time := range 4 {
			one = append(one, api.Stamp{Time: time, Id: id})
		}
	}
	l := [][]api.Stamp{nil}
	for _, a := range one {
		l = append(l, []api.Stamp{a})
		for _, b := range one {
			l = append(l, []api.Stamp{a, b})
		}
	}
	return l
}

// TestP151P152P154AllSmallClocks asks of all small clocks whether they may be; of those that may be, what each command makes.
func TestP151P152P154AllSmallClocks(t *testing.T) {
	var commands []api.Command
	for id := range 4 {
		commands = append(commands, assign(id, 0), assign(id, 1))
		for time := range 5 {
			commands = append(commands, final(id, time))
		}
	}
	some, all := 0, 0
	for _, done := range shortDone() {
		for _, waits := range shortWaits() {
			for now := range 4 {
				s := api.Skeen{Clock: now, Waits: waits, Done: done}
				all++
				if !wantAsWords(t, s) {
					continue
				}
				some++
				for _, c := range commands {
					if next, _, e := wantBehind(t, s, 0, c); e == api.OK && skeen.Check(next) != api.OK {
						t.Fatal(show(s), showCommand(c), show(next))
					}
				}
				if t.Failed() {
					t.FailNow()
				}
			}
		}
	}
	if some < 150 || all < 100000 {
		t.Error(some, all)
	}
}

// TestP151OneFieldTurned turns clocks that runs have made at any place: Check is to tell what the words do.
func TestP151OneFieldTurned(t *testing.T) {
	d := dice(151)
	may, not := 0, 0
	for run := range 200 {
		s := tell(t, 0)
		for range 5 + d.below(60) {
			s.do(d.command(0, 30, s.clock.Clock))
		}
		for range 60 {
			if wantAsWords(t, turned(s.clock, func(c *api.Skeen) { d.turn(c) })) {
				may++
			} else {
				not++
			}
		}
		if t.Failed() {
			t.Fatal(run)
		}
	}
	if may < 500 || not < 500 {
		t.Error(may, not)
	}
}

// turn changes one thing of a clock by a little.
func (d *dice) turn(s *api.Skeen) {
	by := d.below(5) - 2
	if d.below(12) == 0 {
		s.Clock += by
	}
	if len(s.Waits) > 0 && d.below(2) == 0 {
		w := &s.Waits[d.below(len(s.Waits))]
		switch d.below(4) {
		case 0:
			w.Time += by
		case 1:
			w.Message.Id += by
		case 2:
			w.Final = !w.Final
		case 3:
			w.Time = 1 + d.below(max(s.Clock, 0)+1)
		}
	}
	if len(s.Done) > 0 && d.below(2) == 0 {
		at := &s.Done[d.below(len(s.Done))]
		switch d.below(3) {
		case 0:
			at.Time += by
		case 1:
			at.Id += by
		case 2:
			*at = s.Done[d.below(len(s.Done))]
		}
	}
}
