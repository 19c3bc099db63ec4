package log_test

import (
	"math"
	"reflect"
	"runtime"
	"slices"
	"testing"

	"towncrier/api"
	"towncrier/log"
	"towncrier/quorum"
)

// roomy is a list in memory of its own that has room behind it, with something in it.
func roomy[T any](l []T, room ...T) []T {
	return append(append(make([]T, 0, len(l)+len(room)), l...), room...)[:len(l)]
}

// whole is a list with what stands behind it, in memory of its own.
func whole[T any](l []T) []T { return slices.Clone(l[:cap(l)]) }

// given is what is handed in, in lists with room behind them. What stands in the room would change each answer.
type given struct {
	group api.Group
	log   []string
}

func handed(g api.Group, l []string) given {
	return given{group(roomy(g.Roster, 0, 3, 5), roomy(g.Members, 1, 4, 5)), roomy(l, textOf(change(2)), textOf(change(0)), textOf(final(77, 77)), "what")}
}

func (g given) whole() given {
	return given{group(whole(g.group.Roster), whole(g.group.Members)), whole(g.log)}
}

func (g given) is(other given) bool {
	return slices.Equal(g.group.Roster, other.group.Roster) && slices.Equal(g.group.Members, other.group.Members) && slices.Equal(g.log, other.log)
}

// area is the memory of a list, its room too.
type area struct{ from, to uintptr }

func areasOf(lists ...any) (l []area) {
	for _, list := range lists {
		v := reflect.ValueOf(list)
		if size := uintptr(v.Cap()) * v.Type().Elem().Size(); size > 0 {
			l = append(l, area{v.Pointer(), v.Pointer() + size})
		}
	}
	return l
}

func (g given) areas() []area { return areasOf(g.group.Roster, g.group.Members, g.log) }

func areasOfCommands(commands []api.Command) []area {
	l := areasOf(commands)
	for _, c := range commands[:cap(commands)] {
		l = append(l, areasOf(c.Members, c.Message.Groups)...)
	}
	return l
}

// wantApart asks that no two lists of what is answered share memory, nor one of it with one of what was handed in.
func wantApart(t *testing.T, call string, in, got []area) {
	t.Helper()
	for i, a := range got {
		for _, b := range append(got[:i:i], in...) {
			if a.from < b.to && b.from < a.to {
				t.Errorf("%s: lists of the answer share memory, or with what was handed in", call)
				return
			}
		}
	}
}

// spoil writes over all that a list has, and over what is behind it.
func spoil[T any](l []T, with T) {
	for i := range l[:cap(l)] {
		l[:cap(l)][i] = with
	}
}

func spoilCommands(commands []api.Command) {
	for _, c := range commands[:cap(commands)] {
		spoil(c.Members, -5)
		spoil(c.Message.Groups, -5)
	}
	spoil(commands, api.Command{Kind: 77})
}

// someLogs may be: with no change, one that counts in most groups, and several, at the front, between and at the end.
func someLogs() [][]string {
	l := [][]string{nil, textsOf(nops(1)), textsOf(few()), textsOf(different(slots)), slices.Repeat([]string{textOf(change(0, 1))}, slots), slices.Repeat([]string{textOf(assign(3, []int{0, 1}, 2, "k", "oyez"))}, slots)}
	for _, members := range [][]int{{0}, {1, 3}, {5}, {0, 1, 2, 3, 4, 5}} {
		l = append(l, textsOf([]api.Command{change(members...)}), textsOf([]api.Command{change(members...), nop(), change(2, 4), final(1, 3)}))
	}
	return l
}

// noLogs may not be.
func noLogs() [][]string {
	return [][]string{{"what"}, {""}, {textOf(change(1, 3)), "x"}, {"x", textOf(change(1, 3))}, {long(mostBytes + 1)}, textsOf(nops(slots + 1)), append(textsOf(different(slots)), ""), noTexts(), append(textsOf(few()), noTexts()[:20]...)}
}

// anyGroups may be or not.
func anyGroups() []api.Group {
	l := append(someGroups(), api.Group{}, group([]int{0, 1}, nil), group(nil, []int{0, 1}))
	for i, no := range noGroups() {
		if i%10 == 0 {
			l = append(l, no.group)
		}
	}
	return l
}

func TestP133WhatIsHandedInIsOnlyRead(t *testing.T) {
	for _, l := range append(someLogs(), noLogs()...) {
		for _, g := range anyGroups() {
			in := handed(g, l)
			before := in.whole()
			log.Check(in.log)
			commands, _ := log.Commands(in.log)
			members, _ := log.Members(in.group, in.log)
			log.Find(in.log, "\x00")
			log.Find(in.log, "what")
			if !in.whole().is(before) {
				t.Fatalf("%s, %s: it was written into", showGroup(g), brief(l))
			}
			wantApart(t, "Commands and Members", in.areas(), append(areasOfCommands(commands), areasOf(members)...))
		}
	}
}

// TestP133SpareRoomDoesNotCount has a change, and what is none, in the room behind a log, and nodes in that behind a group's lists.
func TestP133SpareRoomDoesNotCount(t *testing.T) {
	for _, g := range someGroups() {
		for _, l := range someLogs() {
			in := handed(g, l)
			want, wantE := log.Members(g, l)
			if got, e := log.Members(in.group, in.log); !slices.Equal(got, want) || e != api.OK || wantE != api.OK {
				t.Errorf("Members(%s, %s) = %v, %d, %d; want %v", showGroup(g), brief(l), got, e, wantE, want)
			}
			wantFind(t, in.log, "what", 0)
			wantFind(t, in.log, textOf(final(77, 77)), 0)
			if got, e := log.Commands(in.log); !slices.Equal(textsOf(got), l) || e != api.OK {
				t.Errorf("Commands(%s) = %s, %d", brief(l), show(got), e)
			}
		}
	}
	full := append(textsOf(nops(slots)), textOf(change(2)), "what")[:slots]
	if e := log.Check(full); e != api.OK {
		t.Error(e)
	}
}

// TestP133NoTwoAnswersShareMemory keeps many answers: so no two of them have the same memory by chance.
func TestP133NoTwoAnswersShareMemory(t *testing.T) {
	for _, l := range someLogs() {
		var all []area
		var kept []any
		in := handed(theGroup(), l)
		for range 3 {
			commands, _ := log.Commands(in.log)
			members, _ := log.Members(in.group, in.log)
			all, kept = append(all, append(areasOfCommands(commands), areasOf(members)...)...), append(kept, commands, members)
		}
		wantApart(t, "Commands and Members of "+brief(l), in.areas(), all)
		runtime.KeepAlive(kept)
	}
}

// TestP133WhatIsAnsweredMayBeWrittenOver writes over what is answered, its room too, and asks once more; and over what was handed in.
func TestP133WhatIsAnsweredMayBeWrittenOver(t *testing.T) {
	for _, g := range someGroups() {
		for _, commands := range [][]api.Command{nil, {nop()}, {change(g.Roster...)}, {change(g.Roster...), nop(), change(g.Roster[0])}, few()} {
			in := handed(g, textsOf(commands))
			before, want := in.whole(), membersBehind(g, commands)
			for range 3 {
				members, e := log.Members(in.group, in.log)
				list, eCommands := log.Commands(in.log)
				if !slices.Equal(members, want) || !same(list, commands) || e != api.OK || eCommands != api.OK || !in.whole().is(before) {
					t.Fatal(showGroup(g), show(commands), members, show(list), e, eCommands)
				}
				spoil(members, -5)
				spoilCommands(list)
			}
			members, _ := log.Members(in.group, in.log)
			list, _ := log.Commands(in.log)
			spoil(in.group.Roster, -5)
			spoil(in.group.Members, -5)
			spoil(in.log, "spoilt")
			if !slices.Equal(members, want) || !same(list, commands) {
				t.Error(showGroup(g), show(commands), members, show(list))
			}
		}
	}
}

// TestP133OneListInTwoPlaces hands in a roster that is the members too, or has them as a piece of it, and logs that are pieces of one.
func TestP133OneListInTwoPlaces(t *testing.T) {
	all := []int{0, 1, 2, 3, 4, 5}
	values := textsOf(few())
	for size := 1; size <= 6; size++ {
		for at := range values {
			for _, g := range []api.Group{group(all[:size], all[:size]), group(all[:size], all[size-1:size]), group(all[:size], all[:1])} {
				got, e := log.Members(g, values[at:])
				if want := membersBehind(g, few()[at:]); !slices.Equal(got, want) || e != api.OK {
					t.Error(showGroup(g), at, got, want, e)
				}
				wantApart(t, "Members", areasOf(all, values), areasOf(got))
			}
			wantFind(t, values[at:], values[len(values)-1], len(values)-at)
		}
	}
	if !slices.Equal(all, []int{0, 1, 2, 3, 4, 5}) || !slices.Equal(values, textsOf(few())) {
		t.Error(all, brief(values))
	}
}

// TestR1WhateverIsHandedIn asks all calls of lists and texts of great lengths, and of numbers at both ends.
func TestR1WhateverIsHandedIn(t *testing.T) {
	rising := make([]int, 1<<20)
	for i := range rising {
		rising[i] = i
	}
	for _, nodes := range [][]int{rising, make([]int, 1<<20)} {
		for _, g := range []api.Group{group(nodes, nodes), group(nodes, []int{0}), group([]int{0}, nodes)} {
			wantMembersError(t, g, []string{"what"}, api.ErrMany)
		}
	}
	wantMembersError(t, group([]int{math.MinInt, math.MaxInt}, []int{math.MaxInt, math.MinInt}), nil, api.ErrQuorum)
	wantNoLog(t, make([]string, 1<<20), api.ErrMany)
	wantNoLog(t, slices.Repeat([]string{long(1 << 20)}, slots), api.ErrBad)
	wantNoLog(t, slices.Repeat([]string{long(1 << 20)}, 1<<16), api.ErrMany)
	for _, s := range []string{"\x03\x80\x80\x80\x80\x80\x20", "\x01\x00\x80\x80\x80\x80\x80\x20", "\x01\x00\x01\x00\x00\x80\x80\x80\x80\x80\x20", "\x03\xff\xff\xff\xff\xff\xff\xff\xff\x7f"} {
		for _, behind := range []string{"", "\x00", long(500), long(1024), long(1 << 20)} {
			wantNoLog(t, []string{"\x00", s + behind}, api.ErrBad)
		}
	}
}

// A call keeps nothing of the one ahead: what it answers hangs on its arguments alone.
func TestR2CallsKeepNothing(t *testing.T) {
	before := runtime.NumGoroutine()
	g, other := theGroup(), group([]int{3, 4, 5}, []int{4})
	for range 3 {
		wantLog(t, different(slots))
		wantMembers(t, g, []api.Command{change(1, 3)}, []int{1, 3})
		wantMembers(t, other, []api.Command{change(1, 3)}, []int{4})
		wantMembers(t, g, nil, g.Members)
		wantMembers(t, other, nil, other.Members)
		wantNoLog(t, []string{textOf(change(1, 3)), "what"}, api.ErrBad)
		wantMembersError(t, group([]int{0}, []int{1}), textsOf(few()), api.ErrQuorum)
		wantMembers(t, g, []api.Command{nop(), change(0)}, []int{0})
		wantFind(t, textsOf(few()), "\x00", 1)
		wantFind(t, textsOf(few()[1:]), "\x00", 0)
	}
	if now := runtime.NumGoroutine(); now > before {
		t.Error(before, now)
	}
}

// dice tells numbers that look like any ones, always the same.
type dice uint64

func (d *dice) below(n int) int {
	*d = *d*6364136223846793005 + 1442695040888963407
	return int(uint64(*d) >> 33 % uint64(n))
}

func pick[T any](d *dice, l []T) T { return l[d.below(len(l))] }

// command is a change more often than not.
func (d *dice) command() api.Command {
	switch d.below(5) {
	case 0:
		return pick(d, others())
	case 1:
		return final(d.below(100), 1+d.below(1000))
	}
	var of []int
	for set, node := 1+d.below(63), 0; node < 6; node++ {
		if set>>node%2 == 1 {
			of = append(of, node)
		}
	}
	return change(of...)
}

// wantSomeOfTheRoster asks of members that are answered what holds of all: that they may be, and are in the roster.
func wantSomeOfTheRoster(t *testing.T, g api.Group, members []int) {
	t.Helper()
	if !rises(members) || !allIn(members, g.Roster) || quorum.CheckGroup(group(g.Roster, members)) != api.OK {
		t.Error(showGroup(g), members)
	}
}

// TestP134ManyRuns lets logs of all groups go on command by command, and asks at each slot all that follows.
func TestP134ManyRuns(t *testing.T) {
	d := dice(13)
	counted, not := 0, 0
	for run := range 60 {
		g := pick(&d, groups())
		var commands []api.Command
		members := g.Members
		for range pick(&d, []int{5, 20, 60, slots}) {
			c := d.command()
			if counts(g.Roster, c) {
				members = c.Members
				counted++
			} else if c.Kind == api.CmdChange {
				not++
			}
			commands = append(commands, c)
			wantMembers(t, g, commands, members)
			wantSomeOfTheRoster(t, g, members)
		}
		wantLog(t, commands)
		wantBeginnings(t, g, textsOf(commands))
		if t.Failed() {
			t.Fatal(run)
		}
	}
	if counted < 500 || not < 500 {
		t.Error(counted, not)
	}
}

// wantBeginnings asks of a log, and of some that it begins with, in memory of their own, for the members of each slot that both have, and where what has been found is.
func wantBeginnings(t *testing.T, g api.Group, l []string) {
	t.Helper()
	ofSlot := make([][]int, len(l)+1)
	for slot := range ofSlot {
		members, e := log.Members(g, l[:slot])
		if e != api.OK {
			t.Fatal(showGroup(g), slot, e)
		}
		wantSomeOfTheRoster(t, g, members)
		ofSlot[slot] = members
	}
	for size := 0; size <= len(l); size += 1 + size/3 {
		begins := slices.Clone(l[:size])
		for slot := range size + 1 {
			if members, e := log.Members(g, begins[:slot]); !slices.Equal(members, ofSlot[slot]) || e != api.OK {
				t.Error(showGroup(g), slot, members, ofSlot[slot], e)
			}
		}
		for _, value := range begins {
			here, is, _ := log.Find(begins, value)
			if there, stays, e := log.Find(l, value); here != there || !is || !stays || e != api.OK || here < 1 || begins[here-1] != value {
				t.Error(short(value), here, is, there, stays, e)
			}
		}
	}
}

// TestP134TheLastChangeThatCountsAlone takes away all but that one, puts others in the place of what is ahead of it, and puts what doesn't count between and behind.
func TestP134TheLastChangeThatCountsAlone(t *testing.T) {
	d := dice(134)
	all, asked := groups(), 0
	for range 3000 {
		g := pick(&d, all)
		var commands []api.Command
		for range 1 + d.below(12) {
			commands = append(commands, d.command())
		}
		at := len(commands) - 1
		for at >= 0 && !counts(g.Roster, commands[at]) {
			at--
		}
		want := g.Members
		if at >= 0 {
			asked++
			want = commands[at].Members
			wantMembers(t, g, commands[at:at+1], want)
			wantMembers(t, g, commands[:at+1], want)
			wantMembers(t, g, commands[at:], want)
			for i := range at {
				commands[i] = d.command()
			}
			// Whoever the first members are, it is no matter any more.
			wantMembers(t, group(g.Roster, g.Roster), commands, want)
			wantMembers(t, group(g.Roster, g.Roster[:1]), commands, want)
		}
		wantMembers(t, g, commands, want)
		for i := at + 1; i <= len(commands); i++ {
			for _, c := range []api.Command{nop(), change(0, 1, 2, 3, 4, 5), final(1, 3)} {
				if !counts(g.Roster, c) {
					wantMembers(t, g, slices.Insert(slices.Clone(commands), i, c), want)
				}
			}
		}
	}
	if asked < 500 || asked > 2900 {
		t.Error(asked)
	}
}

// TestP134AllShortLogs goes through all logs of up to four of some commands, in groups of all forms.
func TestP134AllShortLogs(t *testing.T) {
	some := []api.Command{nop(), change(0), change(0, 1), change(2), change(1, 3), assign(3, []int{0, 1}, 2, "\x03\x01\x01", "")}
	gs := []api.Group{group([]int{0, 1}, []int{1}), group([]int{0, 1, 2, 3}, []int{0, 1, 2}), group([]int{4, 5}, []int{4})}
	var goOn func(commands []api.Command, members [][]int)
	goOn = func(commands []api.Command, members [][]int) {
		for i, g := range gs {
			wantMembers(t, g, commands, members[i])
			wantSomeOfTheRoster(t, g, members[i])
		}
		for i, c := range commands {
			wantFind(t, textsOf(commands), textOf(c), 1+slices.IndexFunc(commands[:i+1], func(other api.Command) bool { return sameCommand(c, other) }))
		}
		if len(commands) == 4 {
			return
		}
		for _, c := range some {
			next := slices.Clone(members)
			for i, g := range gs {
				if counts(g.Roster, c) {
					next[i] = c.Members
				}
			}
			goOn(append(slices.Clone(commands), c), next)
		}
	}
	goOn(nil, [][]int{{1}, {0, 1, 2}, {4}})
}

// TestP134WhatHasBeenFoundStays lets a log go on by anything that may follow, what has been found among it.
func TestP134WhatHasBeenFoundStays(t *testing.T) {
	l := textsOf(different(60))
	for size := 1; size <= 60; size += 7 {
		for _, behind := range [][]string{nil, l[:1], l[size-1 : size], l, textsOf(different(slots - size)), slices.Repeat(l[:size], slots/size-1)} {
			longer := slices.Concat(l[:size], behind)
			for i, value := range l[:size] {
				wantFind(t, l[:size], value, i+1)
				wantFind(t, longer, value, i+1)
			}
		}
	}
}
