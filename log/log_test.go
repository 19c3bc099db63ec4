package log_test

import (
	"fmt"
	"slices"
	"strconv"
	"testing"

	"towncrier/api"
	"towncrier/command"
	"towncrier/log"
)

// wantLog asks all calls of a log that may be. It and those below ask for t.Helper only where something is wrong: that takes longer than what is asked.
func wantLog(t *testing.T, commands []api.Command) {
	l := textsOf(commands)
	if e := log.Check(l); e != api.OK {
		t.Helper()
		t.Errorf("Check(%s) = %d", brief(l), e)
	}
	if got, e := log.Commands(l); !same(got, commands) || e != api.OK {
		t.Helper()
		t.Errorf("Commands(%s) = %s, %d", brief(l), show(got), e)
	}
	wantMembers(t, theGroup(), commands, membersBehind(theGroup(), commands))
	for _, value := range append(l[:min(3, len(l)):min(3, len(l))], textOf(final(77, 77)), "", "\x00", long(mostBytes+1)) {
		wantFind(t, l, value, slotOf(l, value))
	}
}

// wantNoLog asks all calls of a log that may not be: all other results are zero.
func wantNoLog(t *testing.T, l []string, want api.Errno) {
	if e := log.Check(l); e != want {
		t.Helper()
		t.Errorf("Check(%s) = %d; want %d", brief(l), e, want)
	}
	if got, e := log.Commands(l); len(got) != 0 || e != want {
		t.Helper()
		t.Errorf("Commands(%s) = %s, %d; want none, %d", brief(l), show(got), e, want)
	}
	for _, g := range someGroups()[:2] {
		wantMembersError(t, g, l, want)
	}
	for _, value := range []string{l[0], l[len(l)-1], "\x00", "", "x", long(mostBytes + 1)} {
		if slot, is, e := log.Find(l, value); slot != 0 || is || e != want {
			t.Helper()
			t.Errorf("Find(%s; %s) = %d, %t, %d; want 0, false, %d", brief(l), short(value), slot, is, e, want)
		}
	}
}

func wantMembers(t *testing.T, g api.Group, commands []api.Command, want []int) {
	if got, e := log.Members(g, textsOf(commands)); !slices.Equal(got, want) || e != api.OK {
		t.Helper()
		t.Errorf("Members(%s, %s) = %v, %d; want %v", showGroup(g), show(commands), got, e, want)
	}
}

func wantMembersError(t *testing.T, g api.Group, l []string, want api.Errno) {
	if got, e := log.Members(g, l); len(got) != 0 || e != want {
		t.Helper()
		t.Errorf("Members(%s, %s) = %v, %d; want none, %d", showGroup(g), brief(l), got, e, want)
	}
}

// wantFind asks where a value is; it is nowhere where the slot is 0.
func wantFind(t *testing.T, l []string, value string, want int) {
	if slot, is, e := log.Find(l, value); slot != want || is != (want > 0) || e != api.OK {
		t.Helper()
		t.Errorf("Find(%s; %s) = %d, %t, %d; want %d", brief(l), short(value), slot, is, e, want)
	}
}

func TestChapterExamples(t *testing.T) {
	g := theGroup()
	wantMembers(t, g, nil, []int{0, 1, 2})
	wantMembers(t, g, []api.Command{change(1, 3)}, []int{1, 3})
	wantMembers(t, g, []api.Command{change(1, 3), change(4, 5)}, []int{1, 3})
	l := textsOf([]api.Command{nop(), change(1, 3)})
	wantFind(t, l, textOf(change(1, 3)), 2)
	wantFind(t, nil, textOf(nop()), 0)
	wantNoLog(t, []string{"what"}, api.ErrBad)
	wantNoLog(t, textsOf(nops(201)), api.ErrMany)
	wantMembersError(t, api.Group{Members: []int{0, 1, 2}}, nil, api.ErrQuorum)
	wantMembersError(t, api.Group{}, nil, api.ErrQuorum)
}

// TestTheWordsOnceMore holds the tests' own words against what stands in the chapters, and against what command.Read says of texts.
func TestTheWordsOnceMore(t *testing.T) {
	if got := [4]int{slots, lastId, lastTime, mostBytes}; got != [4]int{api.MaxSlots, api.MaxNodes*api.MaxNumber - 1, api.MaxTime, api.MaxValue} {
		t.Error(got)
	}
	commands := append(different(slots), few()...)
	for _, of := range subsets() {
		commands = append(commands, change(of...))
		if !rises(of) {
			t.Error(of)
		}
	}
	for _, c := range commands {
		if back, e := command.Read(textOf(c)); !sameCommand(back, c) || e != api.OK {
			t.Error(short(textOf(c)), e)
		}
	}
	if l := textsOf(different(slots)); len(l) != slots || len(slices.Compact(slices.Sorted(slices.Values(l)))) != slots {
		t.Error("a command stands twice among those that are different")
	}
	kinds := 0
	for _, c := range few() {
		kinds |= 1 << c.Kind
	}
	if kinds != 1<<7-1 {
		t.Error(kinds)
	}
	for _, s := range noTexts() {
		if _, e := command.Read(s); e != api.ErrBad && len(s) <= mostBytes {
			t.Error(short(s), e)
		}
	}
	if len(subsets()) != 63 || len(groups()) != 665 { // 3^6 - 2^6: each node is outside, in the roster, or a member too; somebody is a member
		t.Error(len(subsets()), len(groups()))
	}
}

func TestP131HowManyValues(t *testing.T) {
	for _, l := range [][]string{nil, {}, make([]string, 0, 300)} {
		got, e := log.Commands(l)
		if check := log.Check(l); check != api.OK || len(got) != 0 || e != api.OK {
			t.Error(check, show(got), e)
		}
	}
	for _, number := range []int{0, 1, 2, 3, 100, 127, 128, 199, slots} {
		wantLog(t, different(number))
		for _, c := range few() {
			wantLog(t, slices.Repeat([]api.Command{c}, number))
		}
	}
	for _, number := range []int{slots + 1, slots + 2, 255, 256, 257, 400, 456, 1000, 1 << 16} {
		wantNoLog(t, textsOf(different(number)), api.ErrMany)
		wantNoLog(t, textsOf(nops(number)), api.ErrMany)
		wantNoLog(t, slices.Repeat([]string{textOf(change(0, 1))}, number), api.ErrMany)
	}
}

// TestP131EachKindInEachPlace has one command among others of another kind, at the first slot, the last one and between.
func TestP131EachKindInEachPlace(t *testing.T) {
	for _, c := range few() {
		wantLog(t, []api.Command{c})
		for _, other := range few() {
			for _, number := range []int{2, 3, 5} {
				for at := range number {
					commands := slices.Repeat([]api.Command{other}, number)
					commands[at] = c
					wantLog(t, commands)
				}
			}
		}
	}
}

func TestP131CommandsStandInOrder(t *testing.T) {
	for _, number := range []int{2, 7, 50, slots} {
		commands := different(number)
		for range 5 {
			wantLog(t, commands)
			slices.Reverse(commands)
			wantLog(t, commands)
			commands = append(commands[number/3:], commands[:number/3]...)
		}
	}
}

// TestP131OneValueThatIsNone puts a value that is no command's text, or is more than one, among others.
func TestP131OneValueThatIsNone(t *testing.T) {
	for _, none := range append(noTexts(), longTexts()...) {
		wantNoLog(t, []string{none}, api.ErrBad)
		for _, number := range []int{2, 3, 25, slots} {
			for _, at := range []int{0, number / 2, number - 1} {
				l := textsOf(different(number))
				l[at] = none
				wantNoLog(t, l, api.ErrBad)
			}
		}
	}
}

func TestP131OneValueThatIsNoneAtEachSlot(t *testing.T) {
	for _, none := range []string{"", "x", "\x00\x00", "\x03\x00", "\x03\x02\x01\x00", long(mostBytes + 1)} {
		for at := range slots {
			l := textsOf(different(slots))
			l[at] = none
			wantNoLog(t, l, api.ErrBad)
		}
	}
}

func TestP131ValuesThatAreAllNone(t *testing.T) {
	for _, none := range append(noTexts(), longTexts()...) {
		for _, number := range []int{2, 3, slots} {
			wantNoLog(t, slices.Repeat([]string{none}, number), api.ErrBad)
		}
	}
	wantNoLog(t, noTexts()[:slots/2], api.ErrBad)
	wantNoLog(t, append(longTexts(), noTexts()[:slots/2]...), api.ErrBad)
}

// TestP131HowLongAValueIs has texts of all lengths about the greatest one of a value, some of which begin with a command's: it is the log that may not be, not the text that is too long.
func TestP131HowLongAValueIs(t *testing.T) {
	for _, bytes := range []int{0, 1022, 1023, mostBytes, mostBytes + 1, mostBytes + 2, 4096, 4097, 1 << 20} {
		for _, c := range few() {
			none := long(bytes)
			if s := textOf(c); bytes >= mostBytes {
				none = s + long(bytes-len(s))
			}
			wantNoLog(t, []string{none}, api.ErrBad)
			wantNoLog(t, []string{textOf(c), none}, api.ErrBad)
			wantNoLog(t, []string{none, textOf(c)}, api.ErrBad)
		}
	}
}

// TestP131OneTextInTwoValues cuts a text in two, and joins two: neither tells what it was.
func TestP131OneTextInTwoValues(t *testing.T) {
	s, other := textOf(assign(3, []int{0, 1}, 2, "k", "oyez")), textOf(change(1, 3))
	for at := 1; at < len(s); at++ {
		wantNoLog(t, []string{s[:at], s[at:]}, api.ErrBad)
	}
	wantNoLog(t, []string{s + other}, api.ErrBad)
	wantNoLog(t, []string{s, other + s}, api.ErrBad)
	wantNoLog(t, []string{other + other}, api.ErrBad)
}

// How many values there are is told ahead of what they are.
func TestP131OrderOfErrors(t *testing.T) {
	for _, none := range append(noTexts(), longTexts()...) {
		wantNoLog(t, slices.Repeat([]string{none}, slots+1), api.ErrMany)
		for _, at := range []int{0, 100, slots - 1, slots} {
			l := textsOf(nops(slots + 1))
			l[at] = none
			wantNoLog(t, l, api.ErrMany)
		}
	}
}

// TestP132OneChange goes through all groups and all changes.
func TestP132OneChange(t *testing.T) {
	counted, not := 0, 0
	for _, g := range groups() {
		wantMembers(t, g, nil, g.Members)
		for _, of := range subsets() {
			want := g.Members
			if allIn(of, g.Roster) {
				want = of
				counted++
			} else {
				not++
			}
			wantMembers(t, g, []api.Command{change(of...)}, want)
		}
	}
	if counted == 0 || not == 0 {
		t.Error(counted, not)
	}
}

// TestP132TwoChanges goes through all pairs of changes: the last one holds, if it counts.
func TestP132TwoChanges(t *testing.T) {
	for _, g := range someGroups() {
		for _, one := range subsets() {
			for _, other := range subsets() {
				want := g.Members
				if allIn(other, g.Roster) {
					want = other
				} else if allIn(one, g.Roster) {
					want = one
				}
				wantMembers(t, g, []api.Command{change(one...), change(other...)}, want)
			}
		}
	}
}

// TestP132ThreeChanges has all orders of some that count, and some that do in part or not at all.
func TestP132ThreeChanges(t *testing.T) {
	g := group([]int{1, 2, 4}, []int{1, 4})
	changes := []api.Command{change(1), change(2, 4), change(1, 2, 4), change(0, 1), change(4, 5), change(0, 3, 5), change(0, 1, 2, 3, 4, 5), nop()}
	for _, a := range changes {
		for _, b := range changes {
			for _, c := range changes {
				commands := []api.Command{a, b, c}
				wantMembers(t, g, commands, membersBehind(g, commands))
			}
		}
	}
	wantMembers(t, g, []api.Command{change(2), change(1, 4), change(1, 4)}, []int{1, 4})
	wantMembers(t, g, []api.Command{change(1, 2, 4), change(2), change(0, 2)}, []int{2})
	wantMembers(t, g, []api.Command{change(0, 1), change(2, 4), change(1, 3)}, []int{2, 4})
	wantMembers(t, g, []api.Command{change(0), change(3), change(5)}, []int{1, 4})
}

// TestP132AChangeAtEachSlot has one that counts in a full log, and such as do not behind it, ahead of it, and everywhere else.
func TestP132AChangeAtEachSlot(t *testing.T) {
	g := theGroup()
	for at := range slots {
		commands := nops(slots)
		commands[at] = change(2, 3)
		wantMembers(t, g, commands, []int{2, 3})
		for i := range commands {
			if i != at {
				commands[i] = []api.Command{change(0, 4), change(5), change(3, 4, 5), final(1, 3)}[i%4]
			}
		}
		wantMembers(t, g, commands, []int{2, 3})
		commands[at] = change(2, 5)
		wantMembers(t, g, commands, []int{0, 1, 2})
		commands[at], commands[max(at-1, 0)] = change(1), change(0, 3)
		wantMembers(t, g, commands, membersBehind(g, commands))
	}
}

// TestP132OtherKindsChangeNothing has commands of all other kinds ahead of a change and behind it.
func TestP132OtherKindsChangeNothing(t *testing.T) {
	g := theGroup()
	wantMembers(t, g, others(), g.Members)
	for _, c := range others() {
		wantMembers(t, g, []api.Command{c}, g.Members)
		wantMembers(t, g, []api.Command{c, change(1, 3)}, []int{1, 3})
		wantMembers(t, g, []api.Command{change(1, 3), c}, []int{1, 3})
		wantMembers(t, g, []api.Command{c, change(1, 3), c, c, change(1, 4), c}, []int{1, 3})
	}
	wantMembers(t, g, append(others(), append([]api.Command{change(3)}, others()...)...), []int{3})
}

func TestP132GroupsThatMayNotBe(t *testing.T) {
	for _, no := range noGroups() {
		for _, commands := range [][]api.Command{nil, {nop()}, {change(0, 1)}, {change(0)}, {change(1, 2), change(0, 4)}} {
			wantMembersError(t, no.group, textsOf(commands), no.e)
		}
	}
	for _, no := range []noGroup{{group([]int{0}, []int{1}), api.ErrQuorum}, {group(make([]int, 7), []int{0}), api.ErrMany}} {
		wantMembersError(t, no.group, textsOf(different(slots)), no.e)
	}
}

// What is wrong with a group is told ahead of what is wrong with a log.
func TestP132OrderOfMembersErrors(t *testing.T) {
	full := textsOf(nops(slots + 1))
	mixed := append(textsOf(nops(slots)), "what")
	for _, no := range noGroups() {
		for _, l := range [][]string{full, mixed, {"what"}, {""}, {textOf(change(0)), "x"}, {long(mostBytes + 1)}} {
			wantMembersError(t, no.group, l, no.e)
		}
	}
	for _, g := range groups() {
		wantMembersError(t, g, full, api.ErrMany)
		wantMembersError(t, g, mixed, api.ErrMany)
		wantMembersError(t, g, []string{textOf(change(g.Roster...)), "x"}, api.ErrBad)
		wantMembersError(t, g, []string{"x", textOf(change(g.Roster...))}, api.ErrBad)
	}
}

func TestP132FindAtEachSlot(t *testing.T) {
	for _, number := range []int{1, 2, 3, 50, slots} {
		l := textsOf(different(number))
		for i, value := range l {
			wantFind(t, l, value, i+1)
		}
	}
}

// TestP132FindTheFirstOfSeveral has a value at two slots, and at all of them.
func TestP132FindTheFirstOfSeveral(t *testing.T) {
	l := textsOf(different(12))
	for first := range l {
		for second := first + 1; second < len(l); second++ {
			twice := slices.Clone(l)
			twice[second] = twice[first]
			wantFind(t, twice, l[first], first+1)
			wantFind(t, twice, l[second], 0)
		}
	}
	wantFind(t, slices.Concat(l, l, l), l[11], 12)
	wantFind(t, textsOf(nops(slots)), "\x00", 1)
}

// TestP132FindNowhere looks for what is not there: other commands' texts, what is none, the empty one, and those that are too long to be a value.
func TestP132FindNowhere(t *testing.T) {
	for _, number := range []int{0, 1, 2, 24, slots - 1, slots} {
		l := textsOf(different(number))
		for _, value := range slices.Concat(noTexts(), longTexts(), []string{textOf(final(77, 77)), textOf(change(2, 4)), long(1 << 20)}) {
			wantFind(t, l, value, 0)
		}
		for _, value := range textsOf(different(number + 3)[number:]) {
			wantFind(t, l, value, 0)
		}
	}
	for _, value := range []string{"", "\x00", textOf(change(0)), "x"} {
		wantFind(t, nil, value, 0)
		wantFind(t, []string{}, value, 0)
	}
}

// TestP132FindAsksForTheWholeValue looks for what begins a value, ends it, or goes on behind it.
func TestP132FindAsksForTheWholeValue(t *testing.T) {
	for _, c := range few() {
		s := textOf(c)
		l := []string{s, textOf(final(5, 77)), s}
		for at := range len(s) {
			if s[:at] != l[1] {
				wantFind(t, l, s[:at], 0)
			}
			wantFind(t, l, s+s[:at+1], 0)
			if at > 0 {
				wantFind(t, l, s[at:], 0)
			}
		}
		wantFind(t, l, s, 1)
		wantFind(t, l[1:], s, 2)
		wantFind(t, l[1:2], s, 0)
	}
}

// A value is not looked for in a log that may not be, though it stands there.
func TestP132OrderOfFindsErrors(t *testing.T) {
	for _, value := range append(noTexts(), textOf(change(1, 3)), "\x00") {
		for _, l := range [][]string{{value, "x"}, {"x", value}, {textOf(nop()), "", value, value}, {value, long(mostBytes + 1)}} {
			if slot, is, e := log.Find(l, value); slot != 0 || is || e != api.ErrBad {
				t.Errorf("Find(%s; %s) = %d, %t, %d", brief(l), short(value), slot, is, e)
			}
		}
		many := append(textsOf(nops(slots)), value)
		if slot, is, e := log.Find(many, value); slot != 0 || is || e != api.ErrMany {
			t.Errorf("Find(%s; %s) = %d, %t, %d", brief(many), short(value), slot, is, e)
		}
	}
}

func ExampleMembers() {
	g := api.Group{Roster: []int{0, 1, 2, 3}, Members: []int{0, 1, 2}}
	var l []string
	for _, members := range [][]int{{1, 3}, {4, 5}} {
		value, _ := command.Write(api.Command{Kind: api.CmdChange, Members: members})
		l = append(l, value)
	}
	for slot := range len(l) + 1 {
		members, e := log.Members(g, l[:slot])
		fmt.Println("slot "+strconv.Itoa(slot+1)+":", members, e == api.OK)
	}
	// Output:
	// slot 1: [0 1 2] true
	// slot 2: [1 3] true
	// slot 3: [1 3] true
}

func ExampleFind() {
	fmt.Println(log.Find([]string{"\x00", "\x02\x03\xc8\x01"}, "\x02\x03\xc8\x01"))
	// Output: 2 true towncrier: well
}
