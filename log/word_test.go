package log_test

import (
	"fmt"
	"math"
	"slices"
	"strconv"
	"strings"

	"towncrier/api"
)

// The chapter's words, once more: nothing here asks the package, or those below it.

const (
	slots     = 200        // MaxSlots, as it stands in the chapter
	lastId    = 6291455    // 6 * 2^20 - 1
	lastTime  = 1073741824 // 2^30, as the last N is
	mostBytes = 1024       // of a value
)

// rises tells whether nodes may be members: some, each from 0 to 5 and more than the one ahead.
func rises(nodes []int) bool {
	for i, n := range nodes {
		if n < 0 || n > 5 || i > 0 && nodes[i-1] >= n {
			return false
		}
	}
	return len(nodes) > 0
}

// allIn tells whether all of some nodes are among others.
func allIn(nodes, others []int) bool {
	for _, n := range nodes {
		if !slices.Contains(others, n) {
			return false
		}
	}
	return true
}

// counts tells whether a command changes the members of a group with such a roster.
func counts(roster []int, c api.Command) bool {
	return c.Kind == 3 && allIn(c.Members, roster)
}

// membersBehind tells the members of the next slot, from the first command on: each change that counts puts others in their place.
func membersBehind(g api.Group, commands []api.Command) []int {
	members := g.Members
	for _, c := range commands {
		if counts(g.Roster, c) {
			members = c.Members
		}
	}
	return slices.Clone(members)
}

// slotOf tells the first slot of a value, from the last one on; 0 where there is none.
func slotOf(l []string, value string) (slot int) {
	for i := len(l); i > 0; i-- {
		if l[i-1] == value {
			slot = i
		}
	}
	return slot
}

// bytesOf tells the bytes of numbers, by division, as chapter 1 does.
func bytesOf(l ...int) (s string) {
	for _, n := range l {
		for ; n >= 128; n /= 128 {
			s += string([]byte{byte(n%128 + 128)})
		}
		s += string([]byte{byte(n)})
	}
	return s
}

func listOf(l []int) string { return bytesOf(len(l)) + bytesOf(l...) }

// textOf is a command's text, as chapter 12 tells it.
func textOf(c api.Command) string {
	m := c.Message
	switch c.Kind {
	case 1:
		return bytesOf(1, m.Id) + listOf(m.Groups) + bytesOf(m.Topic, len(m.Key)) + m.Key + bytesOf(len(m.Body)) + m.Body
	case 2:
		return bytesOf(2, c.Id, c.Time)
	case 3:
		return bytesOf(3) + listOf(c.Members)
	case 4:
		return bytesOf(4, c.Id, c.Topic, c.Who, c.N)
	case 5, 6:
		return bytesOf(int(c.Kind), c.Id, c.Topic, c.N)
	}
	return bytesOf(int(c.Kind))
}

func textsOf(commands []api.Command) []string {
	l := make([]string, len(commands))
	for i, c := range commands {
		l[i] = textOf(c)
	}
	return l
}

// sameCommand takes a list without elements for another one, be they nil or not.
func sameCommand(a, b api.Command) bool {
	return [6]int{int(a.Kind), a.Id, a.Time, a.Topic, a.Who, a.N} == [6]int{int(b.Kind), b.Id, b.Time, b.Topic, b.Who, b.N} &&
		[2]int{a.Message.Id, a.Message.Topic} == [2]int{b.Message.Id, b.Message.Topic} &&
		[2]string{a.Message.Key, a.Message.Body} == [2]string{b.Message.Key, b.Message.Body} &&
		slices.Equal(a.Members, b.Members) && slices.Equal(a.Message.Groups, b.Message.Groups)
}

func same(a, b []api.Command) bool { return slices.EqualFunc(a, b, sameCommand) }

// assign, final, change, commit, retain and compact are commands; they stand in many places.
func assign(id int, groups []int, topic int, key, body string) api.Command {
	return api.Command{Kind: api.CmdAssign, Message: api.Message{Id: id, Groups: groups, Topic: topic, Key: key, Body: body}}
}

func final(id, time int) api.Command { return api.Command{Kind: api.CmdFinal, Id: id, Time: time} }

func change(l ...int) api.Command { return api.Command{Kind: api.CmdChange, Members: l} }

func commit(id, topic, who, n int) api.Command {
	return api.Command{Kind: api.CmdCommit, Id: id, Topic: topic, Who: who, N: n}
}

func retain(id, topic, n int) api.Command {
	return api.Command{Kind: api.CmdRetain, Id: id, Topic: topic, N: n}
}

func compact(id, topic, n int) api.Command {
	return api.Command{Kind: api.CmdCompact, Id: id, Topic: topic, N: n}
}

func nop() api.Command { return api.Command{} }

// nops are so many of them.
func nops(number int) []api.Command { return make([]api.Command, number) }

func group(roster, members []int) api.Group { return api.Group{Roster: roster, Members: members} }

// theGroup is the one of the chapter's examples.
func theGroup() api.Group { return group([]int{0, 1, 2, 3}, []int{0, 1, 2}) }

// others are commands of all kinds that are no changes; some have the bytes of one, or of another command, in a key or a body.
func others() []api.Command {
	return []api.Command{
		nop(),
		assign(0, []int{0}, 0, "", ""), assign(1, []int{0, 2}, 3, "k", ""), assign(3, []int{0, 1}, 2, "\x00", "oyez"),
		assign(3, []int{2, 3}, 1, "\x03\x01\x01", "\x03\x02\x01\x03"), assign(lastId, []int{0, 1, 2, 3}, 3, long(16), long(64)),
		final(0, 1), final(3, 200), final(1, 3), final(lastId, lastTime),
		commit(0, 0, 0, 0), commit(7, 1, 7, 9), commit(lastId, 3, 7, lastTime),
		retain(0, 0, 0), retain(3, 1, 1), retain(lastId, 3, lastTime),
		compact(0, 0, 0), compact(3, 1, 1), compact(lastId, 3, lastTime),
	}
}

// few are commands of all kinds, none twice.
func few() []api.Command {
	return append(others(), change(0), change(5), change(1, 3), change(1, 3, 4), change(0, 1, 2, 3, 4, 5))
}

// different are so many commands, none twice, of all kinds.
func different(number int) (commands []api.Command) {
	commands = few()
	for i := len(commands); i < number; i++ {
		commands = append(commands, []api.Command{final(i, 5), assign(i, []int{i % 4}, i/4%4, "k", "b"), commit(i, 2, 3, i), retain(i, 2, i), compact(i, 2, i)}[i%5])
	}
	return commands[:number]
}

// subsets are all lists of some of the nodes, rising; the one of none is not among them.
func subsets() (l [][]int) {
	for set := 1; set < 64; set++ {
		var of []int
		for node := range 6 {
			if set>>node%2 == 1 {
				of = append(of, node)
			}
		}
		l = append(l, of)
	}
	return l
}

// groups are all that may be.
func groups() (l []api.Group) {
	for _, roster := range subsets() {
		for _, members := range subsets() {
			if allIn(members, roster) {
				l = append(l, group(roster, members))
			}
		}
	}
	return l
}

func someGroups() []api.Group {
	all := []int{0, 1, 2, 3, 4, 5}
	return []api.Group{theGroup(), group([]int{0}, []int{0}), group([]int{5}, []int{5}), group(all, all), group(all, []int{4}), group([]int{0, 2, 3, 5}, []int{2, 3})}
}

// noGroup is a group that may not be, and its error.
type noGroup struct {
	group api.Group
	e     api.Errno
}

// noGroups have something wrong in their roster, among their members, or in both: then the roster's error is told.
func noGroups() (l []noGroup) {
	good := []int{0, 1, 2}
	for _, wrong := range append(noNodes(), nil, []int{}, []int{1, 0}, []int{0, 0}, []int{0, 1, 2, 2}, []int{2, 1, 0}) {
		l = append(l, noGroup{group(wrong, good), api.ErrQuorum}, noGroup{group(good, wrong), api.ErrQuorum}, noGroup{group(wrong, wrong), api.ErrQuorum})
		for _, many := range tooMany() {
			l = append(l, noGroup{group(wrong, many), api.ErrQuorum}, noGroup{group(many, wrong), api.ErrMany})
		}
	}
	for _, many := range tooMany() {
		l = append(l, noGroup{group(many, good), api.ErrMany}, noGroup{group(good, many), api.ErrMany}, noGroup{group(many, many), api.ErrMany})
	}
	for _, roster := range subsets() {
		for _, members := range subsets() {
			if !allIn(members, roster) {
				l = append(l, noGroup{group(roster, members), api.ErrQuorum})
			}
		}
	}
	return l
}

// noNodes are lists with a number that is no node's, at their end or their front.
func noNodes() (l [][]int) {
	for _, n := range []int{-1, -2, math.MinInt, math.MinInt32, 6, 7, 8, 64, 256, 1 << 32, 1<<32 + 1, math.MaxInt} {
		l = append(l, []int{n}, []int{0, 1, n}, []int{n, 4, 5})
	}
	return l
}

// tooMany are more than six nodes.
func tooMany() [][]int {
	return [][]int{{0, 1, 2, 3, 4, 5, 6}, {0, 1, 2, 3, 4, 5, 5}, {-1, 0, 1, 2, 3, 4, 5}, make([]int, 7), make([]int, 1000)}
}

// noTexts are no command's: cut ones, some with bytes behind, or two in one, others with fields or forms of numbers that may not be, and what is no command at all.
func noTexts() (l []string) {
	for _, c := range few() {
		s := textOf(c)
		l = append(l, s[:len(s)-1], s+"\x00", s+"x", " "+s, s+s, "\x00"+s, s+textOf(final(3, 200)), s+long(mostBytes-len(s)), s+long(mostBytes+1-len(s)))
	}
	return append(l, "", "x", "\x07", "\xff", "nop", "hear ye", "what",
		"\x80\x00", "\x80\x02", "\x83\x02\x01\x01", "\x83\x00\x01\x01", // a kind in a longer form; others that fall on 0 and 3 where bits are lost
		"\x03\x00", "\x03\x01\x06", "\x03\x02\x01\x00", "\x03\x02\x01\x01", "\x03\x07\x00\x01\x02\x03\x04\x05\x06", "\x03\x01", "\x03",
		"\x02\x03\x00", "\x01\x01\x00\x00\x00\x00", "\x04\x07\x01\x08\x09", "\x05\x07\x04\x09",
		long(1023), long(mostBytes), strings.Repeat("\x00", mostBytes), strings.Repeat("é", mostBytes/2))
}

// longTexts are longer than a value is.
func longTexts() []string {
	return []string{long(mostBytes + 1), strings.Repeat("\x00", mostBytes+1), long(4097), long(1 << 16)}
}

func long(bytes int) string { return strings.Repeat("v", bytes) }

func show(commands []api.Command) string { return brief(textsOf(commands)) }

func showGroup(g api.Group) string {
	return "(" + briefList(g.Roster) + "; " + briefList(g.Members) + ")"
}

// brief tells what is at a log's beginning and at its end.
func brief(l []string) string {
	text := strconv.Itoa(len(l)) + " values:"
	for i, s := range l {
		if i < 6 || i >= len(l)-2 {
			text += " " + short(s)
		}
	}
	return text
}

func short(s string) string {
	if len(s) > 20 {
		return strconv.Quote(s[:20]) + ".. of " + strconv.Itoa(len(s)) + " bytes"
	}
	return strconv.Quote(s)
}

func briefList(l []int) string {
	if len(l) > 10 {
		return fmt.Sprint(l[:10]) + ".. of " + strconv.Itoa(len(l))
	}
	return fmt.Sprint(l)
}
