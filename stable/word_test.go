package stable_test

import (
	"fmt"
	"math"
	"slices"
	"strconv"
	"strings"

	"towncrier/api"
)

// The chapter's words, once more: nothing here asks the package, or those below it.

const (
	first = 8       // the ballot of the round 1 and the node 0
	last  = 8388613 // the one of the round MaxRound and the node 5
	slots = 200     // MaxSlots, as it stands in the chapter
)

func isBallot(b int) bool { return b >= first && b <= last && b%8 < 6 }

// isVote tells whether a vote may be (chapter 7) and promised something.
func isVote(v api.Vote) bool {
	if !isBallot(v.Promised) || len(v.Value) > 1024 {
		return false
	}
	if v.Ballot == 0 {
		return v.Value == ""
	}
	return isBallot(v.Ballot) && v.Ballot <= v.Promised
}

// mayBe tells whether what lasts may be. Places are numbers that rise as the votes are to.
func mayBe(s api.Stable) bool {
	if len(s.Logs) < 1 || len(s.Logs) > 4 {
		return false
	}
	for _, log := range s.Logs {
		if len(log) > slots {
			return false
		}
		for _, value := range log {
			if len(value) > 1024 {
				return false
			}
		}
	}
	ahead := 0
	for _, v := range s.Votes {
		if v.Group < 0 || v.Group >= len(s.Logs) || v.Slot < len(s.Logs[v.Group])+1 || v.Slot > slots || !isVote(v.Vote) {
			return false
		}
		if v.Group*1000+v.Slot <= ahead {
			return false
		}
		ahead = v.Group*1000 + v.Slot
	}
	return true
}

// isRecord tells whether a record may be (chapter 10).
func isRecord(r api.Record) bool {
	if r.Group < 0 || r.Group > 3 || r.Slot < 1 || r.Slot > slots || len(r.Value) > 1024 {
		return false
	}
	switch r.Kind {
	case 1:
		return isBallot(r.Ballot) && r.Value == ""
	case 2:
		return isBallot(r.Ballot)
	case 3:
		return r.Ballot == 0
	}
	return false
}

// there is the vote on a slot, found by going through all of them.
func there(s api.Stable, group, slot int) (api.Vote, bool) {
	for _, v := range s.Votes {
		if v.Group == group && v.Slot == slot {
			return v.Vote, true
		}
	}
	return api.Vote{}, false
}

// behind is what lasts with a record done to it: the votes stand anywhere first, and are put in order then.
func behind(s api.Stable, r api.Record) (api.Stable, api.Errno) {
	if !mayBe(s) || !isRecord(r) {
		return api.Stable{}, api.ErrBad
	}
	if r.Group >= len(s.Logs) {
		return api.Stable{}, api.ErrNone
	}
	ahead := len(s.Logs[r.Group])
	if r.Slot <= ahead || r.Kind == 3 && r.Slot != ahead+1 {
		return api.Stable{}, api.ErrBad
	}
	v, _ := there(s, r.Group, r.Slot)
	next := plain(s)
	next.Votes = slices.DeleteFunc(next.Votes, func(v api.Seen) bool { return v.Group == r.Group && v.Slot == r.Slot })
	if r.Kind == 3 {
		next.Logs[r.Group] = append(next.Logs[r.Group], r.Value)
		return next, api.OK
	}
	if r.Ballot < v.Promised {
		return api.Stable{}, api.ErrOld
	}
	v.Promised = r.Ballot
	if r.Kind == 2 {
		v = api.Vote{Promised: r.Ballot, Ballot: r.Ballot, Value: r.Value}
	}
	next.Votes = append(next.Votes, api.Seen{Group: r.Group, Slot: r.Slot, Vote: v})
	slices.SortFunc(next.Votes, func(a, b api.Seen) int { return a.Group*1000 + a.Slot - b.Group*1000 - b.Slot })
	return next, api.OK
}

// shortest are the records that Image tells.
func shortest(s api.Stable) (l []api.Record) {
	for group, log := range s.Logs {
		for i, value := range log {
			l = append(l, decide(group, i+1, value))
		}
	}
	for _, v := range s.Votes {
		if v.Vote.Ballot > 0 {
			l = append(l, accept(v.Group, v.Slot, v.Vote.Ballot, v.Vote.Value))
		}
		if v.Vote.Promised > v.Vote.Ballot {
			l = append(l, promise(v.Group, v.Slot, v.Vote.Promised))
		}
	}
	return l
}

// bytesOf tells the bytes of a number, by division, as chapter 1 does.
func bytesOf(l ...int) (s string) {
	for _, n := range l {
		for ; n >= 128; n /= 128 {
			s += string([]byte{byte(n%128 + 128)})
		}
		s += string([]byte{byte(n)})
	}
	return s
}

// textOf is a record's text (chapter 10), of any record.
func textOf(r api.Record) string {
	switch r.Kind {
	case 1:
		return bytesOf(1, r.Group, r.Slot, r.Ballot)
	case 2:
		return bytesOf(2, r.Group, r.Slot, r.Ballot, len(r.Value)) + r.Value
	}
	return bytesOf(int(r.Kind), r.Group, r.Slot, len(r.Value)) + r.Value
}

func textsOf(l []api.Record) (texts []string) {
	for _, r := range l {
		texts = append(texts, textOf(r))
	}
	return texts
}

// made is what records make, one behind the other, or the first one's error.
func made(groups int, l []api.Record) (s api.Stable, e api.Errno) {
	s = empty(groups)
	for _, r := range l {
		if s, e = behind(s, r); e != api.OK {
			return api.Stable{}, e
		}
	}
	return s, api.OK
}

// promise, accept and decide are records; they stand in many places.
func promise(group, slot, ballot int) api.Record {
	return api.Record{Kind: api.RecPromise, Group: group, Slot: slot, Ballot: ballot}
}

func accept(group, slot, ballot int, value string) api.Record {
	return api.Record{Kind: api.RecAccept, Group: group, Slot: slot, Ballot: ballot, Value: value}
}

func decide(group, slot int, value string) api.Record {
	return api.Record{Kind: api.RecDecide, Group: group, Slot: slot, Value: value}
}

// promised and accepted are votes with their places.
func promised(group, slot, ballot int) api.Seen {
	return api.Seen{Group: group, Slot: slot, Vote: api.Vote{Promised: ballot}}
}

func accepted(group, slot, ballot, by int, value string) api.Seen {
	return api.Seen{Group: group, Slot: slot, Vote: api.Vote{Promised: ballot, Ballot: by, Value: value}}
}

// plain is what lasts in memory of its own.
func plain(s api.Stable) api.Stable {
	logs := make([][]string, len(s.Logs))
	for group, log := range s.Logs {
		logs[group] = append([]string{}, log...)
	}
	return api.Stable{Logs: logs, Votes: append([]api.Seen{}, s.Votes...)}
}

// changed is what lasts, in memory of its own, behind a change.
func changed(s api.Stable, change func(*api.Stable)) api.Stable {
	s = plain(s)
	change(&s)
	return s
}

// same holds what lasts against each other without asking the package; a list without elements may be nil or not.
func same(a, b api.Stable) bool {
	if len(a.Logs) != len(b.Logs) || len(a.Votes) != len(b.Votes) {
		return false
	}
	for group := range a.Logs {
		if !slices.Equal(a.Logs[group], b.Logs[group]) {
			return false
		}
	}
	return slices.Equal(a.Votes, b.Votes)
}

// empty is what lasts at the beginning.
func empty(groups int) api.Stable { return api.Stable{Logs: make([][]string, groups)} }

// filled is a log of so many values.
func filled(values int) []string {
	l := make([]string, values)
	for i := range l {
		l[i] = "v" + strconv.Itoa(i+1)
	}
	return l
}

// busy has logs of several lengths and votes of all forms, at the first places behind them and at the last ones, with gaps between.
func busy() api.Stable {
	return api.Stable{
		Logs: [][]string{{"a", "b"}, nil, filled(198), {"", long(1024), "c"}},
		Votes: []api.Seen{
			promised(0, 3, 17), accepted(0, 5, 25, 17, "x"), accepted(0, 200, last, last, long(1024)),
			accepted(1, 1, 8, 8, ""), promised(1, 4, 8), promised(1, 6, 13), accepted(1, 7, 24, 8, "y"),
			accepted(2, 199, 19, 16, "z"), promised(2, 200, last),
			accepted(3, 5, 9, 9, "w"),
		},
	}
}

// crowded has a vote on each slot that there may be one on.
func crowded() api.Stable {
	s := empty(4)
	for group := range 4 {
		for slot := 1; slot <= slots; slot++ {
			b := 16 + 8*(slot%7) + group
			s.Votes = append(s.Votes, []api.Seen{promised(group, slot, b), accepted(group, slot, b, b, "v"), accepted(group, slot, b, b-8, "")}[slot%3])
		}
	}
	return s
}

// decided has logs that are full.
func decided() api.Stable {
	return api.Stable{Logs: [][]string{filled(slots), filled(slots), filled(slots), filled(slots)}}
}

// samples may all be.
func samples() []api.Stable {
	one := api.Stable{Logs: [][]string{{"a"}}, Votes: []api.Seen{accepted(0, 2, 17, 8, "x")}}
	return []api.Stable{empty(1), empty(2), empty(3), empty(4), one, busy(), crowded(), decided(),
		{Logs: [][]string{filled(199), filled(slots)}, Votes: []api.Seen{promised(0, 200, 8)}},
		{Logs: [][]string{nil, nil, {"a"}}, Votes: []api.Seen{promised(2, 2, 8), promised(2, 3, 8), promised(2, 4, 8)}}}
}

func long(bytes int) string { return strings.Repeat("v", bytes) }

// values are of none to 1,024 bytes; some have fewer runes than bytes, and some none.
func values() []string {
	return []string{"", "x", "\x00", "\xff", "é", "hear ye", long(127), long(128), long(1023), long(1024), strings.Repeat("é", 512), strings.Repeat("\xff", 1024)}
}

// noValues are of more; the runes of some are few enough.
func noValues() []string {
	return []string{long(1025), long(1026), long(4096), long(4097), long(1 << 20), strings.Repeat("é", 513), strings.Repeat("\xff", 1025)}
}

func ballots() []int { return []int{8, 9, 13, 16, 17, 21, 24, 8000, last - 8, last - 1, last} }

// noBallots are numbers that are no ballots; among them is no 0, which stands for none.
func noBallots() []int {
	return append(noNumbers(), -last, -8, -1, 1, 5, 7, 14, 15, 22, 8382, last+1, last+2, last+3, last+8)
}

// noNumbers are in no field: those at which ints end, or lose bits.
func noNumbers() []int {
	return []int{math.MinInt, math.MinInt + 1, math.MinInt + 8, -1 << 40, math.MinInt32, 1 << 32, 1<<32 + 1, 1<<32 + 8, 1<<40 + 8, math.MaxInt - 7, math.MaxInt}
}

// noVotes may not be, or promised nothing.
func noVotes() (l []api.Vote) {
	for _, b := range append(noBallots(), 0) {
		l = append(l, api.Vote{Promised: b}, api.Vote{Promised: b, Ballot: b}, api.Vote{Promised: b, Ballot: 8, Value: "x"})
		if b != 0 {
			l = append(l, api.Vote{Promised: 17, Ballot: b}, api.Vote{Promised: last, Ballot: b, Value: "x"})
		}
	}
	for _, value := range noValues() {
		l = append(l, api.Vote{Promised: 17, Ballot: 8, Value: value}, api.Vote{Promised: 17, Value: value})
	}
	return append(l, api.Vote{Promised: 17, Value: "x"}, api.Vote{Value: "x"}, api.Vote{Promised: 8, Ballot: 9}, api.Vote{Promised: 16, Ballot: 17, Value: "x"}, api.Vote{Promised: last - 1, Ballot: last})
}

// noRecords may not be, wherever.
func noRecords() (l []api.Record) {
	l = []api.Record{{}, promise(0, 3, 0), accept(0, 3, 0, "x"), {Kind: 1, Slot: 3, Ballot: 17, Value: "x"}, {Kind: 3, Slot: 3, Ballot: 17, Value: "x"}}
	for _, kind := range []uint8{0, 4, 5, 128, 255} {
		l = append(l, api.Record{Kind: kind, Slot: 3, Ballot: 17}, api.Record{Kind: kind, Slot: 3, Value: "x"}, api.Record{Kind: kind, Group: 1, Slot: 1})
	}
	for _, b := range noBallots() {
		l = append(l, promise(0, 3, b), accept(0, 3, b, "x"), api.Record{Kind: 3, Slot: 3, Ballot: b})
	}
	for _, value := range noValues() {
		l = append(l, accept(0, 3, 17, value), decide(0, 3, value), api.Record{Kind: 1, Slot: 3, Ballot: 17, Value: value})
	}
	for _, group := range append(noNumbers(), -1, 4, 5, 256) {
		l = append(l, promise(group, 3, 17), accept(group, 3, 17, "x"), decide(group, 3, "x"))
	}
	for _, slot := range append(noNumbers(), -1, 0, 201, 202, 256) {
		l = append(l, promise(0, slot, 17), accept(0, slot, 17, "x"), decide(0, slot, "x"))
	}
	return l
}

func show(s api.Stable) string {
	text := "{"
	for i, log := range s.Logs {
		if i == 5 {
			text += ".."
			break
		}
		text += fmt.Sprint(len(log), ":")
		for _, value := range log[:min(3, len(log))] {
			text += brief(value)
		}
		text += " "
	}
	text += fmt.Sprint("votes ", len(s.Votes))
	for _, v := range s.Votes[:min(12, len(s.Votes))] {
		text += fmt.Sprint(" ", v.Group, "/", v.Slot, ":", showVote(v.Vote))
	}
	return text + "}"
}

func showVote(v api.Vote) string { return fmt.Sprint(v.Promised, ",", v.Ballot, brief(v.Value)) }

func showRecord(r api.Record) string {
	return fmt.Sprint("kind ", r.Kind, ", group ", r.Group, ", slot ", r.Slot, ", ballot ", r.Ballot, ", ", brief(r.Value))
}

func brief(s string) string {
	if len(s) > 20 {
		return strconv.Quote(s[:20]) + ".. of " + strconv.Itoa(len(s)) + " bytes"
	}
	return strconv.Quote(s)
}
