package skeen_test

import (
	"fmt"
	"math"
	"slices"
	"sort"
	"strconv"
	"strings"

	"towncrier/api"
)

// The chapter's words, once more: nothing here asks the package, or those below it.

const (
	slots    = 200        // MaxSlots, as it stands in the chapter
	lastId   = 6291455    // 6 * 2^20 - 1
	lastTime = 1073741824 // 2^30, as the last N is
)

// placeOf is a stamp that may be as one number: the time in front, and behind it the id, which is below 2^23.
func placeOf(time, id int) int { return time<<23 + id }

func placeOfWait(w api.Wait) int { return placeOf(w.Time, w.Message.Id) }

func isId(id int) bool { return id >= 0 && id <= lastId }

func isIn(n, least, most int) bool { return n >= least && n <= most }

// rise tells whether there are some numbers, each more than the one ahead, and from 0 to the most.
func rise(l []int, most int) bool {
	for i, n := range l {
		if !isIn(n, 0, most) || i > 0 && l[i-1] >= n {
			return false
		}
	}
	return len(l) > 0
}

func isMessage(m api.Message) bool {
	return isId(m.Id) && rise(m.Groups, 3) && isIn(m.Topic, 0, 3) && len(m.Key) <= 16 && len(m.Body) <= 64
}

// isCommand takes off what a kind names, if it may be; the rest must be zero.
func isCommand(c api.Command) bool {
	switch {
	case c.Kind == 1 && isMessage(c.Message):
		c.Message = api.Message{}
	case c.Kind == 2 && isId(c.Id) && isIn(c.Time, 1, lastTime):
		c.Id, c.Time = 0, 0
	case c.Kind == 3 && rise(c.Members, 5):
		c.Members = nil
	case c.Kind == 4 && isId(c.Id) && isIn(c.Topic, 0, 3) && isIn(c.Who, 0, 7) && isIn(c.N, 0, lastTime):
		c.Id, c.Topic, c.Who, c.N = 0, 0, 0, 0
	case (c.Kind == 5 || c.Kind == 6) && isId(c.Id) && isIn(c.Topic, 0, 3) && isIn(c.N, 0, lastTime):
		c.Id, c.Topic, c.N = 0, 0, 0
	case c.Kind != 0:
		return false
	}
	return len(c.Members) == 0 && len(c.Message.Groups) == 0 && [5]int{c.Id, c.Time, c.Topic, c.Who, c.N} == [5]int{} &&
		[2]int{c.Message.Id, c.Message.Topic} == [2]int{} && c.Message.Key+c.Message.Body == ""
}

// mayBe tells whether a clock may be.
func mayBe(s api.Skeen) bool {
	if !isIn(s.Clock, 0, lastTime) || len(s.Waits) > slots || len(s.Done) > slots {
		return false
	}
	seen, last := map[int]bool{}, -1
	for _, d := range s.Done {
		if !isId(d.Id) || !isIn(d.Time, 1, s.Clock) || seen[d.Id] || placeOf(d.Time, d.Id) <= last {
			return false
		}
		seen[d.Id], last = true, placeOf(d.Time, d.Id)
	}
	idAhead := -1
	least, final := math.MaxInt, false
	for _, w := range s.Waits {
		if !isMessage(w.Message) || !isIn(w.Time, 1, s.Clock) || seen[w.Message.Id] || w.Message.Id <= idAhead || placeOfWait(w) <= last {
			return false
		}
		idAhead = w.Message.Id
		if placeOfWait(w) < least {
			least, final = placeOfWait(w), w.Final
		}
	}
	return !final
}

// behind tells what a command makes of a clock, and what is delivered by it: all that waits is laid into the order of all messages, and what is final goes from its front.
func behind(s api.Skeen, group int, c api.Command) (api.Skeen, []api.Message, api.Errno) {
	switch {
	case !mayBe(s):
		return api.Skeen{}, nil, api.ErrBad
	case !isIn(group, 0, 3):
		return api.Skeen{}, nil, api.ErrArg
	case !isCommand(c):
		return api.Skeen{}, nil, api.ErrKind
	}
	s, e := done(s, group, c)
	if e != api.OK {
		return api.Skeen{}, nil, e
	}
	var delivered []api.Message
	var left []api.Wait
	sort.Slice(s.Waits, func(i, k int) bool { return placeOfWait(s.Waits[i]) < placeOfWait(s.Waits[k]) })
	for _, w := range s.Waits {
		if len(left) > 0 || !w.Final {
			left = append(left, w)
			continue
		}
		delivered = append(delivered, w.Message)
		s.Done = append(s.Done, api.Stamp{Time: w.Time, Id: w.Message.Id})
	}
	if len(s.Done) > slots {
		return api.Skeen{}, nil, api.ErrFull
	}
	sort.Slice(left, func(i, k int) bool { return left[i].Message.Id < left[k].Message.Id })
	s.Waits = left
	return s, delivered, api.OK
}

// done does a command to a clock, in new lists.
func done(s api.Skeen, group int, c api.Command) (api.Skeen, api.Errno) {
	known := map[int]bool{}
	var waits []api.Wait
	for _, w := range s.Waits {
		known[w.Message.Id] = true
		if c.Kind == 2 && w.Message.Id == c.Id && !w.Final && c.Time >= w.Time {
			w.Time, w.Final = c.Time, true
			if c.Time > s.Clock {
				s.Clock = c.Time
			}
		}
		waits = append(waits, w)
	}
	for _, d := range s.Done {
		known[d.Id] = true
	}
	if c.Kind == 1 && slices.Contains(c.Message.Groups, group) && !known[c.Message.Id] {
		if s.Clock == lastTime || len(waits) == slots {
			return api.Skeen{}, api.ErrFull
		}
		s.Clock++
		waits = append(waits, api.Wait{Message: c.Message, Time: s.Clock})
	}
	return api.Skeen{Clock: s.Clock, Waits: waits, Done: slices.Clone(s.Done)}, api.OK
}

// sameMessage takes a list without elements for another one, be they nil or not.
func sameMessage(a, b api.Message) bool {
	return [2]int{a.Id, a.Topic} == [2]int{b.Id, b.Topic} && [2]string{a.Key, a.Body} == [2]string{b.Key, b.Body} && slices.Equal(a.Groups, b.Groups)
}

func sameMessages(a, b []api.Message) bool { return slices.EqualFunc(a, b, sameMessage) }

func same(a, b api.Skeen) bool {
	return a.Clock == b.Clock && slices.Equal(a.Done, b.Done) && slices.EqualFunc(a.Waits, b.Waits, func(a, b api.Wait) bool {
		return a.Time == b.Time && a.Final == b.Final && sameMessage(a.Message, b.Message)
	})
}

// message has an id, and goes to groups; the rest of it is told by its id.
func message(id int, groups ...int) api.Message {
	return api.Message{Id: id, Groups: groups, Topic: id & 3, Key: strings.Repeat("k", id&7), Body: "oyez " + strconv.Itoa(id)}
}

func assign(id int, groups ...int) api.Command { return assignOf(message(id, groups...)) }

func assignOf(m api.Message) api.Command { return api.Command{Kind: api.CmdAssign, Message: m} }

func final(id, time int) api.Command { return api.Command{Kind: api.CmdFinal, Id: id, Time: time} }

// wait is a message to the groups 0 and 2 that waits; last is one whose time is final.
func wait(id, time int) api.Wait { return api.Wait{Message: message(id, 0, 2), Time: time} }

func last(id, time int) api.Wait {
	return api.Wait{Message: message(id, 0, 2), Time: time, Final: true}
}

func waits(l ...api.Wait) []api.Wait { return l }

// stamps are made of times and ids, by twos.
func stamps(numbers ...int) (l []api.Stamp) {
	for i := 0; i < len(numbers); i += 2 {
		l = append(l, api.Stamp{Time: numbers[i], Id: numbers[i+1]})
	}
	return l
}

func clock(time int, waits []api.Wait, done ...int) api.Skeen {
	return api.Skeen{Clock: time, Waits: waits, Done: stamps(done...)}
}

// waiting are so many messages that wait, behind a time.
func waiting(number, time int) (l []api.Wait) {
	for i := range number {
		l = append(l, wait(1000+i*7, time+1+(i*37)%number))
	}
	return l
}

// delivered are the stamps of so many, the times from 1 on.
func delivered(number int) (l []api.Stamp) {
	for i := range number {
		l = append(l, api.Stamp{Time: i + 1, Id: lastId - i*5})
	}
	return l
}

// longClock has as many that wait, and as many that are done.
func longClock(waits, done int) api.Skeen {
	return api.Skeen{Clock: waits + done, Waits: waiting(waits, done), Done: delivered(done)}
}

// deepCopy is a clock in new memory.
func deepCopy(s api.Skeen) api.Skeen {
	var l []api.Wait
	for _, w := range s.Waits {
		w.Message.Groups = append([]int(nil), w.Message.Groups...)
		l = append(l, w)
	}
	return api.Skeen{Clock: s.Clock, Waits: l, Done: append([]api.Stamp(nil), s.Done...)}
}

// turned is a clock in new memory that was changed.
func turned(s api.Skeen, turn func(s *api.Skeen)) api.Skeen {
	s = deepCopy(s)
	turn(&s)
	return s
}

// theClock has three that wait, of which the last one in the order of all is final, and three that are done; two of each have one time.
func theClock() api.Skeen {
	return clock(20, waits(wait(5, 9), last(7, 12), wait(9, 9)), 3, 8, 3, 11, 9, 2)
}

// someClocks may be.
func someClocks() []api.Skeen {
	return []api.Skeen{
		{}, {Waits: []api.Wait{}, Done: []api.Stamp{}}, {Clock: 5}, {Clock: lastTime}, theClock(),
		clock(1, waits(wait(0, 1))), clock(1, nil, 1, 0), clock(lastTime, waits(wait(lastId, lastTime))), clock(lastTime, nil, lastTime, lastId),
		clock(2, waits(wait(5, 1), wait(9, 2))), clock(7, waits(wait(5, 1), last(9, 7))), clock(7, waits(last(5, 7), wait(9, 1))),
		clock(7, waits(last(5, 7), last(6, 5), last(7, 6), wait(9, 4), last(11, 4)), 1, 8, 2, 3, 4, 4),
		clock(4, waits(wait(5, 4), wait(9, 4)), 4, 3, 4, 4),
		longClock(slots, 0), longClock(0, slots), longClock(slots, slots), longClock(slots-1, slots-1),
		clock(lastTime, waits(wait(1, 1), last(2, lastTime), wait(3, lastTime))),
	}
}

// noClocks may not be: each is one that may be, with one thing wrong.
func noClocks() (l []api.Skeen) {
	for _, time := range []int{-1, math.MinInt, lastTime + 1, 1 << 31, 1 << 40, math.MaxInt} {
		l = append(l, api.Skeen{Clock: time}, turned(theClock(), func(s *api.Skeen) { s.Clock = time }))
	}
	l = append(l, longClock(slots+1, 0), longClock(0, slots+1), longClock(slots+1, slots), longClock(slots, slots+1), longClock(1<<12, 0), longClock(0, 1<<12))
	for _, time := range []int{0, -1, 21, 22, 1, 8, math.MinInt, lastTime, math.MaxInt} {
		for i := range 3 {
			l = append(l, turned(theClock(), func(s *api.Skeen) { s.Waits[i].Time = time }))
		}
	}
	for _, time := range []int{0, -1, 21, 22, math.MinInt, lastTime, math.MaxInt} {
		for i := range 3 {
			l = append(l, turned(theClock(), func(s *api.Skeen) { s.Done[i].Time = time }))
		}
	}
	for _, m := range noMessages() {
		for i := range 3 {
			l = append(l, turned(theClock(), func(s *api.Skeen) { s.Waits[i].Message = m }))
		}
		l = append(l, clock(1, waits(api.Wait{Message: m, Time: 1})))
	}
	for _, id := range []int{-1, lastId + 1, math.MinInt, 1<<32 + 4, math.MaxInt} {
		for i := range 3 {
			l = append(l, turned(theClock(), func(s *api.Skeen) { s.Done[i].Id = id }))
		}
	}
	return append(l, noOrders()...)
}

// noOrders are clocks whose parts may be, but not beside one another.
func noOrders() []api.Skeen {
	return []api.Skeen{
		clock(9, waits(wait(9, 1), wait(5, 2))), clock(9, waits(wait(1, 1), wait(9, 3), wait(5, 2))), clock(9, waits(wait(3, 1), wait(1, 2), wait(5, 3))), // ids that fall
		clock(9, waits(wait(5, 1), wait(5, 1))), clock(9, waits(wait(5, 1), wait(5, 2))), clock(9, waits(wait(1, 1), wait(5, 2), last(5, 3))), // one twice
		clock(9, nil, 2, 1, 1, 2), clock(9, nil, 1, 1, 3, 2, 2, 3), clock(9, nil, 2, 3, 2, 1), clock(9, nil, 2, 3, 2, 3), // stamps that do not rise
		clock(9, nil, 1, 3, 2, 3), clock(9, nil, 1, 3, 2, 4, 3, 3), clock(9, nil, 1, 7, 1, 8, 2, 9, 3, 8), // an id that is done twice
		clock(9, waits(wait(5, 5)), 1, 5), clock(9, waits(wait(5, 5), wait(6, 6)), 1, 6, 2, 7), clock(9, waits(wait(5, 5), wait(6, 6)), 1, 7, 2, 5), // that waits, and is done
		clock(9, waits(wait(5, 5)), 5, 5), clock(9, waits(wait(5, 5)), 5, 6), clock(9, waits(wait(5, 5)), 6, 4), clock(9, waits(wait(5, 5)), 1, 4, 9, 7), // done, and not ahead
		clock(9, waits(wait(5, 5), wait(6, 8)), 5, 7), clock(9, waits(wait(5, 8), wait(6, 5)), 6, 4), clock(9, waits(wait(5, 8), wait(6, 5), wait(7, 9)), 5, 7),
		clock(9, waits(last(5, 5))), clock(9, waits(last(5, 5), wait(6, 6))), clock(9, waits(wait(5, 6), last(6, 5))), clock(9, waits(last(5, 5), wait(6, 5))), // the least is final
		clock(9, waits(last(5, 5), last(6, 6))), clock(9, waits(wait(5, 7), wait(6, 8), last(7, 6)), 2, 3), clock(lastTime, waits(last(lastId, lastTime))),
	}
}

// noMessages may not be; all of their ids are between 4 and 10, or none.
func noMessages() (l []api.Message) {
	good := message(6, 0, 2)
	for _, id := range []int{-1, lastId + 1, math.MinInt, 1 << 32, math.MaxInt} {
		l = append(l, api.Message{Id: id, Groups: []int{0}})
	}
	for _, groups := range [][]int{nil, {}, {-1}, {4}, {0, 4}, {2, 1}, {1, 1}, {0, 1, 2, 3, 3}, {0, 1, 2, 3, 4}, {math.MinInt}, {math.MaxInt}, make([]int, 1000)} {
		m := good
		m.Groups = groups
		l = append(l, m)
	}
	for _, topic := range []int{-1, 4, math.MinInt, 1 << 32, math.MaxInt} {
		m := good
		m.Topic = topic
		l = append(l, m)
	}
	for _, bytes := range []int{17, 65, 1 << 20} {
		m := good
		m.Key = strings.Repeat("k", bytes)
		l = append(l, m)
		m = good
		m.Body = strings.Repeat("b", max(bytes, 65))
		l = append(l, m)
	}
	return append(l, api.Message{}, api.Message{Id: 6})
}

// idle are commands of the kinds that do nothing; their ids may wait, or be done.
func idle() []api.Command {
	l := []api.Command{{}, {Kind: api.CmdChange, Members: []int{0, 2}}, {Kind: api.CmdChange, Members: []int{5}}}
	for _, id := range []int{0, 2, 5, 7, 8, 9, 1000, lastId} {
		l = append(l, api.Command{Kind: api.CmdCommit, Id: id, Topic: 1, Who: 7, N: 30}, api.Command{Kind: api.CmdRetain, Id: id, Topic: 1, N: 30}, api.Command{Kind: api.CmdCompact, Id: id, N: lastTime})
	}
	return l
}

// noCommands may not be.
func noCommands() (l []api.Command) {
	for _, m := range noMessages() {
		l = append(l, assignOf(m))
	}
	for _, n := range []int{-1, math.MinInt, 1 << 31, 1 << 40, math.MaxInt} {
		l = append(l, final(n, 9), final(5, n), api.Command{Kind: api.CmdCommit, Id: 5, Who: n}, api.Command{Kind: api.CmdRetain, Id: 5, N: n}, api.Command{Kind: api.CmdCompact, Id: 5, Topic: n})
	}
	l = append(l, final(5, 0), final(5, lastTime+1), final(lastId+1, 9), api.Command{Kind: api.CmdChange}, api.Command{Kind: api.CmdChange, Members: []int{6}}, api.Command{Kind: api.CmdChange, Members: []int{1, 0}})
	for _, kind := range []uint8{7, 8, 128, 255} {
		l = append(l, api.Command{Kind: kind}, api.Command{Kind: kind, Message: message(6, 0)}, api.Command{Kind: kind, Id: 5, Time: 20})
	}
	both := final(5, 20)
	both.Message = message(6, 0)
	also := assign(6, 0)
	also.Id = 5
	late := assign(6, 0)
	late.Time = 3
	return append(l, both, also, late, api.Command{Time: 1}, api.Command{Id: 5})
}

// show tells a clock in few words: what waits as id@time, with ! where that is final.
func show(s api.Skeen) string {
	text := "clock " + strconv.Itoa(s.Clock) + ","
	for i, w := range s.Waits {
		if i < 8 || i >= len(s.Waits)-2 {
			text += " " + strconv.Itoa(w.Message.Id) + "@" + strconv.Itoa(w.Time)
			if w.Final {
				text += "!"
			}
			text += fmt.Sprint(w.Message.Groups[:min(len(w.Message.Groups), 5)])
		}
	}
	text += " (" + strconv.Itoa(len(s.Waits)) + ");"
	for i, d := range s.Done {
		if i < 8 || i >= len(s.Done)-2 {
			text += " " + fmt.Sprint(d)
		}
	}
	return text + " (" + strconv.Itoa(len(s.Done)) + ")"
}

func showCommand(c api.Command) string {
	c.Message.Key, c.Message.Body = c.Message.Key[:min(len(c.Message.Key), 20)], c.Message.Body[:min(len(c.Message.Body), 20)]
	c.Message.Groups = c.Message.Groups[:min(len(c.Message.Groups), 6)]
	return fmt.Sprintf("%v", c)
}

func idsOf(l []api.Message) (ids []int) {
	for _, m := range l {
		ids = append(ids, m.Id)
	}
	return ids
}
