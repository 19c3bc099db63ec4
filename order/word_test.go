package order_test

import (
	"fmt"
	"math"
	"slices"
	"sort"
	"strconv"
	"strings"

	"towncrier/api"
)

// The chapter's words, once more: nothing here asks the package, or those below it. Logs stand as commands; textsOf makes them what is handed in.

const (
	slots    = 200        // MaxSlots, as it stands in chapter 13
	lastId   = 6291455    // 6 * 2^20 - 1
	lastTime = 1073741824 // 2^30
)

// placeOf is a stamp that may be as one number: the time in front, and behind it the id, which is below 2^23.
func placeOf(s api.Stamp) int { return s.Time<<23 + s.Id }

func stampOf(w api.Wait) api.Stamp { return api.Stamp{Time: w.Time, Id: w.Message.Id} }

// played is what a log makes: its clock, what waits, what is done and delivered; what began to wait, as it did; and the finals that did something.
type played struct {
	clock     int
	waits     []api.Wait
	done      []api.Stamp
	delivered []api.Message
	begun     []api.Wait
	finals    []api.Command
}

// playedBy does commands that may be, of which there are no more than a log has: so there is always room, and a clock at its end alone refuses something.
func playedBy(group int, commands []api.Command) (p played) {
	known := map[int]bool{}
	for _, c := range commands {
		if c.Kind == 1 && slices.Contains(c.Message.Groups, group) && !known[c.Message.Id] && p.clock < lastTime {
			known[c.Message.Id] = true
			p.clock++
			p.begun = append(p.begun, api.Wait{Message: c.Message, Time: p.clock})
			p.waits = append(p.waits, api.Wait{Message: c.Message, Time: p.clock})
		}
		if c.Kind == 2 {
			p.final(c)
		}
	}
	return p
}

// final lets what is final go from the front of all that waits, laid into the order of all messages.
func (p *played) final(c api.Command) {
	for i := range p.waits {
		w := &p.waits[i]
		if w.Message.Id == c.Id && !w.Final && w.Time <= c.Time {
			w.Time, w.Final = c.Time, true
			p.finals = append(p.finals, c)
			if c.Time > p.clock {
				p.clock = c.Time
			}
		}
	}
	sort.Slice(p.waits, func(i, k int) bool { return placeOf(stampOf(p.waits[i])) < placeOf(stampOf(p.waits[k])) })
	for len(p.waits) > 0 && p.waits[0].Final {
		p.done = append(p.done, stampOf(p.waits[0]))
		p.delivered = append(p.delivered, p.waits[0].Message)
		p.waits = p.waits[1:]
	}
}

// skeen is the clock, as it is told: what waits stands by ids.
func (p played) skeen() api.Skeen {
	waits := slices.Clone(p.waits)
	sort.Slice(waits, func(i, k int) bool { return waits[i].Message.Id < waits[k].Message.Id })
	return api.Skeen{Clock: p.clock, Waits: waits, Done: p.done}
}

// locals are the stamps of all that began to wait.
func (p played) locals() (l []api.Stamp) {
	for _, w := range p.begun {
		l = append(l, stampOf(w))
	}
	return l
}

func playedAll(logs [][]api.Command) (all []played) {
	for group, l := range logs {
		all = append(all, playedBy(group, l))
	}
	return all
}

// finalOf is the final time of a message that may be.
func finalOf(all []played, m api.Message) (time int, is bool) {
	for _, group := range m.Groups {
		own := 0
		if group < len(all) {
			for _, w := range all[group].begun {
				if sameMessage(w.Message, m) {
					own = w.Time
				}
			}
		}
		if own == 0 {
			return 0, false
		}
		if own > time {
			time = own
		}
	}
	return time, true
}

// areHonest tells whether logs are honest.
func areHonest(all []played) bool {
	said := map[int]api.Message{}
	for _, p := range all {
		for _, w := range p.begun {
			if m, was := said[w.Message.Id]; was && !sameMessage(m, w.Message) {
				return false
			}
			said[w.Message.Id] = w.Message
		}
	}
	for _, p := range all {
		for _, c := range p.finals {
			if time, is := finalOf(all, said[c.Id]); !is || time != c.Time {
				return false
			}
		}
	}
	return true
}

func hasId(l []api.Stamp, id int) bool {
	return slices.ContainsFunc(l, func(s api.Stamp) bool { return s.Id == id })
}

// agree goes along both orders at once, past what the other one has not.
func agree(a, b []api.Stamp) bool {
	i, k := 0, 0
	for {
		for i < len(a) && !hasId(b, a[i].Id) {
			i++
		}
		for k < len(b) && !hasId(a, b[k].Id) {
			k++
		}
		if i == len(a) || k == len(b) {
			return true
		}
		if a[i] != b[k] {
			return false
		}
		i, k = i+1, k+1
	}
}

// sameMessage takes a list without elements for another one, be they nil or not.
func sameMessage(a, b api.Message) bool {
	return [2]int{a.Id, a.Topic} == [2]int{b.Id, b.Topic} && [2]string{a.Key, a.Body} == [2]string{b.Key, b.Body} && slices.Equal(a.Groups, b.Groups)
}

func sameMessages(a, b []api.Message) bool { return slices.EqualFunc(a, b, sameMessage) }

func sameWait(a, b api.Wait) bool {
	return a.Time == b.Time && a.Final == b.Final && sameMessage(a.Message, b.Message)
}

func same(a, b api.Skeen) bool {
	return a.Clock == b.Clock && slices.Equal(a.Done, b.Done) && slices.EqualFunc(a.Waits, b.Waits, sameWait)
}

// begins tells whether one list is the beginning of another one.
func begins(a, b []api.Stamp) bool { return len(a) <= len(b) && slices.Equal(a, b[:len(a)]) }

// bytesOf tells the bytes of numbers, by division, as chapter 1 does.
func bytesOf(l ...int) (s string) {
	for _, n := range l {
		for ; n >= 128; n /= 128 {
			s += string([]byte{byte(n%128 + 128)})
		}
		s += string([]byte{byte(n)})
	}
	return s
}

func listOf(l []int) string { return bytesOf(len(l)) + bytesOf(l...) }

// textOf is a command's text, as chapter 12 tells it.
func textOf(c api.Command) string {
	m := c.Message
	switch c.Kind {
	case 1:
		return bytesOf(1, m.Id) + listOf(m.Groups) + bytesOf(m.Topic, len(m.Key)) + m.Key + bytesOf(len(m.Body)) + m.Body
	case 2:
		return bytesOf(2, c.Id, c.Time)
	case 3:
		return bytesOf(3) + listOf(c.Members)
	case 4:
		return bytesOf(4, c.Id, c.Topic, c.Who, c.N)
	case 5, 6:
		return bytesOf(int(c.Kind), c.Id, c.Topic, c.N)
	}
	return bytesOf(int(c.Kind))
}

func textsOf(commands []api.Command) []string {
	l := make([]string, len(commands))
	for i, c := range commands {
		l[i] = textOf(c)
	}
	return l
}

func allTexts(logs [][]api.Command) [][]string {
	l := make([][]string, len(logs))
	for i, commands := range logs {
		l[i] = textsOf(commands)
	}
	return l
}

// message has an id, and goes to groups; the rest of it is told by its id.
func message(id int, groups ...int) api.Message {
	return api.Message{Id: id, Groups: groups, Topic: id & 3, Key: strings.Repeat("k", id&7), Body: "oyez " + strconv.Itoa(id)}
}

func assign(id int, groups ...int) api.Command { return assignOf(message(id, groups...)) }

func assignOf(m api.Message) api.Command { return api.Command{Kind: api.CmdAssign, Message: m} }

func final(id, time int) api.Command { return api.Command{Kind: api.CmdFinal, Id: id, Time: time} }

// way is a group's log; logs are several, the first one group 0's.
func way(commands ...api.Command) []api.Command { return commands }

func logs(l ...[]api.Command) [][]api.Command { return l }

// stamps are made of times and ids, by twos.
func stamps(numbers ...int) (l []api.Stamp) {
	for i := 0; i < len(numbers); i += 2 {
		l = append(l, api.Stamp{Time: numbers[i], Id: numbers[i+1]})
	}
	return l
}

func nops(number int) []api.Command { return make([]api.Command, number) }

// idle are commands of the kinds that do nothing to a clock; their ids may wait, or be done.
func idle() []api.Command {
	l := []api.Command{{}, {Kind: api.CmdChange, Members: []int{0, 2}}}
	for _, id := range []int{0, 1, 2, 5, lastId} {
		l = append(l, api.Command{Kind: api.CmdCommit, Id: id, Topic: 1, Who: 7, N: 30}, api.Command{Kind: api.CmdRetain, Id: id, Topic: 1, N: 30}, api.Command{Kind: api.CmdCompact, Id: id, N: lastTime})
	}
	return l
}

// example are the logs of the chapter's examples: m has the id 1, n the id 2.
func example() [][]api.Command {
	return logs(way(assign(1, 0, 1), final(1, 2)), way(assign(2, 1), assign(1, 0, 1), final(2, 1), final(1, 2)))
}

// others are messages that are not message(1, 0, 1), in one field each.
func others() (l []api.Message) {
	for _, turn := range []func(m *api.Message){
		func(m *api.Message) { m.Topic = 3 },
		func(m *api.Message) { m.Key = "K" },
		func(m *api.Message) { m.Key = "" },
		func(m *api.Message) { m.Key += "\x00" },
		func(m *api.Message) { m.Body = "another one" },
		func(m *api.Message) { m.Body = "" },
		func(m *api.Message) { m.Body += "\x00" },
		func(m *api.Message) { m.Groups = []int{0, 1, 2} },
		func(m *api.Message) { m.Groups = []int{0, 1, 3} },
	} {
		m := message(1, 0, 1)
		turn(&m)
		l = append(l, m)
	}
	return l
}

// honestLogs are such as a town has whose nodes all do as they should.
func honestLogs() [][][]api.Command {
	return [][][]api.Command{
		nil, {}, logs(nil), logs(nil, nil, nil, nil), logs(way(), nil, way(nops(3)...)), logs(idle(), idle(), idle(), idle()),
		example(), example()[:0], logs(example()[0][:1]), logs(example()[0][:1], example()[1][:3]), logs(example()[0], example()[1][:2]), logs(example()[0], example()[1][:3], nil, nil),
		// Nobody made anything final; a message to others was given no time.
		logs(way(assign(1, 0, 1), assign(2, 1)), nil), logs(way(assign(1, 1, 2, 3))),
		// Finals that do nothing, of whatever time: of what does not wait, of what is final, of what is done, and of the past.
		logs(way(final(1, 9), assign(1, 0), final(1, 1), final(1, 7))),
		logs(way(assign(2, 0), final(2, 1), assign(1, 0), final(1, 1), final(3, 5), final(1, 2))),
		logs(way(assign(1, 0, 1), assign(2, 0), final(2, 2), final(2, 9), final(1, 4), final(2, 3)), way(assign(5, 1), assign(6, 1), assign(7, 1), assign(1, 0, 1))),
		// What was given no time does not count, though it be another message.
		logs(way(assign(1, 0, 1), assignOf(others()[4]), final(1, 1), assignOf(others()[0])), way(assign(1, 0, 1))),
		logs(way(assign(1, 0)), way(assign(1, 0)), way(assign(1, 3))),
		// Two messages of one time; all four groups.
		logs(way(assign(1, 0, 1), assign(2, 0, 1), final(1, 2), final(2, 2)), way(assign(2, 0, 1), assign(1, 0, 1), final(2, 2), final(1, 2))),
		logs(way(assign(1, 0, 1, 2, 3), final(1, 4)), way(assign(2, 1, 3), assign(1, 0, 1, 2, 3), final(2, 2), final(1, 4)), way(assign(1, 0, 1, 2, 3)), way(assign(3, 3), assign(2, 1, 3), assign(4, 3), assign(1, 0, 1, 2, 3), final(1, 4), final(2, 2), final(3, 1))),
		logs(fullWay(0), fullWay(1), fullWay(2), fullWay(3)),
	}
}

// fullWay is a log that has no room left.
func fullWay(group int) (l []api.Command) {
	for i := range slots / 2 {
		l = append(l, assign(1000*group+i, group), final(1000*group+i, i+1))
	}
	return l
}

// noHonestLogs are such as nodes have not that do as they should: each has one thing wrong.
func noHonestLogs() (l [][][]api.Command) {
	for _, m := range others() {
		l = append(l, logs(way(assign(1, 0, 1)), way(assignOf(m))), logs(way(assignOf(m)), way(assign(1, 0, 1))))
	}
	for _, time := range []int{1, 3, 4, lastTime} {
		l = append(l, logs(way(assign(1, 0, 1), final(1, time)), example()[1]))
	}
	for _, time := range []int{3, 4, lastTime} {
		l = append(l, logs(example()[0], way(assign(2, 1), assign(1, 0, 1), final(2, 1), final(1, time))))
	}
	return append(l,
		logs(way(assign(1, 0), final(1, 2))), logs(nil, nil, nil, way(assign(1, 3), final(1, lastTime))),
		// There is no final time: there is no log of a group, or no time of it.
		logs(example()[0]), logs(example()[0], nil), logs(example()[0], way(assign(2, 1))), logs(example()[0], idle()), logs(nil, example()[1]),
		logs(way(assign(1, 0, 3), final(1, 1)), nil, nil), logs(way(assign(1, 0, 3), final(1, 1)), nil, nil, way(final(1, 1))),
		logs(way(assign(1, 0, 1), final(1, 1)), way(assign(2, 1), final(2, lastTime), assign(1, 0, 1))),
		logs(nil, way(assign(1, 0, 1)), nil, way(assign(1, 3))),
		// The first final is another one, and the last one does nothing.
		logs(way(assign(1, 0, 1), final(1, 1), final(1, 2)), example()[1]),
		logs(way(assign(1, 0, 1), assign(2, 0), final(2, 3), final(1, 4)), way(assign(5, 1), assign(6, 1), assign(7, 1), assign(1, 0, 1))),
	)
}

// noMessages may not be.
func noMessages() (l []api.Message) {
	good := message(1, 0, 1)
	for _, id := range []int{-1, lastId + 1, math.MinInt, 1 << 32, math.MaxInt} {
		l = append(l, api.Message{Id: id, Groups: []int{0}})
	}
	for _, groups := range [][]int{nil, {}, {-1}, {4}, {0, 4}, {1, 0}, {1, 1}, {0, 1, 2, 3, 3}, {0, 1, 2, 3, 4}, {math.MinInt}, {math.MaxInt}, make([]int, 1000)} {
		m := good
		m.Groups = groups
		l = append(l, m)
	}
	for _, topic := range []int{-1, 4, math.MinInt, 1 << 32, math.MaxInt} {
		m := good
		m.Topic = topic
		l = append(l, m)
	}
	for _, bytes := range []int{17, 65, 1 << 20} {
		m := good
		m.Key = strings.Repeat("k", bytes)
		l = append(l, m)
		m = good
		m.Body = strings.Repeat("b", max(bytes, 65))
		l = append(l, m)
	}
	return append(l, api.Message{}, api.Message{Id: 6})
}

// noLog is a log that may not be, and its error.
type noLog struct {
	log []string
	e   api.Errno
}

// noLogs have a value that is no command's text, at their front, in their middle, at their end; or they are too long.
func noLogs() (l []noLog) {
	good := textsOf(example()[1])
	for _, wrong := range []string{"", "what", "\x07", "\x00\x00", good[0][:3], good[0] + "x", textOf(final(1, 2))[:2], textOf(final(1, 0)), textOf(final(lastId+1, 1)), textOf(assign(1)), textOf(assign(1, 4)), textOf(assign(1, 1, 0)), textOf(api.Command{Kind: api.CmdChange}), strings.Repeat("v", 1024), strings.Repeat("v", 1025), strings.Repeat("v", 1<<16)} {
		l = append(l, noLog{[]string{wrong}, api.ErrBad}, noLog{append([]string{wrong}, good...), api.ErrBad}, noLog{slices.Insert(slices.Clone(good), 2, wrong), api.ErrBad}, noLog{append(slices.Clone(good), wrong), api.ErrBad},
			noLog{append(textsOf(nops(slots-1)), wrong), api.ErrBad}, noLog{append(textsOf(nops(slots)), wrong), api.ErrMany})
	}
	return append(l, noLog{textsOf(nops(slots + 1)), api.ErrMany}, noLog{append(textsOf(fullWay(0)), good...), api.ErrMany}, noLog{make([]string, slots), api.ErrBad}, noLog{make([]string, slots+1), api.ErrMany}, noLog{make([]string, 1<<16), api.ErrMany})
}

// show tells a log in few words.
func show(commands []api.Command) string {
	text := strconv.Itoa(len(commands)) + ":"
	for i, c := range commands {
		if i > 20 && i < len(commands)-5 {
			continue
		}
		switch c.Kind {
		case api.CmdAssign:
			text += " assign " + strconv.Itoa(c.Message.Id) + fmt.Sprint(c.Message.Groups)
		case api.CmdFinal:
			text += " final " + strconv.Itoa(c.Id) + "@" + strconv.Itoa(c.Time)
		default:
			text += " -"
		}
	}
	return text
}

func showAll(logs [][]api.Command) string {
	text := strconv.Itoa(len(logs)) + " logs"
	for _, l := range logs {
		text += "; " + show(l)
	}
	return text
}

// brief tells the first and the last texts of logs.
func brief(logs [][]string) string {
	text := strconv.Itoa(len(logs)) + " logs"
	for i, l := range logs[:min(len(logs), 8)] {
		text += fmt.Sprintf("; %d: %d", i, len(l))
		for k, s := range l {
			if k < 4 || k == len(l)-1 {
				text += fmt.Sprintf(" %.20q", s)
			}
		}
	}
	return text
}

// showClock tells what waits as id@time, with ! where that is final.
func showClock(s api.Skeen) string {
	text := "clock " + strconv.Itoa(s.Clock) + ","
	for _, w := range s.Waits[:min(len(s.Waits), 12)] {
		text += " " + strconv.Itoa(w.Message.Id) + "@" + strconv.Itoa(w.Time)
		if w.Final {
			text += "!"
		}
	}
	return text + fmt.Sprintf(" (%d); %v (%d)", len(s.Waits), s.Done[:min(len(s.Done), 12)], len(s.Done))
}

func idsOf(l []api.Message) (ids []int) {
	for _, m := range l {
		ids = append(ids, m.Id)
	}
	return ids
}
