package order_test

import (
	"math"
	"reflect"
	"runtime"
	"slices"
	"sort"
	"strings"
	"testing"

	"towncrier/api"
	"towncrier/order"
)

// roomy is a list in memory of its own that has room behind it, with something in it.
func roomy[T any](l []T, room ...T) []T {
	return append(append(make([]T, 0, len(l)+len(room)), l...), room...)[:len(l)]
}

// whole is a list with what stands behind it, in memory of its own.
func whole[T any](l []T) []T { return slices.Clone(l[:cap(l)]) }

// handed is a log's texts in memory of their own. What stands in the room behind them would change each answer.
func handed(l []api.Command) []string {
	return roomy(textsOf(l), textOf(assign(77, 0, 1, 2, 3)), textOf(final(1, 900)), "what")
}

// handedAll are logs likewise; one that may not be stands in the room behind them.
func handedAll(logs [][]api.Command) [][]string {
	var l [][]string
	for _, commands := range logs {
		l = append(l, handed(commands))
	}
	return roomy(l, handed(way(assign(1, 0, 1))), []string{"what"}, nil, nil, nil, nil)
}

func handedMessage(m api.Message) api.Message {
	m.Groups = roomy(m.Groups, 0, 3, 9)
	return m
}

// wholeLogs are logs, and what stands behind them and behind their values.
func wholeLogs(logs [][]string) [][]string {
	l := whole(logs)
	for i := range l {
		l[i] = whole(l[i])
	}
	return l
}

// area is the memory of a list, its room too.
type area struct{ from, to uintptr }

func areasOf(lists ...any) (l []area) {
	for _, list := range lists {
		v := reflect.ValueOf(list)
		if size := uintptr(v.Cap()) * v.Type().Elem().Size(); size > 0 {
			l = append(l, area{v.Pointer(), v.Pointer() + size})
		}
	}
	return l
}

func areasOfClock(s api.Skeen) []area {
	l := areasOf(s.Waits, s.Done)
	for _, w := range s.Waits[:cap(s.Waits)] {
		l = append(l, areasOf(w.Message.Groups)...)
	}
	return l
}

func areasOfMessages(messages []api.Message) []area {
	l := areasOf(messages)
	for _, m := range messages[:cap(messages)] {
		l = append(l, areasOf(m.Groups)...)
	}
	return l
}

// wantApart asks that no two lists of what is answered share memory, nor one of it with one of what was handed in.
func wantApart(t *testing.T, call string, in, got []area) {
	type end struct {
		at   uintptr
		from bool
		own  bool
	}
	var ends []end
	for _, a := range got {
		ends = append(ends, end{a.from, true, true}, end{a.to, false, true})
	}
	for _, a := range in {
		ends = append(ends, end{a.from, true, false}, end{a.to, false, false})
	}
	// What ends at a place is no more when another one begins there.
	sort.Slice(ends, func(i, k int) bool {
		return ends[i].at < ends[k].at || ends[i].at == ends[k].at && !ends[i].from && ends[k].from
	})
	own, others := 0, 0
	for _, e := range ends {
		n := -1
		if e.from {
			n = 1
		}
		if e.own {
			own += n
		} else {
			others += n
		}
		if own > 1 || own > 0 && others > 0 {
			t.Helper()
			t.Errorf("%s: lists of the answer share memory, or with what was handed in", call)
			return
		}
	}
}

// spoil writes over all that a list has, and over what is behind it.
func spoil[T any](l []T, with T) {
	for i := range l[:cap(l)] {
		l[:cap(l)][i] = with
	}
}

func spoilClock(s api.Skeen) {
	for _, w := range s.Waits[:cap(s.Waits)] {
		spoil(w.Message.Groups, -5)
	}
	spoil(s.Waits, api.Wait{Time: -5, Final: true})
	spoil(s.Done, api.Stamp{Time: -5, Id: -5})
}

func spoilMessages(l []api.Message) {
	for _, m := range l[:cap(l)] {
		spoil(m.Groups, -5)
	}
	spoil(l, api.Message{Id: -5})
}

// someLogs are honest ones and others, of which some leave messages waiting and deliver others.
func someLogs() [][][]api.Command {
	d := dice(164)
	l := append(honestLogs(), noHonestLogs()...)
	l = append(l, logs(way(assign(1, 0, 1), assign(2, 0), assign(3, 0, 2, 3), final(2, 5), assign(4, 0, 1, 2, 3), final(1, 6), assign(5, 0)), example()[1]))
	for range 6 {
		l = append(l, d.logs(40))
	}
	return l
}

func TestP164WhatIsHandedInIsOnlyRead(t *testing.T) {
	for _, l := range someLogs() {
		in, m := handedAll(l), handedMessage(message(1, 0, 1))
		before, groups := wholeLogs(in), whole(m.Groups)
		order.Honest(in)
		order.Final(in, m)
		for group := range in {
			order.Play(group, in[group])
			order.Local(group, in[group])
		}
		if !reflect.DeepEqual(wholeLogs(in), before) || !slices.Equal(whole(m.Groups), groups) {
			t.Fatalf("%s: it was written into", showAll(l))
		}
	}
	for _, l := range noLogs() {
		in := [][]string{nil, roomy(l.log, "what", "")}
		before := wholeLogs(in)
		order.Honest(in)
		order.Final(in, message(1, 0, 1))
		order.Play(0, in[1])
		order.Local(0, in[1])
		if !reflect.DeepEqual(wholeLogs(in), before) {
			t.Fatalf("%s: it was written into", brief(in))
		}
	}
	for _, a := range shortOrders()[100:] {
		for _, b := range shortOrders()[:60] {
			a, b := roomy(a, stamps(1, 1, -7, -7)...), roomy(b, stamps(2, 2)...)
			beforeA, beforeB := whole(a), whole(b)
			order.Agree(a, b)
			if !slices.Equal(whole(a), beforeA) || !slices.Equal(whole(b), beforeB) {
				t.Fatal(a, b)
			}
		}
	}
}

// TestP164SpareRoomDoesNotCount has commands, logs, groups and stamps behind what is handed in.
func TestP164SpareRoomDoesNotCount(t *testing.T) {
	for _, l := range someLogs() {
		in, all := handedAll(l), playedAll(l)
		if is, e := order.Honest(in); is != areHonest(all) || e != api.OK {
			t.Error(showAll(l), is, e)
		}
		for _, m := range []api.Message{message(1, 0, 1), message(2, 1), message(1, 0)} {
			want, has := finalOf(all, m)
			if time, is, e := order.Final(in, handedMessage(m)); is != has || is && time != want || e != api.OK {
				t.Error(showAll(l), time, is, e)
			}
		}
		for group, p := range all {
			s, delivered, e := order.Play(group, in[group])
			at, also := order.Local(group, in[group])
			if e != api.OK || also != api.OK || !same(s, p.skeen()) || !sameMessages(delivered, p.delivered) || !slices.Equal(at, p.locals()) {
				t.Error(group, show(l[group]), showClock(s), at)
			}
		}
	}
	long := stamps(1, 1, 2, 2, 3, 3)
	if !order.Agree(long[:1], stamps(1, 1, 3, 2)) || !order.Agree(stamps(1, 1, 3, 2), long[:1]) || order.Agree(long[:2], stamps(1, 1, 3, 2)) {
		t.Error("stamps behind an order")
	}
}

// TestP164NoTwoAnswersShareMemory keeps many answers: so no two of them have the same memory by chance.
func TestP164NoTwoAnswersShareMemory(t *testing.T) {
	for _, l := range someLogs() {
		in := handedAll(l)
		given := areasOf(in)
		var all []area
		var kept []any
		for group, log := range in {
			given = append(given, areasOf(log)...)
			for range 2 {
				s, delivered, _ := order.Play(group, log)
				at, _ := order.Local(group, log)
				all = append(all, slices.Concat(areasOfClock(s), areasOfMessages(delivered), areasOf(at))...)
				kept = append(kept, s, delivered, at)
			}
		}
		wantApart(t, showAll(l), given, all)
		runtime.KeepAlive(kept)
	}
}

// TestP164WhatIsAnsweredMayBeWrittenOver writes over what is answered, its room too, and asks once more; and over what was handed in.
func TestP164WhatIsAnsweredMayBeWrittenOver(t *testing.T) {
	for _, l := range someLogs() {
		in := handedAll(l)
		for group, p := range playedAll(l) {
			for range 2 {
				s, delivered, _ := order.Play(group, in[group])
				at, _ := order.Local(group, in[group])
				if !same(s, p.skeen()) || !sameMessages(delivered, p.delivered) || !slices.Equal(at, p.locals()) {
					t.Fatal(group, show(l[group]), showClock(s), at)
				}
				spoilMessages(delivered)
				if !same(s, p.skeen()) {
					t.Fatal(show(l[group]), "what was delivered is in what was answered beside it")
				}
				spoilClock(s)
				spoil(at, api.Stamp{Time: -5})
			}
			s, delivered, _ := order.Play(group, in[group])
			at, _ := order.Local(group, in[group])
			spoil(in[group], "what")
			if !same(s, p.skeen()) || !sameMessages(delivered, p.delivered) || !slices.Equal(at, p.locals()) {
				t.Fatal(group, show(l[group]), showClock(s), at)
			}
		}
	}
}

// TestP164OneListInManyPlaces has one log for all groups, and one order on both sides.
func TestP164OneListInManyPlaces(t *testing.T) {
	one := way(assign(1, 0, 1, 2, 3), assign(2, 0, 1, 2, 3), assign(3, 1), final(2, 2), final(1, 1))
	texts := textsOf(one)
	m := message(2, 0, 1, 2, 3)
	if time, is, e := order.Final([][]string{texts, texts, texts, texts}, m); time != 2 || !is || e != api.OK {
		t.Error(time, is, e)
	}
	if is, e := order.Honest([][]string{texts, texts, texts, texts}); !is || e != api.OK {
		t.Error(is, e)
	}
	if !slices.Equal(texts, textsOf(one)) {
		t.Error(brief([][]string{texts}))
	}
	long := stamps(1, 1, 2, 2, 2, 1, 3, 3)
	if !order.Agree(long, long) || !order.Agree(long, long[:2]) || order.Agree(long, long[1:3]) {
		t.Error(long)
	}
}

// TestR1WhateverIsHandedIn asks all calls of lists and texts of great lengths, and of numbers at both ends.
func TestR1WhateverIsHandedIn(t *testing.T) {
	m := message(1, 0, 1)
	for _, l := range [][]string{make([]string, 1<<20), {strings.Repeat("\x00", 1<<24)}, {strings.Repeat("\xff", 1<<20)}, textsOf(nops(slots + 1))} {
		want := api.ErrBad
		if len(l) > slots {
			want = api.ErrMany
		}
		for _, group := range []int{math.MinInt, -1, 0, 3, 4, math.MaxInt} {
			if group < 0 || group > 3 {
				wantNoPlay(t, group, l, api.ErrArg)
			} else {
				wantNoPlay(t, group, l, want)
			}
		}
		wantNotHonest(t, [][]string{nil, l}, want)
		wantNoFinal(t, [][]string{nil, l}, m, want)
	}
	wantNotHonest(t, make([][]string, 1<<20), api.ErrMany)
	wantNoFinal(t, make([][]string, 1<<20), m, api.ErrMany)
	deep := m
	deep.Groups = make([]int, 1<<20)
	wantNoFinal(t, nil, deep, api.ErrBad)
	deep = m
	deep.Body = strings.Repeat("b", 1<<24)
	wantNoFinal(t, nil, deep, api.ErrBad)
	numbers := []int{math.MinInt, math.MinInt + 1, -1, 0, 1, lastTime, lastId, math.MaxInt - 1, math.MaxInt}
	for _, a := range numbers {
		for _, b := range numbers {
			order.Final(allTexts(example()), api.Message{Id: a, Groups: []int{b}, Topic: a})
			order.Final(nil, api.Message{Id: 0, Groups: []int{a, b}})
			wantAgree(t, stamps(a, b), stamps(b, a), true)
			wantAgree(t, stamps(a, b, b, b), stamps(b, b), a == b)
		}
	}
	many := make([]api.Stamp, 1<<17)
	for i := range many {
		many[i] = api.Stamp{Time: i, Id: -i}
	}
	wantManyAgree(t, many)
}

// wantManyAgree has an order that is too long to be told, and what differs from it at its end.
func wantManyAgree(t *testing.T, many []api.Stamp) {
	turned := slices.Clone(many)
	turned[len(turned)-1].Time++
	if !order.Agree(many, many) || !order.Agree(many, many[1:]) || !order.Agree(make([]api.Stamp, 1<<17), many) || order.Agree(many, turned) || order.Agree(turned, many) {
		t.Error(len(many))
	}
}

// TestR1AnyTexts spoils logs' texts by a byte: they may be or not, and no call panics.
func TestR1AnyTexts(t *testing.T) {
	d := dice(161)
	well := 0
	for range 2000 {
		l := allTexts(d.logs(12))
		for range 1 + d.below(3) {
			log := l[d.below(len(l))]
			if len(log) == 0 {
				continue
			}
			at := d.below(len(log))
			b := []byte(log[at])
			b[d.below(len(b))] = byte(d.below(256))
			log[at] = string(b)
		}
		_, e := order.Honest(l)
		_, _, also := order.Final(l, message(1, 0, 1))
		if e != also || e != api.OK && e != api.ErrBad {
			t.Fatal(brief(l), e, also)
		}
		if e == api.OK {
			well++
		}
		for group := range l {
			order.Play(group, l[group])
			order.Local(group, l[group])
		}
	}
	if well < 100 || well > 1900 {
		t.Error(well)
	}
}

// TestR2CallsKeepNothing asks the same again, behind other calls.
func TestR2CallsKeepNothing(t *testing.T) {
	before := runtime.NumGoroutine()
	all := someLogs()
	for range 3 {
		for _, l := range all {
			wantAsWords(t, l, message(1, 0, 1), message(2, 1))
			for group := range l {
				wantPlayed(t, group, l[group])
			}
		}
		wantNoPlay(t, 4, nil, api.ErrArg)
		wantAgree(t, stamps(1, 1, 2, 2), stamps(1, 1, 3, 2), false)
	}
	if now := runtime.NumGoroutine(); now > before {
		t.Error(before, now)
	}
}

// dice tells numbers that look like any ones, always the same.
type dice uint64

func (d *dice) below(n int) int {
	*d = *d*6364136223846793005 + 1442695040888963407
	return int(uint64(*d) >> 33 % uint64(n))
}

func pick[T any](d *dice, l []T) T { return l[d.below(len(l))] }

// groups are some of so many, rising.
func (d *dice) groups(number int) (l []int) {
	for set := 1 + d.below(1<<number-1); len(l) < 1; {
		for group := range number {
			if set>>group%2 == 1 {
				l = append(l, group)
			}
		}
	}
	return l
}

// logs are any ones, up to four, about few ids and times.
func (d *dice) logs(most int) [][]api.Command {
	l := make([][]api.Command, 1+d.below(4))
	for group := range l {
		for range d.below(most + 1) {
			l[group] = append(l[group], d.command(group, 1+len(l[group])/2))
		}
	}
	return l
}

// command is any one; more often than not it does something.
func (d *dice) command(group, now int) api.Command {
	id := d.below(9)
	switch d.below(14) {
	case 0:
		return pick(d, idle())
	case 1:
		return assign(id, d.groups(4)...)
	case 2:
		m := message(id, group)
		m.Body = "another one"
		return assignOf(m)
	case 3, 4, 5:
		return assign(id, group)
	case 6, 7:
		return assign(id, 0, 1, 2, 3)
	case 8:
		return final(id, 1+d.below(now+9))
	case 9:
		if d.below(4) == 0 {
			return final(id, lastTime-d.below(3))
		}
	}
	return final(id, now+d.below(4))
}

// said is a message of some log, if there is one in what is looked at.
func (d *dice) said(logs [][]api.Command) api.Message {
	for range 9 {
		if l := pick(d, logs); len(l) > 0 {
			if c := pick(d, l); c.Kind == api.CmdAssign {
				return c.Message
			}
		}
	}
	return message(d.below(9), d.groups(4)...)
}

// town is what honest nodes write into their groups' logs: what is said, and where it goes.
type town struct {
	*dice
	logs [][]api.Command
	said []api.Message
}

func newTown(d *dice) *town {
	return &town{dice: d, logs: make([][]api.Command, 1+d.below(4))}
}

func (w *town) write(group int, c api.Command) {
	if len(w.logs[group]) < slots {
		w.logs[group] = append(w.logs[group], c)
	}
}

// step is one more command in some log: what is said, heard by one more group, or final; or one that does nothing.
func (w *town) step() {
	if len(w.said) == 0 || w.below(4) == 0 {
		m := message(w.below(1<<20), w.groups(len(w.logs))...)
		if !slices.ContainsFunc(w.said, func(s api.Message) bool { return s.Id == m.Id }) {
			w.said = append(w.said, m)
		}
		return
	}
	m := pick(w.dice, w.said[max(0, len(w.said)-12):])
	group := pick(w.dice, m.Groups)
	all := playedAll(w.logs)
	time, is := finalOf(all, m)
	switch {
	case w.below(6) == 0:
		w.noise(all, m, group)
	case is:
		w.write(group, final(m.Id, time))
	default:
		w.write(group, assignOf(m))
	}
}

// noise is a command that does nothing: of a message that waits, is final, or done; or to others.
func (w *town) noise(all []played, m api.Message, group int) {
	other := m
	other.Body += "!"
	var c api.Command
	switch p := all[group]; {
	case w.below(4) == 0:
		c = pick(w.dice, idle())
	case w.below(4) == 0:
		c = final(1<<20+w.below(9), 1+w.below(99))
	case hasId(p.done, m.Id), slices.ContainsFunc(p.waits, func(w api.Wait) bool { return w.Message.Id == m.Id && w.Final }):
		c = pick(w.dice, []api.Command{final(m.Id, 1+w.below(99)), assignOf(other), assignOf(m)})
	case hasId(p.locals(), m.Id):
		c = assignOf(other)
	default:
		c = final(m.Id, 1+w.below(99)) // it does not wait as yet
	}
	w.write(group, c)
}

// end lets every group hear all that was said, and make it final.
func (w *town) end() {
	for _, m := range w.said {
		for _, group := range m.Groups {
			w.write(group, assignOf(m))
		}
	}
	all := playedAll(w.logs)
	for len(w.said) > 0 {
		at := w.below(len(w.said))
		m := w.said[at]
		time, _ := finalOf(all, m)
		for _, group := range m.Groups {
			w.write(group, final(m.Id, time))
		}
		w.said = slices.Delete(w.said, at, at+1)
	}
}

// wantOneOrder asks of honest logs all that follows, and answers how many deliveries there are.
func wantOneOrder(t *testing.T, logs [][]api.Command) int {
	var done [][]api.Stamp
	at := map[int]api.Stamp{}
	goes := map[int]api.Message{}
	number := 0
	for group, l := range logs {
		s, delivered, e := order.Play(group, textsOf(l))
		if e != api.OK || len(delivered) != len(s.Done) {
			t.Fatalf("%s: %s, %v, %d", showAll(logs), showClock(s), idsOf(delivered), e)
		}
		for i, stamp := range s.Done {
			m := delivered[i]
			other, was := at[m.Id]
			if stamp.Id != m.Id || i > 0 && placeOf(s.Done[i-1]) >= placeOf(stamp) || was && (other != stamp || !sameMessage(goes[m.Id], m)) {
				t.Fatalf("%s: group %d delivered %v at %v, and others at %v", showAll(logs), group, m, stamp, other)
			}
			at[m.Id], goes[m.Id] = stamp, m
		}
		done = append(done, s.Done)
		number += len(s.Done)
	}
	for group, own := range done {
		for _, others := range done {
			wantAgree(t, own, others, true)
		}
		// Of all that goes to it and was delivered somewhere, what is ahead of its last one.
		for id, m := range goes {
			if len(own) > 0 && slices.Contains(m.Groups, group) && placeOf(at[id]) < placeOf(own[len(own)-1]) && !slices.Contains(own, at[id]) {
				t.Fatalf("%s: group %d has no %v in %v", showAll(logs), group, at[id], own)
			}
		}
	}
	return number
}

// TestP165W1ManyTowns asks all that follows of logs that honest nodes write, again and again as they grow.
func TestP165W1ManyTowns(t *testing.T) {
	d := dice(165)
	delivered := 0
	for range 150 {
		w := newTown(&d)
		for step := range 20 + d.below(140) {
			w.step()
			if step%10 == 0 {
				wantHonest(t, w.logs, true)
				wantOneOrder(t, w.logs)
			}
		}
		wantAsWords(t, w.logs, w.said...)
		if t.Failed() {
			t.FailNow()
		}
		said := len(w.said)
		w.end()
		wantHonest(t, w.logs, true)
		if number := wantOneOrder(t, w.logs); number < said {
			t.Fatal(showAll(w.logs), number, said)
		} else {
			delivered += number
		}
	}
	if delivered < 3000 {
		t.Error(delivered)
	}
}

// TestP162P165AnyLogs holds all calls against the words, of logs of all kinds; of those that are honest all that follows is asked.
func TestP162P165AnyLogs(t *testing.T) {
	d := dice(162)
	honest, not, some, refused := 0, 0, 0, 0
	for range 6000 {
		l := d.logs(pick(&d, []int{2, 3, 4, 8, 30}))
		for group, p := range playedAll(l) {
			wantPlayed(t, group, l[group])
			if p.clock == lastTime {
				refused++
			}
		}
		m := d.said(l)
		if time, is := finalOf(playedAll(l), m); is && time > 1 {
			some++
		}
		if wantAsWords(t, l, m, message(d.below(9), 0, 1, 2, 3), message(d.below(9), d.below(4))) {
			honest++
			wantOneOrder(t, l)
		} else {
			not++
		}
		if t.Failed() {
			t.FailNow()
		}
	}
	if honest < 500 || not < 500 || some < 300 || refused < 100 {
		t.Error(honest, not, some, refused)
	}
}

// TestP162TownsThatAreTurned turns one time or one message of honest logs: Honest tells it as the words do.
func TestP162TownsThatAreTurned(t *testing.T) {
	d := dice(1652)
	honest, not := 0, 0
	for range 150 {
		w := newTown(&d)
		for range 20 + d.below(60) {
			w.step()
		}
		for range 10 {
			l := slices.Clone(w.logs)
			group := d.below(len(l))
			if len(l[group]) == 0 {
				continue
			}
			l[group] = slices.Clone(l[group])
			at := d.below(len(l[group]))
			switch c := &l[group][at]; {
			case c.Kind == api.CmdFinal && d.below(2) == 0:
				c.Time = max(1, c.Time+d.below(3)-1)
			case c.Kind == api.CmdAssign && d.below(2) == 0:
				c.Message.Topic = d.below(4)
			default:
				l[group] = slices.Delete(l[group], at, at+1)
			}
			if wantAsWords(t, l, w.said...) {
				wantOneOrder(t, l)
				honest++
			} else {
				not++
			}
		}
		if t.Failed() {
			t.FailNow()
		}
	}
	if honest < 200 || not < 200 {
		t.Error(honest, not)
	}
}

// TestP165ABeginningOfALog: its deliveries begin those of the log, and so do its first times.
func TestP165ABeginningOfALog(t *testing.T) {
	d := dice(1653)
	all := someLogs()
	for range 20 {
		all = append(all, d.logs(60))
	}
	for range 10 {
		w := newTown(&d)
		for range 120 {
			w.step()
		}
		w.end()
		all = append(all, w.logs)
	}
	for _, logs := range all {
		for group, l := range logs {
			s, delivered, _ := order.Play(group, textsOf(l))
			at, _ := order.Local(group, textsOf(l))
			for k := 0; k <= len(l); k += 1 + len(l)/50 {
				own, m, e := order.Play(group, textsOf(l[:k]))
				first, also := order.Local(group, textsOf(l[:k]))
				if e != api.OK || also != api.OK || !begins(own.Done, s.Done) || !sameMessages(m, delivered[:min(len(m), len(delivered))]) || !begins(first, at) {
					t.Fatal(group, k, show(l), own.Done, first)
				}
				wantAgree(t, own.Done, s.Done, true)
			}
		}
	}
}

// shortWays are all logs of up to three of some commands.
func shortWays(commands []api.Command) [][]api.Command {
	l := [][]api.Command{nil}
	from := 0
	for range 3 {
		till := len(l)
		for _, ahead := range l[from:till] {
			for _, c := range commands {
				l = append(l, append(slices.Clone(ahead), c))
			}
		}
		from = till
	}
	return l
}

// TestP165AllShortLogs goes through all pairs of short logs of two messages: of those that are honest all that follows is asked.
func TestP165AllShortLogs(t *testing.T) {
	first := shortWays([]api.Command{assign(1, 0, 1), final(1, 1), final(1, 2)})
	second := shortWays([]api.Command{assign(2, 1), assign(1, 0, 1), final(1, 1), final(1, 2), final(2, 1)})
	honest, delivered := 0, 0
	for _, a := range first {
		for _, b := range second {
			if wantAsWords(t, logs(a, b), message(1, 0, 1)) {
				honest++
				delivered += wantOneOrder(t, logs(a, b))
			}
			if t.Failed() {
				t.FailNow()
			}
		}
	}
	if honest < 1000 || delivered < 100 || honest == len(first)*len(second) {
		t.Error(honest, delivered, len(first)*len(second))
	}
}
