package command_test

import (
	"fmt"
	"math"
	"slices"
	"strconv"
	"strings"

	"towncrier/api"
)

// The chapter's words, once more: nothing here asks the package, or those below it.

const (
	lastId     = 6291455    // 6 * 2^20 - 1
	lastTime   = 1073741824 // 2^30, as the last N is
	longest    = 93         // bytes of the longest text: an assignment to four groups, with a key and a body of all the bytes that they may have
	mostBytes  = 1024       // of a value
	mostNumber = 1 << 40
)

func isId(n int) bool { return n >= 0 && n <= lastId }

// rises tells whether a list has some elements, each from 0 to most and more than the one ahead: then it is the one of its elements, told in order.
func rises(l []int, most int) bool {
	if len(l) == 0 || len(l) > most+1 {
		return false
	}
	var inOrder []int
	for n := range most + 1 {
		if slices.Contains(l, n) {
			inOrder = append(inOrder, n)
		}
	}
	return slices.Equal(l, inOrder)
}

// mayBeSaid tells whether a message may be.
func mayBeSaid(m api.Message) bool {
	return isId(m.Id) && rises(m.Groups, 3) && m.Topic >= 0 && m.Topic <= 3 && len(m.Key) <= 16 && len(m.Body) <= 64
}

func isNoMessage(m api.Message) bool {
	return m.Id == 0 && len(m.Groups) == 0 && m.Topic == 0 && m.Key == "" && m.Body == ""
}

// mayBe tells whether a command may be: each kind has a line, as in the chapter.
func mayBe(c api.Command) bool {
	noMessage, noMembers := isNoMessage(c.Message), len(c.Members) == 0
	isMark := isId(c.Id) && c.Topic >= 0 && c.Topic <= 3 && c.N >= 0 && c.N <= lastTime
	switch c.Kind {
	case 0:
		return noMessage && c.Id == 0 && c.Time == 0 && noMembers && c.Topic == 0 && c.Who == 0 && c.N == 0
	case 1:
		return mayBeSaid(c.Message) && c.Id == 0 && c.Time == 0 && noMembers && c.Topic == 0 && c.Who == 0 && c.N == 0
	case 2:
		return noMessage && isId(c.Id) && c.Time >= 1 && c.Time <= lastTime && noMembers && c.Topic == 0 && c.Who == 0 && c.N == 0
	case 3:
		return noMessage && c.Id == 0 && c.Time == 0 && rises(c.Members, 5) && c.Topic == 0 && c.Who == 0 && c.N == 0
	case 4:
		return noMessage && isMark && c.Time == 0 && noMembers && c.Who >= 0 && c.Who <= 7
	case 5, 6:
		return noMessage && isMark && c.Time == 0 && noMembers && c.Who == 0
	}
	return false
}

// bytesOf tells the bytes of a number of any size, by division, as chapter 1 does.
func bytesOf(n uint64) (s string) {
	for ; n >= 128; n /= 128 {
		s += string([]byte{byte(n%128 + 128)})
	}
	return s + string([]byte{byte(n)})
}

// part is a piece of a text: a number (of a field, or a length), or the bytes of a key or a body.
type part struct {
	n      uint64
	bytes  string
	isText bool
}

func numbers(l ...int) (parts []part) {
	for _, n := range l {
		parts = append(parts, part{n: uint64(n)})
	}
	return parts
}

func list(l []int) []part { return append(numbers(len(l)), numbers(l...)...) }

func text(s string) []part { return append(numbers(len(s)), part{bytes: s, isText: true}) }

// partsOf are the pieces of a command's text, one behind the other.
func partsOf(c api.Command) []part {
	m := c.Message
	switch c.Kind {
	case 1:
		return slices.Concat(numbers(1, m.Id), list(m.Groups), numbers(m.Topic), text(m.Key), text(m.Body))
	case 2:
		return numbers(2, c.Id, c.Time)
	case 3:
		return append(numbers(3), list(c.Members)...)
	case 4:
		return numbers(4, c.Id, c.Topic, c.Who, c.N)
	case 5, 6:
		return numbers(int(c.Kind), c.Id, c.Topic, c.N)
	}
	return numbers(int(c.Kind))
}

func joined(parts []part) (s string) {
	for _, p := range parts {
		if p.isText {
			s += p.bytes
		} else {
			s += bytesOf(p.n)
		}
	}
	return s
}

func textOf(c api.Command) string { return joined(partsOf(c)) }

// reader goes through a text, number by number, as chapter 1 tells them; where there is none, it is at its end for good.
type reader struct {
	s   string
	bad bool
}

func (r *reader) fails() int {
	r.s, r.bad = "", true
	return 0
}

func (r *reader) number() int {
	n, by := 0, 1
	for i := range len(r.s) {
		if i == 6 {
			break
		}
		n += int(r.s[i]) % 128 * by
		by *= 128
		if r.s[i] < 128 {
			if n > mostNumber || i > 0 && r.s[i] == 0 {
				break
			}
			r.s = r.s[i+1:]
			return n
		}
	}
	return r.fails()
}

func (r *reader) list() (l []int) {
	for i := r.number(); i > 0 && !r.bad; i-- {
		l = append(l, r.number())
	}
	return l
}

func (r *reader) text() string {
	size := r.number()
	if size > len(r.s) {
		r.fails()
		return ""
	}
	s := r.s[:size]
	r.s = r.s[size:]
	return s
}

// meant tells which command a text is of, if it is of one.
func meant(s string) (c api.Command, ok bool) {
	r := &reader{s: s}
	kind := r.number()
	if kind > 6 {
		return api.Command{}, false
	}
	c.Kind = uint8(kind)
	switch kind {
	case 1:
		c.Message = api.Message{Id: r.number(), Groups: r.list(), Topic: r.number(), Key: r.text(), Body: r.text()}
	case 2:
		c.Id, c.Time = r.number(), r.number()
	case 3:
		c.Members = r.list()
	case 4:
		c.Id, c.Topic, c.Who, c.N = r.number(), r.number(), r.number(), r.number()
	case 5, 6:
		c.Id, c.Topic, c.N = r.number(), r.number(), r.number()
	}
	if r.bad || r.s != "" || !mayBe(c) {
		return api.Command{}, false
	}
	return c, true
}

// sameList takes a list without elements for another one, be they nil or not.
func sameList(a, b []int) bool { return slices.Equal(a, b) }

func sameMessage(a, b api.Message) bool {
	return [2]int{a.Id, a.Topic} == [2]int{b.Id, b.Topic} && sameList(a.Groups, b.Groups) && [2]string{a.Key, a.Body} == [2]string{b.Key, b.Body}
}

func same(a, b api.Command) bool {
	return [6]int{int(a.Kind), a.Id, a.Time, a.Topic, a.Who, a.N} == [6]int{int(b.Kind), b.Id, b.Time, b.Topic, b.Who, b.N} &&
		sameList(a.Members, b.Members) && sameMessage(a.Message, b.Message)
}

func isZero(c api.Command) bool { return same(c, api.Command{}) }

// changed is a command with one of its fields another one, in memory of its own.
func changed(c api.Command, change func(*api.Command)) api.Command {
	c.Members = slices.Clone(c.Members)
	c.Message.Groups = slices.Clone(c.Message.Groups)
	change(&c)
	return c
}

// assign, final, members, commit, retain and compact are commands; they stand in many places.
func assign(id int, groups []int, topic int, key, body string) api.Command {
	return api.Command{Kind: api.CmdAssign, Message: api.Message{Id: id, Groups: groups, Topic: topic, Key: key, Body: body}}
}

func final(id, time int) api.Command { return api.Command{Kind: api.CmdFinal, Id: id, Time: time} }

func members(l ...int) api.Command { return api.Command{Kind: api.CmdChange, Members: l} }

func commit(id, topic, who, n int) api.Command {
	return api.Command{Kind: api.CmdCommit, Id: id, Topic: topic, Who: who, N: n}
}

func retain(id, topic, n int) api.Command {
	return api.Command{Kind: api.CmdRetain, Id: id, Topic: topic, N: n}
}

func compact(id, topic, n int) api.Command {
	return api.Command{Kind: api.CmdCompact, Id: id, Topic: topic, N: n}
}

func kinds() []uint8 { return []uint8{0, 1, 2, 3, 4, 5, 6} }

// few are some commands of each kind, the least and the greatest among them.
func few() []api.Command {
	return []api.Command{
		{},
		assign(0, []int{0}, 0, "", ""),
		assign(1, []int{0, 2}, 3, "k", ""),
		assign(1048577, []int{1, 2, 3}, 1, "", "hear ye"),
		assign(lastId, []int{0, 1, 2, 3}, 3, long(16), long(64)),
		final(0, 1), final(3, 200), final(lastId, lastTime),
		members(0), members(5), members(1, 3, 4), members(0, 1, 2, 3, 4, 5),
		commit(0, 0, 0, 0), commit(7, 1, 7, 9), commit(lastId, 3, 7, lastTime),
		retain(0, 0, 0), retain(7, 1, 9), retain(lastId, 3, lastTime),
		compact(0, 0, 0), compact(7, 1, 9), compact(lastId, 3, lastTime),
	}
}

// many are commands of all kinds, with all edges of each field, and all lists that may be.
func many() (l []api.Command) {
	l = append(l, api.Command{})
	for i, id := range ids() {
		for j, n := range times() {
			l = append(l, final(id, n))
			for topic := range 4 {
				l = append(l, retain(id, topic, n-1), retain(id, topic, n), compact(id, topic, n-1), compact(id, topic, n))
				for who := range 8 {
					l = append(l, commit(id, topic, who, n-1), commit(id, topic, who, n))
				}
			}
			l = append(l, assign(id, subsets(4)[1+(i*7+j)%15], j%4, keys()[(i+j)%len(keys())], bodies()[(i*3+j)%len(bodies())]))
		}
	}
	for _, of := range subsets(6)[1:] {
		l = append(l, members(of...))
	}
	for i, of := range subsets(4)[1:] {
		for topic := range 4 {
			for _, key := range keys() {
				for _, body := range bodies() {
					l = append(l, assign(ids()[(i+topic)%len(ids())], of, topic, key, body))
				}
			}
		}
	}
	return l
}

// subsets are all lists of some of the first n numbers, rising; the one of none comes first.
func subsets(n int) (l [][]int) {
	for set := range 1 << n {
		var of []int
		for i := range n {
			if set>>i%2 == 1 {
				of = append(of, i)
			}
		}
		l = append(l, of)
	}
	return l
}

func long(bytes int) string { return strings.Repeat("v", bytes) }

func ids() []int {
	return []int{0, 1, 2, 126, 127, 128, 16383, 16384, 1048575, 1048576, 2097151, 2097152, 5242880, lastId - 1, lastId}
}

// times may be an N too, and so may the number ahead of each.
func times() []int {
	return []int{1, 2, 127, 128, 129, 16383, 16384, 2097152, 268435455, 268435456, lastTime - 1, lastTime}
}

// keys are of none to 16 bytes; some have fewer runes than bytes, and some no runes at all; some are a command's text.
func keys() []string {
	return []string{"", "k", "\x00", "\xff", "\x80", "é", "hear ye", "\x02\x03\xc8\x01", long(15), long(16), strings.Repeat("é", 8), strings.Repeat("\xff", 16), strings.Repeat("\x00", 16)}
}

// bodies are of none to 64 bytes.
func bodies() []string {
	return []string{"", "b", "\x00", "\x80\xff", "é", "oyez, oyez", "\x01\x01\x02\x00\x02\x03\x01\x6b\x00", long(63), long(64), strings.Repeat("é", 32), strings.Repeat("\xff", 64), strings.Repeat("\x00", 64)}
}

// noKeys and noBodies are of more; the runes of some are few enough.
func noKeys() []string {
	return []string{long(17), long(18), long(32), long(64), long(256), long(272), long(4097), long(1 << 20), strings.Repeat("é", 9), strings.Repeat("é", 16), strings.Repeat("\xff", 17)}
}

func noBodies() []string {
	return []string{long(65), long(66), long(128), long(256), long(320), long(4097), long(1 << 20), strings.Repeat("é", 33), strings.Repeat("é", 64), strings.Repeat("\xff", 65)}
}

// noNumbers are in no field of a command: those at which ints end, or lose bits, or are no more written.
func noNumbers() []int {
	return []int{math.MinInt, math.MinInt + 1, -1 << 40, -1 << 32, 1 - 1<<32, math.MinInt32, math.MinInt32 + 1, -256, -255, -128, -2, -1,
		lastTime + 1, lastTime + 2, math.MaxInt32, 1 << 31, 1 << 32, 1<<32 + 1, 1 << 40, 1<<40 + 1, math.MaxInt - 1, math.MaxInt}
}

// field is a field of a command, or of its message, that is a number.
type field struct {
	name string
	of   func(c *api.Command) *int
}

func fields() []field {
	return []field{
		{"Id", func(c *api.Command) *int { return &c.Id }},
		{"Time", func(c *api.Command) *int { return &c.Time }},
		{"Topic", func(c *api.Command) *int { return &c.Topic }},
		{"Who", func(c *api.Command) *int { return &c.Who }},
		{"N", func(c *api.Command) *int { return &c.N }},
		{"Message.Id", func(c *api.Command) *int { return &c.Message.Id }},
		{"Message.Topic", func(c *api.Command) *int { return &c.Message.Topic }},
	}
}

func show(c api.Command) string {
	return fmt.Sprintf("kind %d, id %d, time %d, members %s, topic %d, who %d, n %d, message %s", c.Kind, c.Id, c.Time, briefList(c.Members), c.Topic, c.Who, c.N, showMessage(c.Message))
}

func showMessage(m api.Message) string {
	return fmt.Sprintf("(id %d, groups %s, topic %d, %s, %s)", m.Id, briefList(m.Groups), m.Topic, brief(m.Key), brief(m.Body))
}

func briefList(l []int) string {
	if len(l) > 10 {
		return fmt.Sprint(l[:10]) + ".. of " + strconv.Itoa(len(l))
	}
	return fmt.Sprint(l)
}

func brief(s string) string {
	if len(s) > 20 {
		return strconv.Quote(s[:20]) + ".. of " + strconv.Itoa(len(s)) + " bytes"
	}
	return strconv.Quote(s)
}
