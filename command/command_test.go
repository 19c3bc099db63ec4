package command_test

import (
	"math"
	"slices"
	"strings"
	"testing"

	"towncrier/api"
	"towncrier/command"
)

// wantCommand asks all calls of a command that may be. It and those below ask for t.Helper only where something is wrong: that takes longer than what is asked.
func wantCommand(t *testing.T, c api.Command) {
	if e := command.Check(c); e != api.OK {
		t.Helper()
		t.Errorf("Check(%s) = %d", show(c), e)
	}
	want := textOf(c)
	if s, e := command.Write(c); s != want || e != api.OK {
		t.Helper()
		t.Errorf("Write(%s) = %s, %d; want %s", show(c), brief(s), e, brief(want))
	}
	if back, e := command.Read(want); !same(back, c) || e != api.OK {
		t.Helper()
		t.Errorf("Read(%s) = %s, %d; want %s", brief(want), show(back), e, show(c))
	}
}

// wantNoCommand asks the calls of a command that may not be.
func wantNoCommand(t *testing.T, c api.Command) {
	if e := command.Check(c); e != api.ErrKind {
		t.Helper()
		t.Errorf("Check(%s) = %d; want ErrKind", show(c), e)
	}
	if s, e := command.Write(c); s != "" || e != api.ErrKind {
		t.Helper()
		t.Errorf("Write(%s) = %s, %d; want none, ErrKind", show(c), brief(s), e)
	}
}

// wantAsWords asks the calls of a command that may be or not.
func wantAsWords(t *testing.T, c api.Command) bool {
	ok := mayBe(c)
	if ok {
		wantCommand(t, c)
	} else {
		wantNoCommand(t, c)
	}
	return ok
}

// wantMessage asks of a message by itself, and of what each kind of command is with it.
func wantMessage(t *testing.T, m api.Message, ok bool) {
	want := api.OK
	if !ok {
		want = api.ErrKind
	}
	if e := command.CheckMessage(m); e != want || mayBeSaid(m) != ok {
		t.Helper()
		t.Errorf("CheckMessage(%s) = %d; want %d", showMessage(m), e, want)
	}
	c := api.Command{Kind: api.CmdAssign, Message: m}
	if ok {
		wantCommand(t, c)
	} else {
		wantNoCommand(t, c)
	}
	for _, c := range few() {
		if c.Kind != api.CmdAssign && !isNoMessage(m) {
			c.Message = m
			wantNoCommand(t, c)
		}
	}
}

// wantNoText asks of a text that is no command's.
func wantNoText(t *testing.T, s string) {
	want := api.ErrBad
	if len(s) > mostBytes {
		want = api.ErrText
	}
	if c, e := command.Read(s); !isZero(c) || e != want {
		t.Helper()
		t.Errorf("Read(%s) = %s, %d; want none, %d", brief(s), show(c), e, want)
	}
}

// wantReadAsWords asks of any text; where it is read, it is also to be written as just that.
func wantReadAsWords(t *testing.T, s string) (api.Command, bool) {
	c, ok := meant(s)
	if !ok || len(s) > mostBytes {
		wantNoText(t, s)
		return api.Command{}, false
	}
	wantCommand(t, c)
	if got, e := command.Read(s); !same(got, c) || e != api.OK {
		t.Helper()
		t.Errorf("Read(%s) = %s, %d; want %s", brief(s), show(got), e, show(c))
	}
	return c, true
}

func TestChapterExamples(t *testing.T) {
	for _, c := range []struct {
		c api.Command
		s string
	}{
		{api.Command{Kind: api.CmdNop}, "\x00"},
		{api.Command{Kind: api.CmdFinal, Id: 3, Time: 200}, "\x02\x03\xc8\x01"},
		{api.Command{Kind: api.CmdAssign, Message: api.Message{Id: 1, Groups: []int{0, 2}, Topic: 3, Key: "k"}}, "\x01\x01\x02\x00\x02\x03\x01\x6b\x00"},
	} {
		if s, e := command.Write(c.c); s != c.s || e != api.OK {
			t.Errorf("Write(%s) = %q, %d; want %q", show(c.c), s, e, c.s)
		}
		if got, e := command.Read(c.s); !same(got, c.c) || e != api.OK {
			t.Errorf("Read(%q) = %s, %d; want %s", c.s, show(got), e, show(c.c))
		}
	}
	for b := range 256 {
		wantNoText(t, "\x00"+string([]byte{byte(b)}))
	}
	wantNoText(t, "")
	wantNoText(t, "\x07")
	wantNoCommand(t, api.Command{Kind: api.CmdNop, Time: 1})
	wantNoCommand(t, api.Command{Kind: api.CmdChange})
}

// TestTheWordsOnceMore holds the tests' own words against what stands in the chapter.
func TestTheWordsOnceMore(t *testing.T) {
	if got := [4]int{lastId, lastTime, lastTime, mostBytes}; got != [4]int{api.MaxNodes*api.MaxNumber - 1, api.MaxTime, api.MaxOffset, api.MaxValue} {
		t.Error(got)
	}
	for _, c := range many() {
		if back, ok := meant(textOf(c)); !ok || !same(back, c) || !mayBe(c) {
			t.Fatal(show(c), show(back), ok)
		}
	}
	for _, of := range subsets(6) {
		if rises(of, 5) != (len(of) > 0) || rises(of, 3) != (len(of) > 0 && of[len(of)-1] <= 3) {
			t.Error(of)
		}
	}
	for _, l := range [][]int{nil, {}, {-1}, {4}, {0, 0}, {1, 0}, {0, 1, 1}, {0, 4}, {-1, 0}, {0, 1, 2, 3, 4}} {
		if rises(l, 3) {
			t.Error(l)
		}
	}
}

// TestP121WhatAKindNames puts numbers that each field may have into each field of each kind: where the kind doesn't name it, it may not be.
func TestP121WhatAKindNames(t *testing.T) {
	named := map[string][]uint8{"Id": {2, 4, 5, 6}, "Time": {2}, "Topic": {4, 5, 6}, "Who": {4}, "N": {4, 5, 6}, "Message.Id": {1}, "Message.Topic": {1}}
	for _, good := range few() {
		for _, f := range fields() {
			for n := 1; n <= 3; n++ {
				c := changed(good, func(c *api.Command) { *f.of(c) = n })
				if slices.Contains(named[f.name], good.Kind) {
					wantCommand(t, c)
				} else {
					wantNoCommand(t, c)
				}
			}
		}
		for _, of := range subsets(6)[1:] {
			c := changed(good, func(c *api.Command) { c.Members = of })
			if good.Kind == api.CmdChange {
				wantCommand(t, c)
			} else {
				wantNoCommand(t, c)
			}
		}
		for _, of := range subsets(4)[1:] {
			wantAsAssignment(t, changed(good, func(c *api.Command) { c.Message.Groups = of }))
		}
		wantAsAssignment(t, changed(good, func(c *api.Command) { c.Message.Key = "k" }))
		wantAsAssignment(t, changed(good, func(c *api.Command) { c.Message.Body = "\x00" }))
	}
}

// wantAsAssignment asks of a command with something in its message: an assignment alone may have that.
func wantAsAssignment(t *testing.T, c api.Command) {
	t.Helper()
	if c.Kind == api.CmdAssign {
		wantCommand(t, c)
	} else {
		wantNoCommand(t, c)
	}
}

// TestP121Kinds asks of all numbers of kinds, with what each of the kinds would have.
func TestP121Kinds(t *testing.T) {
	for _, c := range few() {
		wantCommand(t, c)
		for kind := range 256 {
			c.Kind = uint8(kind)
			if wantAsWords(t, c) && kind > 6 {
				t.Error(kind)
			}
			if kind > 6 {
				wantNoCommand(t, c)
				wantNoCommand(t, api.Command{Kind: c.Kind})
			}
		}
	}
}

func TestP121Ids(t *testing.T) {
	for _, id := range ids() {
		for _, c := range []api.Command{final(id, 1), commit(id, 0, 0, 0), retain(id, 0, 0), compact(id, 0, 0), assign(id, []int{0}, 0, "", "")} {
			wantCommand(t, c)
		}
		wantMessage(t, api.Message{Id: id, Groups: []int{3}}, true)
	}
	for _, id := range append(noNumbers(), lastId+1, lastId+2, 1<<23, 6<<21) {
		for _, c := range []api.Command{final(id, 1), commit(id, 0, 0, 0), retain(id, 0, 0), compact(id, 0, 0), assign(id, []int{0}, 0, "", "")} {
			wantNoCommand(t, c)
		}
		wantMessage(t, api.Message{Id: id, Groups: []int{3}}, false)
	}
}

// TestP121IdsOfAllNodes: the id of each node's first and last message may be one, and the next number is the next node's.
func TestP121IdsOfAllNodes(t *testing.T) {
	for node := range 7 {
		for _, number := range []int{0, 1, 1<<20 - 1} {
			wantAsWords(t, final(node<<20+number, 1))
			wantMessage(t, api.Message{Id: node<<20 + number, Groups: []int{0, 3}}, node < 6)
		}
	}
}

// TestP121Groups has all lists of up to five numbers near those that may be.
func TestP121Groups(t *testing.T) {
	may := 0
	var lengthen func(l []int)
	lengthen = func(l []int) {
		m := api.Message{Id: 5, Groups: l, Topic: 2, Key: "k", Body: "b"}
		wantMessage(t, m, rises(l, 3))
		if mayBeSaid(m) {
			may++
		}
		for group := -1; len(l) < 5 && group <= 4; group++ {
			lengthen(append(slices.Clip(l), group))
		}
	}
	lengthen(nil)
	if may != 15 {
		t.Error(may)
	}
}

func TestP121GroupsThatMayNotBe(t *testing.T) {
	for _, l := range [][]int{{}, make([]int, 4), make([]int, 5), make([]int, 1<<20), {0, 1, 2, 3, 3}, {0, 1, 2, 3, 4}, {0, 0, 1, 2, 3}, {3, 2, 1, 0}, {1, 2, 0}, {0, 2, 1}, {2, 2}, {0, 256}, {256}, {1 << 32}, {0, 1<<32 + 1}} {
		wantMessage(t, api.Message{Groups: l}, false)
	}
	for _, no := range noNumbers() {
		for _, l := range [][]int{{no}, {no, 0}, {0, no}, {0, 1, no}, {no, 1, 2, 3}, {0, no, 3}, {0, 1, 2, no}} {
			wantMessage(t, api.Message{Groups: l}, false)
		}
	}
}

func TestP121Topics(t *testing.T) {
	for topic := range 4 {
		wantCommand(t, commit(1, topic, 2, 3))
		wantCommand(t, retain(1, topic, 3))
		wantCommand(t, compact(1, topic, 3))
		wantMessage(t, api.Message{Groups: []int{1}, Topic: topic}, true)
	}
	for _, topic := range append(noNumbers(), 4, 5, 7, 127, 128, 255, 256, 257, 259) {
		wantNoCommand(t, commit(1, topic, 2, 3))
		wantNoCommand(t, retain(1, topic, 3))
		wantNoCommand(t, compact(1, topic, 3))
		wantMessage(t, api.Message{Groups: []int{1}, Topic: topic}, false)
	}
}

func TestP121KeysAndBodies(t *testing.T) {
	for _, of := range [][]int{{0}, {0, 1, 2, 3}} {
		for _, key := range keys() {
			for _, body := range bodies() {
				wantMessage(t, api.Message{Id: 9, Groups: of, Topic: 1, Key: key, Body: body}, true)
			}
			for _, body := range noBodies() {
				wantMessage(t, api.Message{Id: 9, Groups: of, Topic: 1, Key: key, Body: body}, false)
			}
		}
		for _, key := range noKeys() {
			for _, body := range append(bodies(), noBodies()...) {
				wantMessage(t, api.Message{Id: 9, Groups: of, Topic: 1, Key: key, Body: body}, false)
			}
		}
		// What a body may have is too much for a key.
		wantMessage(t, api.Message{Groups: of, Key: long(64)}, false)
	}
}

func TestP121HowManyBytes(t *testing.T) {
	for size := range 100 {
		wantMessage(t, api.Message{Groups: []int{2}, Key: long(size)}, size <= 16)
		wantMessage(t, api.Message{Groups: []int{2}, Body: long(size)}, size <= 64)
		wantMessage(t, api.Message{Groups: []int{2}, Key: long(16), Body: long(size)}, size <= 64)
		wantMessage(t, api.Message{Groups: []int{2}, Key: long(size), Body: long(64)}, size <= 16)
	}
}

func TestP121Times(t *testing.T) {
	for _, time := range times() {
		wantCommand(t, final(0, time))
		wantCommand(t, final(lastId, time))
	}
	for _, time := range append(noNumbers(), 0) {
		wantNoCommand(t, final(0, time))
		wantNoCommand(t, final(lastId, time))
	}
}

func TestP121Whos(t *testing.T) {
	for who := range 8 {
		wantCommand(t, commit(0, 0, who, 0))
		wantCommand(t, commit(lastId, 3, who, lastTime))
	}
	for _, who := range append(noNumbers(), 8, 9, 127, 128, 255, 256, 257, 263) {
		wantNoCommand(t, commit(0, 0, who, 0))
		wantNoCommand(t, commit(lastId, 3, who, lastTime))
	}
}

func TestP121Ns(t *testing.T) {
	for _, n := range append(times(), 0) {
		wantCommand(t, commit(0, 0, 0, n))
		wantCommand(t, retain(lastId, 3, n))
		wantCommand(t, compact(5, 1, n))
	}
	for _, n := range noNumbers() {
		wantNoCommand(t, commit(0, 0, 0, n))
		wantNoCommand(t, retain(lastId, 3, n))
		wantNoCommand(t, compact(5, 1, n))
	}
}

// TestP121Members has all lists of up to four numbers near those that may be, and longer ones.
func TestP121Members(t *testing.T) {
	for _, of := range subsets(6) {
		if wantAsWords(t, members(of...)) != (len(of) > 0) {
			t.Error(of)
		}
	}
	var lengthen func(l []int)
	lengthen = func(l []int) {
		wantAsWords(t, members(l...))
		for node := -1; len(l) < 4 && node <= 6; node++ {
			lengthen(append(slices.Clip(l), node))
		}
	}
	lengthen(nil)
	for _, l := range [][]int{nil, {}, {6}, {-1}, {5, 4}, {0, 0}, {0, 1, 2, 3, 4, 6}, {0, 1, 2, 3, 5, 4}, {0, 1, 2, 3, 4, 4}, {0, 1, 2, 3, 4, 5, 5}, {0, 1, 2, 3, 4, 5, 6}, make([]int, 6), make([]int, 7), make([]int, 1<<20), {256}, {0, 257}, {1 << 32}} {
		wantNoCommand(t, members(l...))
	}
	for _, no := range noNumbers() {
		for _, l := range [][]int{{no}, {no, 0}, {0, no}, {0, no, 5}, {0, 1, 2, 3, 4, no}, {0, 1, 2, 3, 4, 5, no}} {
			wantNoCommand(t, members(l...))
		}
	}
}

// TestP121ListsWithoutElements: such a list is none, be it nil or not, and whatever room it has.
func TestP121ListsWithoutElements(t *testing.T) {
	for _, good := range few() {
		for _, none := range [][]int{nil, {}, make([]int, 0, 4), []int{1, 2}[:0]} {
			c := good
			if good.Kind != api.CmdChange {
				c.Members = none
				wantCommand(t, c)
			}
			if good.Kind != api.CmdAssign {
				c.Message.Groups = none
				wantCommand(t, c)
			}
			c = good
			c.Members, c.Message.Groups = none, none
			if good.Kind == api.CmdChange || good.Kind == api.CmdAssign {
				wantNoCommand(t, c)
			} else {
				wantCommand(t, c)
			}
		}
		// A list of a zero is not one of none.
		if good.Kind != api.CmdChange {
			wantNoCommand(t, changed(good, func(c *api.Command) { c.Members = []int{0} }))
		}
		if good.Kind != api.CmdAssign {
			wantNoCommand(t, changed(good, func(c *api.Command) { c.Message.Groups = []int{0} }))
		}
	}
}

// TestP121OneFieldWrong puts the least and the greatest number, and some between, into one field of a command that may be, and into several.
func TestP121OneFieldWrong(t *testing.T) {
	l := fields()
	for _, good := range few() {
		for _, no := range noNumbers() {
			for set := 1; set < 1<<len(l); set++ {
				if set&(set-1) != 0 && set%5 != 0 {
					continue
				}
				wantNoCommand(t, changed(good, func(c *api.Command) {
					for i, f := range l {
						if set>>i%2 == 1 {
							*f.of(c) = no
						}
					}
				}))
			}
		}
	}
}

// TestP121AnyOtherKindsFields lets a command of each kind have all that one of another kind has, so that all of both is there.
func TestP121AnyOtherKindsFields(t *testing.T) {
	for _, a := range few() {
		for _, b := range few() {
			c := changed(a, func(c *api.Command) {
				for _, f := range fields() {
					*f.of(c) = max(*f.of(c), *f.of(&b))
				}
				c.Members = append(c.Members, b.Members...)
				c.Message.Groups = append(c.Message.Groups, b.Message.Groups...)
				c.Message.Key += b.Message.Key
				c.Message.Body += b.Message.Body
			})
			wantAsWords(t, c)
		}
	}
}

// TestP121AllSmall goes through all fields at once, with what may be and what may not.
func TestP121AllSmall(t *testing.T) {
	said := []api.Message{{}, {Groups: []int{}}, {Groups: []int{2}}, {Id: 1}, {Topic: 1}, {Key: "k"}, {Body: "b"}, {Id: -1, Groups: []int{2}}}
	may := map[uint8]int{}
	for kind := range 9 {
		for _, m := range said {
			for _, id := range []int{-1, 0, 1} {
				for _, time := range []int{-1, 0, 1} {
					for _, of := range [][]int{nil, {0}, {0, 0}} {
						for _, topic := range []int{-1, 0, 3, 4} {
							for _, who := range []int{0, 7, 8} {
								for _, n := range []int{-1, 0, 1} {
									c := api.Command{Kind: uint8(kind), Message: m, Id: id, Time: time, Members: of, Topic: topic, Who: who, N: n}
									if wantAsWords(t, c) {
										may[c.Kind]++
									}
								}
							}
						}
					}
				}
			}
		}
	}
	// Twice, for the two messages that are none, but for the assignment: its ids, topics, consumers and Ns.
	for kind, n := range []int{2, 1, 2 * 2, 2, 2 * 2 * 2 * 2 * 2, 2 * 2 * 2 * 2, 2 * 2 * 2 * 2} {
		if may[uint8(kind)] != n {
			t.Error(kind, may[uint8(kind)], n)
		}
	}
}

// others are a command with one of its fields another one, each in each way that matters.
func others(c api.Command) (l []api.Command) {
	add := func(change func(c *api.Command)) { l = append(l, changed(c, change)) }
	for _, by := range []uint8{1, 2, 128, 255} {
		add(func(c *api.Command) { c.Kind += by })
	}
	for _, f := range fields() {
		for _, by := range []int{1, -1, 256, 1 << 31, 1 << 32, math.MinInt, math.MaxInt} {
			add(func(c *api.Command) { *f.of(c) += by })
		}
	}
	for _, f := range []func(c *api.Command) *[]int{func(c *api.Command) *[]int { return &c.Members }, func(c *api.Command) *[]int { return &c.Message.Groups }} {
		add(func(c *api.Command) { *f(c) = append(*f(c), 0) })
		add(func(c *api.Command) { *f(c) = append(*f(c), 7) })
		add(func(c *api.Command) { *f(c) = slices.Insert(*f(c), 0, 9) })
		for i := range *f(&c) {
			add(func(c *api.Command) { (*f(c))[i]++ })
			add(func(c *api.Command) { (*f(c))[i] += 1 << 32 })
			add(func(c *api.Command) { *f(c) = slices.Delete(*f(c), i, i+1) })
			if (*f(&c))[i] != (*f(&c))[0] {
				add(func(c *api.Command) { (*f(c))[0], (*f(c))[i] = (*f(c))[i], (*f(c))[0] })
			}
		}
	}
	for _, f := range []func(c *api.Command) *string{func(c *api.Command) *string { return &c.Message.Key }, func(c *api.Command) *string { return &c.Message.Body }} {
		add(func(c *api.Command) { *f(c) += "x" })
		add(func(c *api.Command) { *f(c) += "\x00" })
		add(func(c *api.Command) { *f(c) = "y" + *f(c) })
		if *f(&c) != "" {
			add(func(c *api.Command) { *f(c) = (*f(c))[1:] })
			add(func(c *api.Command) { *f(c) = "Z" + (*f(c))[1:] })
			add(func(c *api.Command) { *f(c) = (*f(c))[:len(*f(c))-1] + "Z" })
		}
	}
	return l
}

// anyOnes are commands that may be, and some that may not: all fields at once, lists of any length, bytes of any number.
func anyOnes() []api.Command {
	full := api.Message{Id: -5, Groups: []int{3, 2, 9, 9, -1, math.MaxInt}, Topic: 77, Key: long(40), Body: long(2000)}
	return append(few(),
		api.Command{Kind: 255, Message: full, Id: math.MinInt, Time: math.MaxInt, Members: []int{8, 8, 0, -1, 4, 4, 4}, Topic: -9, Who: 100, N: -1},
		api.Command{Kind: 1, Message: full, Id: 1, Time: 2, Members: []int{3, 4}, Topic: 5, Who: 6, N: 7},
		api.Command{Kind: 3, Message: api.Message{Id: 5, Groups: []int{1, 2}, Topic: 1, Key: "k", Body: "b"}, Members: []int{1, 2}},
		api.Command{Kind: 0, Members: make([]int, 300), Message: api.Message{Groups: make([]int, 300)}},
	)
}

func wantSame(t *testing.T, a, b api.Command, want bool) {
	if command.Same(a, b) != want || command.Same(b, a) != want || same(a, b) != want {
		t.Helper()
		t.Errorf("Same(%s; %s) is not %t", show(a), show(b), want)
	}
	want = sameMessage(a.Message, b.Message)
	if command.SameMessage(a.Message, b.Message) != want || command.SameMessage(b.Message, a.Message) != want {
		t.Helper()
		t.Errorf("SameMessage(%s; %s) is not %t", showMessage(a.Message), showMessage(b.Message), want)
	}
}

func TestP121SameOfAnyOnes(t *testing.T) {
	for i, a := range anyOnes() {
		for j, b := range anyOnes() {
			wantSame(t, a, b, i == j)
		}
		for _, b := range others(a) {
			wantSame(t, a, b, false)
			wantSame(t, b, b, true)
		}
	}
}

// TestP121SameOfTheirFieldsChangedAbout: two fields that have each other's numbers are not the same.
func TestP121SameOfTheirFieldsChangedAbout(t *testing.T) {
	c := api.Command{Kind: 1, Message: api.Message{Id: 2, Groups: []int{3, 4}, Topic: 5, Key: "k", Body: "b"}, Id: 6, Time: 7, Members: []int{8, 9}, Topic: 10, Who: 11, N: 12}
	l := fields()
	for i, f := range l {
		for _, g := range l[:i] {
			wantSame(t, c, changed(c, func(c *api.Command) { *f.of(c), *g.of(c) = *g.of(c), *f.of(c) }), false)
		}
	}
	wantSame(t, c, changed(c, func(c *api.Command) { c.Members, c.Message.Groups = c.Message.Groups, c.Members }), false)
	wantSame(t, c, changed(c, func(c *api.Command) { c.Message.Key, c.Message.Body = "b", "k" }), false)
	wantSame(t, c, changed(c, func(c *api.Command) { c.Message.Key, c.Message.Body = "kb", "" }), false)
	wantSame(t, c, changed(c, func(c *api.Command) { c.Members, c.Message.Groups = []int{8, 9, 3}, []int{4} }), false)
}

func TestP121SameMessageOfAnyOnes(t *testing.T) {
	l := anyOnes()
	for i, a := range anyOnes() {
		for j, b := range l {
			if got := command.SameMessage(a.Message, b.Message); got != sameMessage(a.Message, b.Message) || i == j && !got {
				t.Error(i, j, got)
			}
		}
	}
}

func TestP121SameOfListsWithoutElements(t *testing.T) {
	nones := [][]int{nil, {}, make([]int, 0, 4), []int{1, 2}[:0]}
	for _, a := range nones {
		for _, b := range nones {
			for _, c := range anyOnes() {
				c.Members, c.Message.Groups = a, b
				d := c
				d.Members, d.Message.Groups = b, a
				wantSame(t, c, d, true)
				d.Members = []int{0}
				wantSame(t, c, d, false)
				d.Members, d.Message.Groups = a, []int{0}
				wantSame(t, c, d, false)
			}
		}
	}
}

// TestP121SameIsOfTheirElements: what stands behind a list, and whose memory it is, is nothing to Same.
func TestP121SameIsOfTheirElements(t *testing.T) {
	for _, c := range anyOnes() {
		wantSame(t, c, spare(c, 77), true)
		wantSame(t, spare(c, 5), spare(c, 77), true)
		d := c
		d.Message.Key = strings.Clone(c.Message.Key)
		wantSame(t, c, d, true)
	}
}
