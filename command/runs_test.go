package command_test

import (
	"fmt"
	"math"
	"reflect"
	"slices"
	"testing"

	"towncrier/api"
	"towncrier/command"
)

// spare is a command in memory of its own, in lists that have room behind them, with something in it.
func spare(c api.Command, room int) api.Command {
	widen := func(l []int) []int { return append(slices.Clone(l), room, room, room, room)[:len(l)] }
	c.Members = widen(c.Members)
	c.Message.Groups = widen(c.Message.Groups)
	return c
}

// whole is a command with what stands behind its lists, in memory of its own.
func whole(c api.Command) api.Command {
	c.Members = slices.Clone(c.Members[:cap(c.Members)])
	c.Message.Groups = slices.Clone(c.Message.Groups[:cap(c.Message.Groups)])
	return c
}

// area is the memory of a list, its room too.
type area struct{ from, to uintptr }

func areas(c api.Command) (l []area) {
	for _, list := range [][]int{c.Members, c.Message.Groups} {
		if v := reflect.ValueOf(list); v.Cap() > 0 {
			l = append(l, area{v.Pointer(), v.Pointer() + uintptr(v.Cap())*8})
		}
	}
	return l
}

// wantApart asks that no two lists of what is answered share memory, nor one of it with one of what was handed in.
func wantApart(t *testing.T, call string, in, got []area) {
	t.Helper()
	for i, a := range got {
		for _, b := range append(got[:i:i], in...) {
			if a.from < b.to && b.from < a.to {
				t.Errorf("%s: lists of the answer share memory, or with what was handed in", call)
				return
			}
		}
	}
}

// spoil writes over all that the lists have, with what is behind them.
func spoil(c api.Command) {
	for _, l := range [][]int{c.Members, c.Message.Groups} {
		l = l[:cap(l)]
		for i := range l {
			l[i] = -5
		}
	}
}

func TestP123WhatIsHandedInIsOnlyRead(t *testing.T) {
	for _, c := range append(anyOnes(), many()...) {
		a, b := spare(c, 77), spare(c, 78)
		beforeA, beforeB := whole(a), whole(b)
		command.Check(a)
		command.CheckMessage(a.Message)
		command.Write(a)
		command.Same(a, b)
		command.Same(b, a)
		command.SameMessage(a.Message, b.Message)
		command.SameMessage(b.Message, a.Message)
		if !same(whole(a), beforeA) || !same(whole(b), beforeB) {
			t.Fatalf("%s became %s", show(beforeA), show(whole(a)))
		}
	}
}

func TestP123OneListInTwoPlaces(t *testing.T) {
	l := []int{0, 1, 2, 3}
	for _, c := range anyOnes() {
		c.Members, c.Message.Groups = l, l[:2]
		wantAsWords(t, c)
		wantSame(t, c, c, true)
		c.Members, c.Message.Groups = l[:1], l[1:]
		wantAsWords(t, c)
		if !slices.Equal(l, []int{0, 1, 2, 3}) {
			t.Fatal(show(c), l)
		}
	}
	wantCommand(t, members(l...))
	wantMessage(t, api.Message{Groups: l}, true)
}

func TestP123WhatIsAnsweredIsNewMemory(t *testing.T) {
	var all []area
	var kept []api.Command
	for _, c := range many() {
		in := spare(c, 77)
		s, e := command.Write(in)
		if e != api.OK {
			t.Fatal(show(c), e)
		}
		a, _ := command.Read(s)
		b, _ := command.Read(s)
		wantApart(t, "Read of "+brief(s), areas(in), append(areas(a), areas(b)...))
		if len(kept) < 500 {
			all, kept = append(all, append(areas(a), areas(b)...)...), append(kept, a, b)
		}
		spoil(in)
		if !same(a, c) || s != textOf(c) {
			t.Fatal(show(c), show(a), brief(s))
		}
	}
	// So long as all of these are kept, no two of them have the same memory.
	wantApart(t, "Read", nil, all)
	if len(kept) < 500 {
		t.Error(len(kept))
	}
}

// TestP123WhatIsAnsweredMayBeWrittenOver writes over what is answered, its room too, and asks once more.
func TestP123WhatIsAnsweredMayBeWrittenOver(t *testing.T) {
	for _, c := range few() {
		s := textOf(c)
		for range 3 {
			got, e := command.Read(s)
			again, _ := command.Read(s)
			if !same(got, c) || e != api.OK {
				t.Fatal(show(got), e)
			}
			spoil(got)
			if !same(again, c) || s != textOf(c) {
				t.Fatal(show(again), brief(s))
			}
		}
	}
}

// TestP123ATextOfBytesThatChange reads a text of which the bytes are changed then: what was read has memory of its own.
func TestP123ATextOfBytesThatChange(t *testing.T) {
	for _, c := range few() {
		b := []byte(textOf(c))
		got, e := command.Read(string(b))
		clear(b)
		if !same(got, c) || e != api.OK {
			t.Error(show(c), show(got), e)
		}
	}
}

// TestR1WhateverIsHandedIn asks all calls of lists and texts of great lengths, and of numbers at both ends.
func TestR1WhateverIsHandedIn(t *testing.T) {
	rising := make([]int, 1<<20)
	for i := range rising {
		rising[i] = i
	}
	for _, l := range [][]int{make([]int, 1<<20), rising, {math.MinInt, math.MaxInt}, {math.MaxInt, math.MinInt}} {
		for _, kind := range append(kinds(), 7, 255) {
			c := api.Command{Kind: kind, Members: l, Message: api.Message{Groups: l, Key: long(1 << 16), Body: long(1 << 16)}}
			wantNoCommand(t, c)
			wantSame(t, c, c, true)
			wantNoCommand(t, api.Command{Kind: kind, Members: l})
			wantNoCommand(t, api.Command{Kind: kind, Message: api.Message{Groups: l}})
		}
		wantMessage(t, api.Message{Groups: l}, false)
	}
	for _, s := range []string{"\x03\x80\x80\x80\x80\x80\x20", "\x01\x00\x80\x80\x80\x80\x80\x20", "\x01\x00\x01\x00\x00\x80\x80\x80\x80\x80\x20", "\x03\xff\xff\xff\xff\xff\xff\xff\xff\x7f", "\x01\x00\x01\x00\x00\xff\xff\xff\xff\xff\xff\xff\xff\x7f"} {
		for _, behind := range []string{"", "\x00", long(500), long(1024), long(1 << 20)} {
			wantNoText(t, s+behind)
		}
	}
}

// A call keeps nothing of the one ahead: what it answers hangs on its argument alone.
func TestR2CallsKeepNothing(t *testing.T) {
	for range 3 {
		for _, c := range few() {
			wantCommand(t, c)
			wantNoCommand(t, api.Command{Kind: c.Kind, Time: -1})
			wantNoText(t, textOf(c)+"\x00")
			wantCommand(t, c)
			wantNoText(t, textOf(c)[1:]+"\x07")
			wantSame(t, c, c, true)
			wantCommand(t, api.Command{})
		}
	}
}

// dice tells numbers that look like any ones, always the same.
type dice uint64

func (d *dice) below(n int) int {
	*d = *d*6364136223846793005 + 1442695040888963407
	return int(uint64(*d) >> 33 % uint64(n))
}

func pick[T any](d *dice, l ...T) T { return l[d.below(len(l))] }

// number is one that a field may have, mostly.
func (d *dice) number(most int) int {
	switch d.below(12) {
	case 0:
		return pick(d, noNumbers()...)
	case 1:
		return most + d.below(2)
	case 2:
		return d.below(8) - 1
	}
	return d.below(most + 1)
}

func (d *dice) list(most int) []int {
	l := pick(d, subsets(most)[1:]...)
	switch d.below(8) {
	case 0:
		l = append(l, d.below(most+2))
	case 1:
		l[d.below(len(l))] = d.number(most)
	case 2:
		return nil
	}
	return l
}

func (d *dice) bytes(most int) string {
	b := make([]byte, pick(d, 0, 1, d.below(most+1), most, most, most+d.below(2)))
	for i := range b {
		b[i] = byte(d.below(256))
	}
	return string(b)
}

// command is one that may be, mostly, or has something that its kind doesn't name.
func (d *dice) command() (c api.Command) {
	c.Kind = uint8(d.below(7) + d.below(20)/19)
	names := func(kinds ...uint8) bool { return slices.Contains(kinds, c.Kind) != (d.below(60) == 0) }
	if names(1) {
		c.Message = api.Message{Id: d.number(lastId), Groups: d.list(4), Topic: d.number(3), Key: d.bytes(16), Body: d.bytes(64)}
	}
	if names(2, 4, 5, 6) {
		c.Id = d.number(lastId)
	}
	if names(2) {
		c.Time = d.number(lastTime)
	}
	if names(3) {
		c.Members = d.list(6)
	}
	if names(4, 5, 6) {
		c.Topic, c.N = d.number(3), d.number(lastTime)
	}
	if names(4) {
		c.Who = d.number(7)
	}
	return c
}

// text is a command's, mostly with some bytes changed.
func (d *dice) text(c api.Command) string {
	b := []byte(textOf(c))
	for range d.below(3) {
		switch at := d.below(len(b) + 1); d.below(4) {
		case 0:
			b = b[:at]
		case 1:
			b = slices.Insert(b, at, byte(d.below(256)))
		case 2:
			b = slices.Delete(b, max(at-1, 0), at)
		case 3:
			if at < len(b) {
				b[at] ^= 1 << d.below(8)
			}
		}
	}
	return string(b)
}

func TestP124ManyCommandsAndTexts(t *testing.T) {
	d := dice(12)
	may, read := map[uint8]int{}, map[uint8]int{}
	for range 200000 {
		c := d.command()
		if wantAsWords(t, c) {
			may[c.Kind]++
		}
		if c, ok := wantReadAsWords(t, d.text(c)); ok {
			read[c.Kind]++
		}
		if t.Failed() {
			return
		}
	}
	for _, kind := range kinds() {
		if may[kind] < 1000 || read[kind] < 1000 {
			t.Error(kind, may[kind], read[kind])
		}
	}
}

func ExampleWrite() {
	s, _ := command.Write(api.Command{Kind: api.CmdAssign, Message: api.Message{Id: 1, Groups: []int{0, 2}, Topic: 3, Key: "k"}})
	fmt.Println([]byte(s))
	_, e := command.Write(api.Command{Kind: api.CmdNop, Time: 1})
	fmt.Println(e == api.ErrKind)
	// Output:
	// [1 1 2 0 2 3 1 107 0]
	// true
}

func ExampleRead() {
	c, _ := command.Read("\x02\x03\xc8\x01")
	fmt.Println(c.Kind == api.CmdFinal, c.Id, c.Time)
	_, e := command.Read("\x02\x03\xc8\x01\x00")
	fmt.Println(e == api.ErrBad)
	// Output:
	// true 3 200
	// true
}
