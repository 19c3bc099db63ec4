package topic_test

import (
	"math"
	"reflect"
	"runtime"
	"slices"
	"strings"
	"testing"

	"towncrier/api"
	"towncrier/topic"
)

// handed is a topic in memory of its own, in a list with room behind it. What stands in the room would change each answer.
func handed(x api.Topic) api.Topic {
	l := append(make([]api.Entry, 0, len(x.Entries)+3), x.Entries...)
	l = append(l, api.Entry{Offset: x.Next, Id: 3, Key: "a", Body: "room"}, api.Entry{Offset: 4, Key: "a"}, api.Entry{Offset: -7, Id: -7})
	x.Entries = l[:len(x.Entries)]
	return x
}

// whole is a list with what stands behind it, in memory of its own.
func whole(x api.Topic) []api.Entry { return slices.Clone(x.Entries[:cap(x.Entries)]) }

// area is the memory of a topic's list, its room too.
type area struct{ from, to uintptr }

func areaOf(x api.Topic) area {
	from := reflect.ValueOf(x.Entries).Pointer()
	return area{from, from + uintptr(cap(x.Entries))*reflect.TypeFor[api.Entry]().Size()}
}

// wantApart asks that no two of some topics share memory.
func wantApart(t *testing.T, call string, all ...api.Topic) {
	for i, one := range all {
		for _, other := range all[:i] {
			if a, b := areaOf(one), areaOf(other); a.from < b.to && b.from < a.to {
				t.Helper()
				t.Errorf("%s: %s and %s share memory", call, show(one), show(other))
			}
		}
	}
}

// spoil writes over all that a topic's list has, and over what is behind it.
func spoil(x api.Topic) {
	l := x.Entries[:cap(x.Entries)]
	for i := range l {
		l[i] = api.Entry{Offset: -5, Id: -5, Key: "spoilt", Body: "spoilt"}
	}
}

func TestP174WhatIsHandedInIsOnlyRead(t *testing.T) {
	for _, x := range append(someTopics(), noTopics()...) {
		in, other := handed(x), handed(theTopic())
		before, otherBefore := whole(in), whole(other)
		topic.Check(in)
		topic.Same(in, other)
		topic.Same(other, in)
		wantApart(t, "Twin", in, other, topic.Twin(in))
		for _, offset := range asked(x) {
			topic.Fetch(in, offset)
		}
		for _, id := range []int{-1, 0, lastId} {
			for _, key := range []string{"", "a", text(17)} {
				got, _, _ := topic.Add(in, id, key, "b")
				wantApart(t, "Add", in, other, got)
			}
		}
		if !slices.Equal(whole(in), before) || !slices.Equal(whole(other), otherBefore) || in.Base != x.Base || in.Next != x.Next || in.Mark != x.Mark {
			t.Fatalf("%s: it was written into", show(x))
		}
	}
}

// TestP174SpareRoomDoesNotCount has entries behind a topic's list, that would be of the next offset, or of one that is gone.
func TestP174SpareRoomDoesNotCount(t *testing.T) {
	for _, x := range append(someTopics(), noTopics()...) {
		in := handed(x)
		wantAsWords(t, in)
		if !same(topic.Twin(in), x) || !topic.Same(in, x) || !topic.Same(x, in) {
			t.Error(show(x))
		}
		wantFetched(t, in)
		want, offset, e := added(x, 8, "k", "y")
		wantAdd(t, in, 8, "k", "y", want, offset, e)
	}
}

// TestP174NoTwoAnswersShareMemory keeps many answers: so no two of them have the same memory by chance.
func TestP174NoTwoAnswersShareMemory(t *testing.T) {
	for _, x := range someTopics() {
		in := handed(x)
		all := []api.Topic{in}
		for i := range 5 {
			got, _, _ := topic.Add(in, i, "k", "b")
			again, _, _ := topic.Add(in, i, "k", "b")
			behind, _, _ := topic.Add(got, i, "k", "b")
			all = append(all, got, again, behind, topic.Twin(in), topic.Twin(got), topic.New())
		}
		wantApart(t, "Add, Twin and New", all...)
		runtime.KeepAlive(all)
	}
}

// TestP174WhatIsAnsweredMayBeWrittenOver writes over what is answered, its room too, and asks once more; and over what was handed in.
func TestP174WhatIsAnsweredMayBeWrittenOver(t *testing.T) {
	for _, x := range someTopics() {
		in := handed(x)
		want, offset, wantError := added(x, 8, "k", "y")
		for range 3 {
			got, at, e := topic.Add(in, 8, "k", "y")
			twin := topic.Twin(in)
			if !same(got, want) || at != offset || e != wantError || !same(twin, x) || !same(in, x) {
				t.Fatal(show(x), show(got), at, e)
			}
			spoil(got)
			if !same(twin, x) || !same(in, x) {
				t.Fatal(show(x), "Add's answer is in another one")
			}
			spoil(twin)
			begin := topic.New()
			spoil(begin)
			begin.Next = 7
		}
		got, _, _ := topic.Add(in, 8, "k", "y")
		twin := topic.Twin(in)
		spoil(in)
		if !same(got, want) || !same(twin, x) || !same(topic.New(), api.Topic{}) {
			t.Fatal(show(x), show(got), show(twin))
		}
	}
}

// TestP174WhatIsAnsweredGoesTwoWays adds two messages to one topic that was answered: neither is to be seen in the other's answer.
func TestP174WhatIsAnsweredGoesTwoWays(t *testing.T) {
	x := topic.New()
	for i := range most - 1 {
		one, _, _ := topic.Add(x, 1, "one", "")
		other, _, _ := topic.Add(x, 2, "other", "")
		if one.Entries[i].Id != 1 || other.Entries[i].Id != 2 || len(x.Entries) != i {
			t.Fatal(i, show(one), show(other))
		}
		x = other
	}
}

// keyOf is one of so few keys that many come again, or of so many that few do.
func keyOf(d *dice) string {
	if d.below(2) == 0 {
		return string("abc"[d.below(3)])
	}
	return strings.Repeat(string("xyz"[d.below(3)]), d.below(17))
}

// wantPlain asks a topic of what the plain one tells, at all its offsets.
func wantPlain(t *testing.T, x api.Topic, p *plain) {
	t.Helper()
	if want := p.topic(); !same(x, want) {
		t.Fatalf("it is %s; want %s", show(x), show(want))
	}
	wantCheck(t, x, api.OK)
	for offset := p.first - 2; offset < p.next()+2; offset++ {
		want, e := p.fetch(offset)
		wantFetch(t, x, offset, want, e)
	}
	for _, offset := range []int{math.MinInt, -1, lastOffset, math.MaxInt} {
		want, e := p.fetch(offset)
		wantFetch(t, x, offset, want, e)
	}
}

// TestP175AndW5RunsAsThePlainModel adds, lets go and compacts, and asks at each step all that there ever was.
func TestP175AndW5RunsAsThePlainModel(t *testing.T) {
	var fulls, ends, gones int
	for run := range 120 {
		d := dice(1750 + run)
		p := plain{first: []int{0, 0, 1, 500, lastOffset - 300, lastOffset - 40}[run%6]}
		p.base, p.mark = p.first, p.first
		if d.below(3) == 0 {
			p.mark = 0
		}
		x := p.topic()
		for range 100 {
			for range d.below(8) {
				id, key, body := d.below(lastId+1), keyOf(&d), text(d.below(65))
				got, offset, e := topic.Add(x, id, key, body)
				want, wantOffset, wantError := added(x, id, key, body)
				if e != wantError || offset != wantOffset || !same(got, want) {
					t.Fatal(run, show(x), id, key, body, offset, e)
				}
				if e == api.OK {
					p.put(id, key, body)
					x = got
				} else if x.Next == lastOffset {
					ends++
				} else {
					fulls++
				}
			}
			switch room := p.next() - p.first + 2; d.below(6) {
			case 0:
				p.compact(p.first + d.below(room))
			case 1:
				p.trim(p.base + d.below(room)/20)
			case 2:
				if len(x.Entries) == most && d.below(4) == 0 {
					p.trim(p.first + d.below(room))
				}
			}
			x = p.topic()
			gones += len(p.all) - len(x.Entries)
		}
		wantPlain(t, x, &p)
	}
	if fulls < 200 || ends < 1000 || gones < 10000 {
		t.Error(fulls, ends, gones)
	}
}

// TestP175AndW5AtEachStep has shorter runs, and asks of all offsets behind each message.
func TestP175AndW5AtEachStep(t *testing.T) {
	for run := range 150 {
		d := dice(17500 + run)
		p := plain{first: []int{0, 3, lastOffset - 20}[run%3]}
		p.base, p.mark = p.first, p.first
		x := p.topic()
		for range 40 {
			switch room := p.next() - p.first + 2; d.below(8) {
			case 0:
				p.compact(p.first + d.below(room))
			case 1:
				p.trim(p.first + d.below(room))
			default:
				id, key := d.below(9), keyOf(&d)
				if got, offset, e := topic.Add(x, id, key, "b"); p.next() < lastOffset {
					if offset != p.next() || e != api.OK {
						t.Fatal(run, offset, e)
					}
					p.put(id, key, "b")
					wantPlain(t, got, &p)
				} else if e != api.ErrFull {
					t.Fatal(run, e)
				}
			}
			x = p.topic()
			wantPlain(t, x, &p)
		}
	}
}

// TestP175NothingIsLetGo adds to New as many as may be: each offset below Next has its entry, all along.
func TestP175NothingIsLetGo(t *testing.T) {
	for run := range 5 {
		d := dice(175000 + run)
		x := topic.New()
		var all []api.Entry
		for i := range most {
			m := api.Entry{Offset: i, Id: d.below(lastId + 1), Key: keyOf(&d), Body: text(d.below(65))}
			got, offset, e := topic.Add(x, m.Id, m.Key, m.Body)
			if e != api.OK || offset != i || got.Next != i+1 || got.Base != 0 || got.Mark != 0 {
				t.Fatal(run, i, show(got), offset, e)
			}
			x, all = got, append(all, m)
			for offset, m := range all {
				wantFetch(t, x, offset, m, api.OK)
			}
			wantFetch(t, x, i+1, api.Entry{}, api.ErrEnd)
		}
		wantRefused(t, x, 0, "", "", api.ErrFull)
	}
}

// TestP175WhatIsAddedChangesNothingElse asks of all offsets at edges, ahead of a message and behind it.
func TestP175WhatIsAddedChangesNothingElse(t *testing.T) {
	for _, x := range someTopics() {
		got, added, e := topic.Add(x, 8, "a", "y")
		if e != api.OK {
			continue
		}
		wantCheck(t, got, api.OK)
		if added != x.Next || got.Next != x.Next+1 || got.Base != x.Base || got.Mark != x.Mark || len(got.Entries) != len(x.Entries)+1 {
			t.Error(show(x), show(got), added)
		}
		for _, offset := range append(asked(x), asked(got)...) {
			before, e := topic.Fetch(x, offset)
			if offset == added {
				if before != (api.Entry{}) || e != api.ErrEnd {
					t.Error(show(x), offset, showEntry(before), e)
				}
				before, e = api.Entry{Offset: added, Id: 8, Key: "a", Body: "y"}, api.OK
			}
			wantFetch(t, got, offset, before, e)
		}
	}
}

// TestP175OffsetsAreNeverUsedAgain lets all go behind each message, or compacts away all that it can: the next one has the next offset all the same.
func TestP175OffsetsAreNeverUsedAgain(t *testing.T) {
	for _, let := range []func(p *plain){
		func(p *plain) { p.trim(p.next()) }, func(p *plain) { p.compact(p.next()) }, func(p *plain) { p.compact(p.next()); p.trim(p.next()) }, func(p *plain) { p.trim(p.next() - 1) }, func(p *plain) { p.compact(p.next() - 1) },
	} {
		p := plain{}
		x := topic.New()
		for i := range 3 * most {
			got, offset, e := topic.Add(x, i, "k", "b")
			if offset != i || e != api.OK {
				t.Fatal(i, offset, e)
			}
			p.put(i, "k", "b")
			if !same(got, p.topic()) {
				t.Fatal(i, show(got), show(p.topic()))
			}
			let(&p)
			x = p.topic()
			wantFetch(t, x, i+1, api.Entry{}, api.ErrEnd)
		}
		wantPlain(t, x, &p)
	}
}

// smallLists are all lists of up to three entries of offsets from -1 to 3, with one of two keys each.
func smallLists() [][]api.Entry {
	l := [][]api.Entry{nil}
	from := 0
	for range 3 {
		till := len(l)
		for _, ahead := range l[from:till] {
			for offset := -1; offset < 4; offset++ {
				for _, key := range []string{"a", "b"} {
					l = append(l, append(slices.Clone(ahead), api.Entry{Offset: offset, Key: key}))
				}
			}
		}
		from = till
	}
	return l
}

// TestP171AndP173AllSmallTopics asks of all of them, those too that may not be.
func TestP171AndP173AllSmallTopics(t *testing.T) {
	lists := smallLists()
	may := 0
	for next := -1; next < 4; next++ {
		for base := -1; base < 5; base++ {
			for mark := -1; mark < 5; mark++ {
				for _, l := range lists {
					x := api.Topic{Base: base, Next: next, Mark: mark, Entries: l}
					if !wantAsWords(t, x) {
						continue
					}
					may++
					for offset := -1; offset < 5; offset++ {
						want, e := fetched(x, offset)
						wantFetch(t, x, offset, want, e)
					}
					got, _, _ := wantAdded(t, x, 8, "a", "y")
					wantCheck(t, got, api.OK)
				}
				if t.Failed() {
					t.Fatal(base, next, mark)
				}
			}
		}
	}
	if len(lists) != 1111 || may < 100 {
		t.Error(len(lists), may)
	}
}

// TestR1WhateverIsHandedIn asks all calls of lists and texts of great lengths, and of numbers at both ends.
func TestR1WhateverIsHandedIn(t *testing.T) {
	numbers := []int{math.MinInt, math.MinInt + 1, -1 << 32, -1, 0, 1, 2, lastId, lastOffset, 1 << 32, math.MaxInt - 1, math.MaxInt}
	many := make([]api.Entry, 1<<20)
	for _, x := range []api.Topic{{Entries: many}, {Next: 1 << 20, Entries: many}, {Next: lastOffset, Mark: lastOffset, Entries: many}, {Next: math.MaxInt, Base: math.MinInt, Mark: math.MinInt, Entries: many}} {
		wantCheck(t, x, api.ErrBad)
		wantRefused(t, x, 0, "", "", api.ErrBad)
		wantFetch(t, x, 0, api.Entry{}, api.ErrBad)
		if twin := topic.Twin(x); !topic.Same(twin, x) || topic.Same(twin, api.Topic{}) {
			t.Error(len(twin.Entries))
		}
	}
	for _, a := range numbers {
		for _, b := range numbers {
			for _, c := range numbers {
				for _, x := range []api.Topic{{Base: a, Next: b, Mark: c}, {Base: a, Next: b, Mark: c, Entries: []api.Entry{{Offset: a}}}, {Base: b, Next: c, Mark: c, Entries: []api.Entry{{Offset: a, Key: "a"}, {Offset: b, Key: "b"}}}, {Next: 1, Entries: []api.Entry{{Offset: a, Id: b}}}} {
					wantAsWords(t, x)
					want, e := fetched(x, c)
					wantFetch(t, x, c, want, e)
					wantAdded(t, x, a, "k", "b")
					if !topic.Same(topic.Twin(x), x) {
						t.Error(show(x))
					}
				}
			}
		}
	}
}

// TestR2CallsKeepNothing asks the same again, behind other calls.
func TestR2CallsKeepNothing(t *testing.T) {
	before := runtime.NumGoroutine()
	for range 3 {
		for _, x := range append(someTopics(), noTopics()...) {
			wantAsWords(t, x)
			wantFetched(t, x)
			wantAdded(t, x, 8, "k", "y")
			wantAdded(t, x, -1, "k", "y")
			if !same(topic.Twin(x), x) || !topic.Same(x, x) || !same(topic.New(), api.Topic{}) {
				t.Error(show(x))
			}
		}
	}
	if now := runtime.NumGoroutine(); now > before {
		t.Error(before, now)
	}
}
