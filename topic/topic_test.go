package topic_test

import (
	"fmt"
	"math"
	"slices"
	"strings"
	"testing"

	"towncrier/api"
	"towncrier/topic"
)

// wantCheck and those below ask for t.Helper only where something is wrong: that takes longer than what is asked.
func wantCheck(t *testing.T, x api.Topic, want api.Errno) {
	if e := topic.Check(x); e != want {
		t.Helper()
		t.Errorf("Check(%s) = %d; want %d", show(x), e, want)
	}
}

// wantAsWords asks Check of what may be or not.
func wantAsWords(t *testing.T, x api.Topic) bool {
	may := mayBe(x)
	if e := topic.Check(x); may && e != api.OK || !may && e != api.ErrBad {
		t.Helper()
		t.Errorf("Check(%s) = %d; it may be: %t", show(x), e, may)
	}
	return may
}

// wantAdd asks what a message makes; beside an error that is to be nothing.
func wantAdd(t *testing.T, x api.Topic, id int, key, body string, want api.Topic, wantOffset int, wantError api.Errno) {
	if got, offset, e := topic.Add(x, id, key, body); e != wantError || offset != wantOffset || !same(got, want) {
		t.Helper()
		t.Errorf("Add(%s, %d, %q, %q) = %s, %d, %d; want %s, %d, %d", show(x), id, brief(key), brief(body), show(got), offset, e, show(want), wantOffset, wantError)
	}
}

func wantRefused(t *testing.T, x api.Topic, id int, key, body string, wantError api.Errno) {
	t.Helper()
	wantAdd(t, x, id, key, body, api.Topic{}, 0, wantError)
}

// wantAdded asks of a message what the words tell, and answers that.
func wantAdded(t *testing.T, x api.Topic, id int, key, body string) (api.Topic, int, api.Errno) {
	t.Helper()
	want, offset, e := added(x, id, key, body)
	wantAdd(t, x, id, key, body, want, offset, e)
	return want, offset, e
}

func wantFetch(t *testing.T, x api.Topic, offset int, want api.Entry, wantError api.Errno) {
	if got, e := topic.Fetch(x, offset); got != want || e != wantError {
		t.Helper()
		t.Errorf("Fetch(%s, %d) = %s, %d; want %s, %d", show(x), offset, showEntry(got), e, showEntry(want), wantError)
	}
}

// wantFetched asks of all offsets at a topic's edges, and of those near its entries, what the words tell.
func wantFetched(t *testing.T, x api.Topic) {
	for _, offset := range asked(x) {
		want, e := fetched(x, offset)
		wantFetch(t, x, offset, want, e)
	}
}

func TestChapterExamples(t *testing.T) {
	x := topic.New()
	first, offset, e := topic.Add(x, 7, "k", "x")
	if offset != 0 || e != api.OK {
		t.Error(offset, e)
	}
	both, offset, e := topic.Add(first, 8, "k", "y")
	if offset != 1 || e != api.OK {
		t.Error(offset, e)
	}
	y := api.Entry{Offset: 1, Id: 8, Key: "k", Body: "y"}
	wantFetch(t, both, 1, y, api.OK)
	wantFetch(t, both, 2, api.Entry{}, api.ErrEnd)
	wantFetch(t, both, -1, api.Entry{}, api.ErrArg)
	wantFetch(t, api.Topic{Base: 1, Next: 2, Entries: []api.Entry{y}}, 0, api.Entry{}, api.ErrTrimmed)
	wantFetch(t, api.Topic{Next: 2, Mark: 2, Entries: []api.Entry{y}}, 0, api.Entry{}, api.ErrGone)
}

// ExampleFetch shows a topic that was let go and compacted: each offset tells what became of its message.
func ExampleFetch() {
	x := topic.New()
	for i, key := range []string{"a", "b", "b", "a"} {
		x, _, _ = topic.Add(x, i, key, "hear ye")
	}
	x.Base, x.Mark, x.Entries = 1, 3, x.Entries[2:]
	for offset := range 5 {
		m, e := topic.Fetch(x, offset)
		fmt.Println(m, int(e))
	}
	// Output:
	// {0 0  } 171
	// {0 0  } 172
	// {2 2 b hear ye} 0
	// {3 3 a hear ye} 0
	// {0 0  } 170
}

// TestTheWordsOnceMore holds the tests' own words against what the chapter says.
func TestTheWordsOnceMore(t *testing.T) {
	for i, x := range someTopics() {
		if !mayBe(x) {
			t.Error(i, show(x))
		}
	}
	for i, x := range noTopics() {
		if mayBe(x) {
			t.Error(i, show(x))
		}
	}
	if lastOffset != api.MaxOffset || lastId != api.MaxNodes*api.MaxNumber-1 || most != api.MaxEntries || longestKey != api.MaxKey || longest != api.MaxBody {
		t.Error("limits")
	}
	if api.ErrEnd != 170 || api.ErrTrimmed != 171 || api.ErrGone != 172 || api.ErrArg != 2 || api.ErrText != 3 || api.ErrBad != 8 || api.ErrFull != 9 {
		t.Error("errors")
	}
	p := plain{}
	for i, key := range []string{"a", "b", "a", "c", "b"} {
		p.put(i, key, "")
	}
	p.compact(4)
	p.trim(2)
	if x := p.topic(); !mayBe(x) || !same(x, api.Topic{Base: 2, Next: 5, Mark: 4, Entries: p.all[2:]}) {
		t.Error(show(x))
	}
	p.compact(9)
	p.trim(1)
	if x := p.topic(); !mayBe(x) || !same(x, api.Topic{Base: 2, Next: 5, Mark: 5, Entries: p.all[2:]}) {
		t.Error(show(x))
	}
}

func TestP171NewIsAllZero(t *testing.T) {
	x := topic.New()
	if x.Base != 0 || x.Next != 0 || x.Mark != 0 || len(x.Entries) != 0 {
		t.Error(show(x))
	}
	wantCheck(t, x, api.OK)
	wantFetch(t, x, 0, api.Entry{}, api.ErrEnd)
	wantFetch(t, x, -1, api.Entry{}, api.ErrArg)
}

func TestP171CheckTellsWhatMayBe(t *testing.T) {
	for _, x := range someTopics() {
		wantCheck(t, x, api.OK)
	}
	for i, x := range noTopics() {
		wantCheck(t, x, api.ErrBad)
		if t.Failed() {
			t.Fatal(i)
		}
	}
}

func TestP171CheckOfNext(t *testing.T) {
	for _, next := range []int{0, 1, 2, 1 << 20, lastOffset - 1, lastOffset} {
		wantCheck(t, api.Topic{Next: next, Base: next, Mark: next}, api.OK)
		wantCheck(t, api.Topic{Next: next, Base: next}, api.OK)
		wantCheck(t, api.Topic{Next: next, Mark: next}, api.OK)
		if next > 0 {
			wantCheck(t, api.Topic{Next: next}, api.ErrBad)
		}
	}
	for _, next := range []int{math.MinInt, -1 << 40, -2, -1, lastOffset + 1, lastOffset + 2, 1 << 32, 1<<32 + 5, 1 << 40, math.MaxInt} {
		wantCheck(t, api.Topic{Next: next, Base: next, Mark: next}, api.ErrBad)
		wantCheck(t, api.Topic{Next: next, Base: next}, api.ErrBad)
		wantCheck(t, api.Topic{Next: next, Mark: next}, api.ErrBad)
		wantCheck(t, api.Topic{Next: next}, api.ErrBad)
		wantCheck(t, api.Topic{Next: next, Entries: []api.Entry{{Offset: next - 1}}}, api.ErrBad)
		wantCheck(t, api.Topic{Next: next, Base: next - 1, Entries: []api.Entry{{Offset: next - 1}}}, api.ErrBad)
	}
}

// TestP171CheckOfBaseAndMark has both at all edges, one above the other and below it, with all entries that then are asked for.
func TestP171CheckOfBaseAndMark(t *testing.T) {
	for _, next := range []int{0, 1, 2, 9, 100, lastOffset - 1, lastOffset} {
		edges := []int{math.MinInt, -1 << 32, -1, 0, 1, 2, next - 2, next - 1, next, next + 1, next + 1<<32, 1 << 40, math.MaxInt}
		for _, base := range edges {
			for _, mark := range edges {
				x := api.Topic{Base: base, Next: next, Mark: mark}
				want := api.OK
				if base < 0 || base > next || mark < 0 || mark > next {
					want = api.ErrBad
				} else if from := max(base, mark); next-from <= most {
					x.Entries = row(from, next-from).Entries
				} else {
					want = api.ErrBad // there are more than may be
				}
				wantCheck(t, x, want)
				if want == api.OK && base < next && mark == next {
					x.Entries = []api.Entry{{Offset: base}}
					wantCheck(t, x, api.OK)
					x.Entries[0].Offset--
					wantCheck(t, x, api.ErrBad)
				}
			}
		}
	}
}

// TestP171CheckOfHowManyThereAre has as many entries as may be, and one more, that are right otherwise.
func TestP171CheckOfHowManyThereAre(t *testing.T) {
	for _, number := range []int{0, 1, 2, most - 1, most, most + 1, most + 2, 2 * most, 1 << 12} {
		want := api.OK
		if number > most {
			want = api.ErrBad
		}
		for _, first := range []int{0, 1, 77, lastOffset - number} {
			x := row(first, number)
			wantCheck(t, x, want)
			for _, mark := range []int{first, x.Next} {
				x.Mark = mark
				wantCheck(t, x, want)
				x.Base = 0
				wantCheck(t, x, want)
				x.Base = first
			}
		}
	}
	// Entries that stand below the mark, with what was left out between them.
	x := api.Topic{Next: lastOffset, Mark: lastOffset}
	for i := range most {
		x.Entries = append(x.Entries, api.Entry{Offset: i * 5000000, Key: row(0, most).Entries[i].Key})
	}
	wantCheck(t, x, api.OK)
	x.Entries = append(x.Entries, api.Entry{Offset: lastOffset - 1, Key: "one more"})
	wantCheck(t, x, api.ErrBad)
	x.Entries = x.Entries[1:]
	wantCheck(t, x, api.OK)
}

// TestP171CheckOfEntries has ids, keys and bodies at their edges, at each place of a topic, above the mark and below it.
func TestP171CheckOfEntries(t *testing.T) {
	for _, mark := range []int{0, 5, most} {
		for at := range most {
			x := row(0, most)
			x.Mark = mark
			one := &x.Entries[at]
			was := *one
			for _, id := range []int{0, 1, 1 << 20, lastId - 1, lastId} {
				one.Id = id
				wantCheck(t, x, api.OK)
			}
			for _, id := range []int{math.MinInt, -lastId, -1, lastId + 1, lastId + 2, 1 << 32, 1<<32 + 5, math.MaxInt} {
				one.Id = id
				wantCheck(t, x, api.ErrBad)
			}
			*one = was
			for n, want := range map[int]api.Errno{0: api.OK, 1: api.OK, 15: api.OK, 16: api.OK, 17: api.ErrBad, 18: api.ErrBad, 64: api.ErrBad, 65: api.ErrBad, 1 << 16: api.ErrBad} {
				one.Key = text(n)
				wantCheck(t, x, want)
			}
			*one = was
			for n, want := range map[int]api.Errno{0: api.OK, 1: api.OK, 16: api.OK, 17: api.OK, 63: api.OK, 64: api.OK, 65: api.ErrBad, 66: api.ErrBad, 1 << 16: api.ErrBad} {
				one.Body = text(n)
				wantCheck(t, x, want)
			}
			*one = was
			one.Key, one.Body = strings.Repeat("é", 8), strings.Repeat("é", 32)
			wantCheck(t, x, api.OK)
			one.Body += "e"
			wantCheck(t, x, api.ErrBad)
			one.Key, one.Body = strings.Repeat("é", 8)+"e", ""
			wantCheck(t, x, api.ErrBad)
		}
	}
	// All that one id has may be there twice: only keys below the mark are asked for.
	x := fill(most, text(16), text(64))
	for i := range x.Entries {
		x.Entries[i].Id = 7
	}
	wantCheck(t, x, api.OK)
	x.Mark = 1
	wantCheck(t, x, api.OK)
	x.Mark = 2
	wantCheck(t, x, api.ErrBad)
}

// TestP171CheckOfOffsets has offsets that fall, are the same, are below the base, or at the end and beyond, at each place.
func TestP171CheckOfOffsets(t *testing.T) {
	for _, number := range []int{1, 2, 7, most} {
		for _, first := range []int{0, 3, lastOffset - number} {
			for _, mark := range []int{0, first, first + number/2, first + number} {
				good := row(first, number)
				good.Mark = mark
				wantCheck(t, good, api.OK)
				for at := range number {
					x := deepCopy(good)
					own := x.Entries[at].Offset
					for _, offset := range []int{math.MinInt, -1, first - 1, first + number, first + number + 1, own + 1<<32, own - 1<<32, math.MaxInt, first, own - 1, own + 1, first + number - 1} {
						if offset == own {
							continue
						}
						x.Entries[at].Offset = offset
						wantCheck(t, x, api.ErrBad)
					}
					if x = deepCopy(good); at > 0 {
						x.Entries[at-1], x.Entries[at] = x.Entries[at], x.Entries[at-1]
						wantCheck(t, x, api.ErrBad)
						x = deepCopy(good)
						x.Entries[0], x.Entries[at] = x.Entries[at], x.Entries[0]
						wantCheck(t, x, api.ErrBad)
					}
				}
			}
		}
	}
}

// TestP171CheckOfOffsetsBelowTheMark moves entries where all else below the mark is gone.
func TestP171CheckOfOffsetsBelowTheMark(t *testing.T) {
	for base := range 9 {
		for a := -1; a <= 9; a++ {
			for b := -1; b <= 9; b++ {
				x := api.Topic{Base: base, Next: 8, Mark: 8, Entries: []api.Entry{{Offset: a, Key: "a"}, {Offset: b, Key: "b"}}}
				want := api.ErrBad
				if base <= a && a < b && b < 8 {
					want = api.OK
				}
				wantCheck(t, x, want)
			}
		}
	}
}

// TestP171CheckOfNumbersLeftOut leaves one number out: below the mark that may be, from it on not.
func TestP171CheckOfNumbersLeftOut(t *testing.T) {
	for _, first := range []int{0, 5, lastOffset - most, lastOffset - 9} {
		number := min(most, lastOffset-first)
		for _, mark := range []int{0, first, first + 1, first + 2, first + number/2, first + number - 2, first + number - 1, first + number} {
			good := row(first, number)
			good.Mark = mark
			for left := range number {
				want := api.OK
				if first+left >= mark {
					want = api.ErrBad
				}
				wantCheck(t, without(good, first+left), want)
			}
			// Below the mark all may be left out; two from it on, the first ones and the last ones, not.
			x := deepCopy(good)
			x.Entries = x.Entries[max(mark-first, 0):]
			wantCheck(t, x, api.OK)
			if len(x.Entries) > 0 {
				wantCheck(t, api.Topic{Base: x.Base, Next: x.Next, Mark: x.Mark, Entries: x.Entries[1:]}, api.ErrBad)
				wantCheck(t, api.Topic{Base: x.Base, Next: x.Next, Mark: x.Mark, Entries: x.Entries[:len(x.Entries)-1]}, api.ErrBad)
				x.Mark++
				wantCheck(t, x, api.OK)
			}
		}
	}
}

// TestP171CheckOfBaseAboveTheMark lets no number be left out from the base on, whatever the mark, and asks for none below it.
func TestP171CheckOfBaseAboveTheMark(t *testing.T) {
	for base := range 10 {
		for mark := range 10 {
			for left := range 9 {
				x := api.Topic{Base: base, Next: 9, Mark: mark, Entries: row(base, 9-base).Entries}
				wantCheck(t, x, api.OK)
				if left < base {
					x.Entries = slices.Concat([]api.Entry{{Offset: left, Key: "let go"}}, x.Entries)
					wantCheck(t, x, api.ErrBad)
				} else if x = without(x, left); left >= mark {
					wantCheck(t, x, api.ErrBad)
				} else {
					wantCheck(t, x, api.OK)
				}
			}
		}
	}
}

// TestP171CheckOfKeys gives one key to each two entries: one of them at least is to be at the mark or above.
func TestP171CheckOfKeys(t *testing.T) {
	for _, key := range []string{"", "k", text(16), "\x00", "sixteen bytes \x00\xff"} {
		for _, base := range []int{0, 3} {
			for mark := range base + 10 {
				for k := range 9 {
					for i := range k {
						x := row(base, 9)
						x.Mark = mark
						x.Entries[i].Key, x.Entries[k].Key = key, key
						want := api.OK
						if base+k < mark {
							want = api.ErrBad
						}
						wantCheck(t, x, want)
						if base+i > base && mark > base+i-1 {
							wantCheck(t, without(x, base+i-1), want)
						}
					}
				}
			}
		}
	}
	// Keys are one, if all their bytes are.
	for _, two := range [][2]string{{"", "\x00"}, {"k", "K"}, {"k", "k "}, {"k", "kk"}, {text(15), text(16)}, {"\xff", "\xfe"}, {"é", "e\u0301"}, {text(15) + "a", text(15) + "b"}} {
		x := row(0, 2)
		x.Mark = 2
		x.Entries[0].Key, x.Entries[1].Key = two[0], two[1]
		wantCheck(t, x, api.OK)
		x.Entries[1].Key = strings.Clone(two[0])
		wantCheck(t, x, api.ErrBad)
	}
}

// TestP171CheckOfKeysInLongTopics gives one key to two entries that stand far apart, and next to one another.
func TestP171CheckOfKeysInLongTopics(t *testing.T) {
	for _, apart := range []int{1, 2, 99, most - 1} {
		for i := range most - apart {
			x := row(9, most)
			x.Entries[i+apart].Key = x.Entries[i].Key
			for _, mark := range []int{0, 9 + i, 9 + i + apart, 9 + i + apart + 1, 9 + most} {
				x.Mark = mark
				want := api.OK
				if mark > 9+i+apart {
					want = api.ErrBad
				}
				wantCheck(t, x, want)
			}
		}
	}
}

// changes are what can be changed of theTopic, one field each.
func changes() []func(x *api.Topic) {
	l := []func(x *api.Topic){
		func(x *api.Topic) { x.Base++ },
		func(x *api.Topic) { x.Base = -1 },
		func(x *api.Topic) { x.Base += 1 << 32 },
		func(x *api.Topic) { x.Next++ },
		func(x *api.Topic) { x.Next = math.MinInt },
		func(x *api.Topic) { x.Next += 1 << 32 },
		func(x *api.Topic) { x.Mark-- },
		func(x *api.Topic) { x.Mark = math.MaxInt },
		func(x *api.Topic) { x.Mark += 1 << 32 },
		func(x *api.Topic) { x.Entries = x.Entries[:5] },
		func(x *api.Topic) { x.Entries = x.Entries[1:] },
		func(x *api.Topic) { x.Entries = nil },
		func(x *api.Topic) { x.Entries = append(x.Entries, api.Entry{}) },
		func(x *api.Topic) { x.Entries = append(x.Entries, x.Entries[5]) },
		func(x *api.Topic) { x.Entries[0], x.Entries[1] = x.Entries[1], x.Entries[0] },
		func(x *api.Topic) { x.Entries[4], x.Entries[5] = x.Entries[5], x.Entries[4] },
	}
	for i := range 6 {
		l = append(l,
			func(x *api.Topic) { x.Entries[i].Offset += 100 },
			func(x *api.Topic) { x.Entries[i].Offset = -1 },
			func(x *api.Topic) { x.Entries[i].Offset += 1 << 32 },
			func(x *api.Topic) { x.Entries[i].Id++ },
			func(x *api.Topic) { x.Entries[i].Id += 1 << 32 },
			func(x *api.Topic) { x.Entries[i].Key += "\x00" },
			func(x *api.Topic) { x.Entries[i].Key = strings.ToUpper(x.Entries[i].Key) + "K" },
			func(x *api.Topic) { x.Entries[i].Body += "\x00" },
			func(x *api.Topic) { x.Entries[i].Body = strings.ToUpper(x.Entries[i].Body) + "B" },
			func(x *api.Topic) { x.Entries[i].Key, x.Entries[i].Body = x.Entries[i].Body, x.Entries[i].Key+"!" },
		)
	}
	return l
}

// TestP171SameAsksAllFields changes one thing of a topic, or two others of two, so that such that may not be are asked too.
func TestP171SameAsksAllFields(t *testing.T) {
	all := changes()
	for i, turn := range all {
		a := turned(theTopic(), turn)
		if topic.Same(theTopic(), a) || topic.Same(a, theTopic()) || !topic.Same(a, a) || !topic.Same(a, deepCopy(a)) || !topic.Same(deepCopy(a), a) {
			t.Error(i, show(a))
		}
		for k, other := range all {
			b := turned(theTopic(), other)
			if got := topic.Same(a, b); got != (i == k) {
				t.Error(i, k, got)
			}
		}
	}
}

func TestP171SameOfAnyOnes(t *testing.T) {
	all := append(someTopics(), noTopics()...)
	for _, a := range all {
		for _, b := range all {
			if got := topic.Same(a, b); got != same(a, b) {
				t.Errorf("Same(%s, %s) = %t", show(a), show(b), got)
			}
		}
	}
	empty := api.Topic{Entries: []api.Entry{}}
	if !topic.Same(empty, api.Topic{}) || !topic.Same(api.Topic{}, empty) || !topic.Same(empty, topic.New()) {
		t.Error("a list without elements is nil or not")
	}
	if zero := (api.Topic{Entries: []api.Entry{{}}}); topic.Same(zero, api.Topic{}) || topic.Same(api.Topic{}, zero) {
		t.Error("an entry that is all zero is one")
	}
}

// TestP171SameAtEachPlace changes a field of one entry among many.
func TestP171SameAtEachPlace(t *testing.T) {
	long := row(3, most)
	for at := range most {
		for k, turn := range []func(e *api.Entry){
			func(e *api.Entry) { e.Offset++ }, func(e *api.Entry) { e.Id++ }, func(e *api.Entry) { e.Key += "!" }, func(e *api.Entry) { e.Body += "!" },
		} {
			x := deepCopy(long)
			turn(&x.Entries[at])
			if topic.Same(long, x) || topic.Same(x, long) {
				t.Error(at, k)
			}
		}
		if x := without(long, 3+at); topic.Same(long, x) || topic.Same(x, long) {
			t.Error(at)
		}
	}
}

func TestP171TwinOfAnyOnes(t *testing.T) {
	for _, x := range append(someTopics(), noTopics()...) {
		before := deepCopy(x)
		got := topic.Twin(x)
		if !same(got, x) || !same(x, before) || !topic.Same(got, x) {
			t.Errorf("Twin(%s) = %s", show(before), show(got))
		}
	}
	for i, turn := range changes() {
		if x := turned(theTopic(), turn); !same(topic.Twin(x), x) {
			t.Error(i, show(x))
		}
	}
}

// TestP172AddToSomeTopics has messages at all edges, those too that may not be.
func TestP172AddToSomeTopics(t *testing.T) {
	for _, x := range append(someTopics(), noTopics()...) {
		for _, id := range []int{-1, 0, 1, lastId, lastId + 1} {
			for _, key := range []string{"", "a", "c", text(16), text(17)} {
				for _, body := range []string{"", "ye", text(64), text(65)} {
					wantAdded(t, x, id, key, body)
				}
			}
		}
	}
}

// TestP172AddPutsBehindAll tells all fields of what is answered.
func TestP172AddPutsBehindAll(t *testing.T) {
	x := theTopic()
	want := turned(x, func(x *api.Topic) {
		x.Next = 10
		x.Entries = append(x.Entries, api.Entry{Offset: 9, Id: 5, Key: "c", Body: "hear ye"})
	})
	wantAdd(t, x, 5, "c", "hear ye", want, 9, api.OK)
	wantAdd(t, topic.New(), 0, "", "", api.Topic{Next: 1, Entries: []api.Entry{{}}}, 0, api.OK)
	wantAdd(t, api.Topic{Next: 5, Base: 5, Mark: 5}, 3, "k", "b", api.Topic{Next: 6, Base: 5, Mark: 5, Entries: []api.Entry{{Offset: 5, Id: 3, Key: "k", Body: "b"}}}, 5, api.OK)
	// A key that is there below the mark, and an id that is there, may come again.
	wantAdd(t, api.Topic{Next: 2, Mark: 2, Entries: []api.Entry{{Offset: 0, Id: 3, Key: "k"}}}, 3, "k", "", api.Topic{Next: 3, Mark: 2, Entries: []api.Entry{{Offset: 0, Id: 3, Key: "k"}, {Offset: 2, Id: 3, Key: "k"}}}, 2, api.OK)
}

func TestP172AddAtTheEdgesOfIds(t *testing.T) {
	for _, x := range []api.Topic{{}, theTopic(), row(0, most-1)} {
		for _, id := range []int{0, 1, 1<<20 - 1, 1 << 20, 5 << 20, lastId - 1, lastId} {
			if got, offset, e := wantAdded(t, x, id, "k", "b"); e != api.OK || got.Entries[len(got.Entries)-1] != (api.Entry{Offset: offset, Id: id, Key: "k", Body: "b"}) {
				t.Error(id, e)
			}
		}
		for _, id := range []int{math.MinInt, -lastId, -1 << 20, -2, -1, lastId + 1, lastId + 2, 7 << 20, 1 << 32, 1<<32 + 5, 1 << 40, math.MaxInt} {
			wantRefused(t, x, id, "k", "b", api.ErrArg)
		}
	}
}

func TestP172AddAtTheEdgesOfTexts(t *testing.T) {
	for _, x := range []api.Topic{{}, theTopic(), row(0, most-1)} {
		for key := range 20 {
			for _, body := range []int{0, 1, 16, 17, 63, 64, 65, 66, 100} {
				_, _, e := wantAdded(t, x, 3, text(key), text(body))
				if fits := key <= 16 && body <= 64; fits != (e == api.OK) || !fits && e != api.ErrText {
					t.Error(key, body, e)
				}
			}
		}
		wantRefused(t, x, 3, text(1<<20), "", api.ErrText)
		wantRefused(t, x, 3, "", text(1<<20), api.ErrText)
		// Bytes count, not runes; any bytes may be.
		wantRefused(t, x, 3, strings.Repeat("é", 9), "", api.ErrText)
		wantRefused(t, x, 3, "", strings.Repeat("é", 33), api.ErrText)
		for _, s := range []string{strings.Repeat("é", 8), strings.Repeat("\x00", 16), strings.Repeat("\xff", 16), "a\nb \x80"} {
			if _, _, e := wantAdded(t, x, 3, s, s+s+s+s); e != api.OK {
				t.Errorf("%q: %d", s, e)
			}
		}
	}
}

// TestP172AddToWhatIsFull has topics with as many entries as may be, and such whose offsets are at the end, or both, and one less of each.
func TestP172AddToWhatIsFull(t *testing.T) {
	sparse := api.Topic{Next: lastOffset - 1, Mark: lastOffset - 1, Entries: row(0, most).Entries}
	for i := range most {
		sparse.Entries[i].Offset *= 1000
	}
	for i, x := range []api.Topic{
		row(0, most), row(9, most), row(lastOffset-most-1, most), row(lastOffset-most, most), row(lastOffset-5, 5), {Next: lastOffset, Base: lastOffset}, {Next: lastOffset, Mark: lastOffset}, {Next: lastOffset, Mark: lastOffset, Base: lastOffset},
		row(lastOffset-most+1, most-1), sparse, turned(sparse, func(x *api.Topic) { x.Next, x.Mark = lastOffset, lastOffset }),
	} {
		wantCheck(t, x, api.OK)
		wantRefused(t, x, 3, "k", "b", api.ErrFull)
		wantRefused(t, x, 0, "", "", api.ErrFull)
		if t.Failed() {
			t.Fatal(i)
		}
	}
	for _, x := range []api.Topic{
		row(0, most-1), row(9, most-1), row(lastOffset-most, most-1), row(lastOffset-5, 4), {Next: lastOffset - 1, Base: lastOffset - 1}, {Next: lastOffset - 1, Mark: lastOffset - 1}, without(sparse, 0), without(sparse, 199000), {Next: most, Base: most}, {Next: most + 1, Mark: most + 1}, {Next: 10 * most, Base: most, Mark: 10 * most},
	} {
		got, offset, e := wantAdded(t, x, 3, "k", "b")
		if e != api.OK || offset != x.Next || got.Next != x.Next+1 {
			t.Error(show(x), offset, e)
		}
		wantCheck(t, got, api.OK)
	}
}

// TestP172UpToTheEnd adds till a topic is full by its entries, and by its offsets.
func TestP172UpToTheEnd(t *testing.T) {
	for _, c := range []struct{ first, room int }{{0, most}, {1, most}, {lastOffset - most - 1, most}, {lastOffset - most, most}, {lastOffset - most + 1, most - 1}, {lastOffset - 3, 3}, {lastOffset - 1, 1}, {lastOffset, 0}} {
		x := api.Topic{Base: c.first, Next: c.first, Mark: c.first}
		for i := range c.room {
			got, offset, e := topic.Add(x, i, "k", "b")
			if e != api.OK || offset != c.first+i {
				t.Fatal(c, i, offset, e)
			}
			x = got
		}
		wantRefused(t, x, 0, "", "", api.ErrFull)
		wantCheck(t, x, api.OK)
	}
}

// TestP172ErrorsInOrder has everything wrong at once, and then one thing less each time.
func TestP172ErrorsInOrder(t *testing.T) {
	ids, keys, bodies := []int{-1, lastId + 1, math.MinInt, math.MaxInt}, []string{text(17), text(1 << 12)}, []string{text(65), text(1 << 12)}
	full := []api.Topic{row(0, most), row(lastOffset-most, most), {Next: lastOffset, Base: lastOffset}}
	for _, x := range noTopics() {
		for _, id := range append(ids, 0, lastId) {
			for _, key := range append(keys, "", "k") {
				for _, body := range append(bodies, "", "b") {
					wantRefused(t, x, id, key, body, api.ErrBad)
				}
			}
		}
	}
	for _, x := range append(full, api.Topic{}, theTopic()) {
		for _, id := range ids {
			for _, key := range append(keys, "", "k") {
				for _, body := range append(bodies, "", "b") {
					wantRefused(t, x, id, key, body, api.ErrArg)
				}
			}
		}
		for i, key := range keys {
			wantRefused(t, x, 0, key, "b", api.ErrText)
			wantRefused(t, x, lastId, "k", bodies[i], api.ErrText)
			wantRefused(t, x, 5, key, bodies[i], api.ErrText)
		}
	}
	for _, x := range full {
		wantRefused(t, x, 0, "", "", api.ErrFull)
		wantRefused(t, x, lastId, text(16), text(64), api.ErrFull)
	}
}

// TestP173FetchOfSomeTopics asks at all edges, those too of topics that may not be.
func TestP173FetchOfSomeTopics(t *testing.T) {
	for _, x := range append(someTopics(), noTopics()...) {
		wantFetched(t, x)
	}
}

// TestP173FetchAtEachOffset tells of each offset what became of it.
func TestP173FetchAtEachOffset(t *testing.T) {
	x := theTopic()
	none := api.Entry{}
	for _, c := range []struct {
		offset int
		want   api.Entry
		e      api.Errno
	}{
		{math.MinInt, none, api.ErrArg}, {-1 << 32, none, api.ErrArg}, {-2, none, api.ErrArg}, {-1, none, api.ErrArg},
		{0, none, api.ErrTrimmed}, {1, none, api.ErrTrimmed},
		{2, x.Entries[0], api.OK}, {3, x.Entries[1], api.OK}, {4, none, api.ErrGone}, {5, x.Entries[2], api.OK}, {6, x.Entries[3], api.OK}, {7, x.Entries[4], api.OK}, {8, x.Entries[5], api.OK},
		{9, none, api.ErrEnd}, {10, none, api.ErrEnd}, {lastOffset, none, api.ErrEnd}, {lastOffset + 1, none, api.ErrEnd}, {1<<32 + 2, none, api.ErrEnd}, {math.MaxInt, none, api.ErrEnd},
	} {
		wantFetch(t, x, c.offset, c.want, c.e)
	}
}

// TestP173FetchInLongTopics asks of all offsets, with one of them gone below the mark, or some let go.
func TestP173FetchInLongTopics(t *testing.T) {
	for _, first := range []int{0, 7, lastOffset - most} {
		good := row(first, most)
		good.Mark = first + most
		for _, gone := range []int{-1, 0, 1, 99, most - 2, most - 1} {
			x := without(good, first+gone)
			for at := range most {
				if at == gone {
					wantFetch(t, x, first+at, api.Entry{}, api.ErrGone)
				} else {
					wantFetch(t, x, first+at, good.Entries[at], api.OK)
				}
			}
			wantFetched(t, x)
		}
		for _, base := range []int{1, 2, 99, most - 1, most} {
			x := deepCopy(good)
			x.Base, x.Entries = first+base, x.Entries[base:]
			for at := range most {
				if at < base {
					wantFetch(t, x, first+at, api.Entry{}, api.ErrTrimmed)
				} else {
					wantFetch(t, x, first+at, good.Entries[at], api.OK)
				}
			}
			wantFetched(t, x)
		}
	}
}

// TestP173FetchWhereAllWasLetGo has topics without entries: what is below the base was let go, be it below the mark or not; what is below the mark alone is gone.
func TestP173FetchWhereAllWasLetGo(t *testing.T) {
	for _, next := range []int{0, 1, 5, lastOffset} {
		for _, base := range []int{0, next / 2, next - 1, next} {
			if base < 0 {
				continue
			}
			x := api.Topic{Base: base, Next: next, Mark: next}
			for _, offset := range asked(x) {
				want := api.ErrGone
				switch {
				case offset < 0:
					want = api.ErrArg
				case offset >= next:
					want = api.ErrEnd
				case offset < base:
					want = api.ErrTrimmed
				}
				wantFetch(t, x, offset, api.Entry{}, want)
			}
		}
		x := api.Topic{Base: next, Next: next}
		for _, offset := range []int{0, next - 1} {
			if offset >= 0 && offset < next {
				wantFetch(t, x, offset, api.Entry{}, api.ErrTrimmed)
			}
		}
	}
}

// TestP173ErrorsInOrder has a topic that may not be and an offset that may not be, then that alone; an offset below 0 is below all bases, too.
func TestP173ErrorsInOrder(t *testing.T) {
	for _, x := range noTopics() {
		for _, offset := range []int{math.MinInt, -1, 0, 1, 2, 3, 7, 8, lastOffset, math.MaxInt} {
			wantFetch(t, x, offset, api.Entry{}, api.ErrBad)
		}
	}
	for _, x := range someTopics() {
		wantFetch(t, x, -1, api.Entry{}, api.ErrArg)
		wantFetch(t, x, math.MinInt, api.Entry{}, api.ErrArg)
		wantFetch(t, x, x.Next, api.Entry{}, api.ErrEnd)
		if x.Base > 0 {
			wantFetch(t, x, x.Base-1, api.Entry{}, api.ErrTrimmed)
			wantFetch(t, x, 0, api.Entry{}, api.ErrTrimmed)
		}
	}
}
