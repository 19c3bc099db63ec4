package topic_test

import (
	"fmt"
	"math"
	"slices"
	"strconv"
	"strings"

	"towncrier/api"
)

// The chapter's words, once more: nothing here asks the package.

const (
	lastOffset = 1073741824 // MaxOffset, as it stands in the chapter
	lastId     = 6291455    // 6 * 2^20 - 1
	most       = 200        // MaxEntries
	longestKey = 16
	longest    = 64 // of a body
)

func isEntry(e api.Entry) bool {
	return e.Id >= 0 && e.Id <= lastId && len(e.Key) <= longestKey && len(e.Body) <= longest
}

// mayBe tells whether a topic may be. It goes down from the end: so it ends at the first number that is left out.
func mayBe(t api.Topic) bool {
	if t.Next < 0 || t.Next > lastOffset || t.Base < 0 || t.Base > t.Next || t.Mark < 0 || t.Mark > t.Next || len(t.Entries) > most {
		return false
	}
	there, keys := map[int]bool{}, map[string]bool{}
	for i, e := range t.Entries {
		if !isEntry(e) || e.Offset < t.Base || e.Offset > t.Next-1 || i > 0 && e.Offset <= t.Entries[i-1].Offset {
			return false
		}
		there[e.Offset] = true
		if e.Offset < t.Mark && keys[e.Key] {
			return false
		} else if e.Offset < t.Mark {
			keys[e.Key] = true
		}
	}
	for n := t.Next - 1; n >= t.Base && n >= t.Mark; n-- {
		if !there[n] {
			return false
		}
	}
	return true
}

// fetched tells what there is at an offset.
func fetched(t api.Topic, offset int) (api.Entry, api.Errno) {
	if !mayBe(t) {
		return api.Entry{}, api.ErrBad
	}
	for _, e := range t.Entries {
		if e.Offset == offset {
			return e, api.OK
		}
	}
	if offset < 0 {
		return api.Entry{}, api.ErrArg
	} else if t.Next <= offset {
		return api.Entry{}, api.ErrEnd
	} else if t.Base > offset {
		return api.Entry{}, api.ErrTrimmed
	}
	return api.Entry{}, api.ErrGone
}

// added tells what a message makes.
func added(t api.Topic, id int, key, body string) (api.Topic, int, api.Errno) {
	m := api.Entry{Offset: t.Next, Id: id, Key: key, Body: body}
	if !mayBe(t) {
		return api.Topic{}, 0, api.ErrBad
	} else if id < 0 || id > lastId {
		return api.Topic{}, 0, api.ErrArg
	} else if !isEntry(m) {
		return api.Topic{}, 0, api.ErrText
	} else if t.Next == lastOffset || len(t.Entries) >= most {
		return api.Topic{}, 0, api.ErrFull
	}
	return api.Topic{Base: t.Base, Next: t.Next + 1, Mark: t.Mark, Entries: slices.Concat(t.Entries, []api.Entry{m})}, t.Next, api.OK
}

func same(a, b api.Topic) bool {
	if len(a.Entries) != len(b.Entries) || [3]int{a.Base, a.Next, a.Mark} != [3]int{b.Base, b.Next, b.Mark} {
		return false
	}
	for i := range a.Entries {
		if a.Entries[i] != b.Entries[i] {
			return false
		}
	}
	return true
}

func deepCopy(t api.Topic) api.Topic {
	return api.Topic{Base: t.Base, Next: t.Next, Mark: t.Mark, Entries: append([]api.Entry{}, t.Entries...)}
}

// turned is a copy of a topic with something changed.
func turned(t api.Topic, turn func(t *api.Topic)) api.Topic {
	t = deepCopy(t)
	turn(&t)
	return t
}

// plain is a topic as it is to be: all that was ever put to it, from its first offset on, and how far it was let go and compacted.
type plain struct {
	first, base, mark int
	all               []api.Entry
}

func (p *plain) next() int { return p.first + len(p.all) }

func (p *plain) put(id int, key, body string) {
	p.all = append(p.all, api.Entry{Offset: p.next(), Id: id, Key: key, Body: body})
}

func (p *plain) trim(to int)    { p.base = min(max(p.base, to), p.next()) }
func (p *plain) compact(to int) { p.mark = min(max(p.mark, to), p.next()) }

// isKept goes by the rules alone: an entry goes that is below the base, and one below the mark whose key had another one later there.
func (p *plain) isKept(e api.Entry) bool {
	if e.Offset < p.base {
		return false
	}
	for _, later := range p.all {
		if later.Key == e.Key && later.Offset > e.Offset && later.Offset < p.mark {
			return false
		}
	}
	return true
}

func (p *plain) kept() (l []api.Entry) {
	for _, e := range p.all {
		if p.isKept(e) {
			l = append(l, e)
		}
	}
	return l
}

func (p *plain) topic() api.Topic {
	return api.Topic{Base: p.base, Next: p.next(), Mark: p.mark, Entries: p.kept()}
}

func (p *plain) fetch(offset int) (api.Entry, api.Errno) {
	switch {
	case offset < 0:
		return api.Entry{}, api.ErrArg
	case offset >= p.next():
		return api.Entry{}, api.ErrEnd
	case offset < p.base:
		return api.Entry{}, api.ErrTrimmed
	case !p.isKept(p.all[offset-p.first]):
		return api.Entry{}, api.ErrGone
	}
	return p.all[offset-p.first], api.OK
}

// text has so many bytes.
func text(n int) string { return strings.Repeat("k", n) }

// row is a topic whose offsets from the first one on have entries, each with a key of its own.
func row(first, number int) api.Topic {
	t := api.Topic{Base: first, Next: first + number}
	for i := range number {
		t.Entries = append(t.Entries, api.Entry{Offset: first + i, Id: i * 31, Key: "k" + strconv.Itoa(i), Body: "body " + strconv.Itoa(i)})
	}
	return t
}

// fill is a topic with entries of one key and one body.
func fill(number int, key, body string) api.Topic {
	t := row(0, number)
	for i := range t.Entries {
		t.Entries[i].Key, t.Entries[i].Body = key, body
	}
	return t
}

// without is a topic in which an offset has no entry.
func without(t api.Topic, offset int) api.Topic {
	return turned(t, func(t *api.Topic) {
		t.Entries = slices.DeleteFunc(t.Entries, func(e api.Entry) bool { return e.Offset == offset })
	})
}

// theTopic was let go to 2 and compacted below 6: 4 is gone.
func theTopic() api.Topic {
	return api.Topic{Base: 2, Next: 9, Mark: 6, Entries: []api.Entry{
		{Offset: 2, Id: 12, Key: "a", Body: "hear"}, {Offset: 3, Id: 3, Key: "b"}, {Offset: 5, Id: 12, Key: "c", Body: "ye"},
		{Offset: 6, Id: lastId, Key: "a", Body: "hear"}, {Offset: 7, Key: "a"}, {Offset: 8, Id: 1 << 20, Body: "oyez"},
	}}
}

// someTopics may be: with none, one and as many entries as may be, at both ends of the offsets, let go and compacted.
func someTopics() []api.Topic {
	l := []api.Topic{
		{}, {Entries: []api.Entry{}}, theTopic(), row(0, 1), row(0, 3), row(7, 5), row(0, most-1), row(0, most), row(5, most), row(lastOffset-1, 1), row(lastOffset-most, most), row(lastOffset-2, 1), row(lastOffset-most, most-1), row(lastOffset-3, 2),
		fill(most, "", ""), fill(most-1, text(16), text(64)), fill(5, "k", "b"),
		{Next: 5, Base: 5}, {Next: 5, Mark: 5}, {Next: 5, Base: 5, Mark: 5}, {Next: 5, Base: 3, Mark: 5}, {Next: 5, Base: 5, Mark: 3}, {Next: lastOffset, Base: lastOffset}, {Next: lastOffset, Mark: lastOffset}, {Next: lastOffset, Base: lastOffset, Mark: 3}, {Next: lastOffset - 1, Mark: lastOffset - 1},
		{Next: 2, Mark: 2, Entries: []api.Entry{{Offset: 1, Id: 8, Key: "k", Body: "y"}}},
		{Next: lastOffset, Mark: lastOffset, Entries: []api.Entry{{Offset: 0, Key: "a"}, {Offset: 1 << 20, Key: "b"}, {Offset: lastOffset - 1, Key: "c"}}},
		{Next: 9, Mark: 8, Entries: []api.Entry{{Offset: 8}}}, {Next: 9, Mark: 8, Entries: []api.Entry{{Offset: 0}, {Offset: 8}}},
		{Next: 3, Base: 2, Mark: 1, Entries: []api.Entry{{Offset: 2, Id: lastId, Key: "sixteen bytes \x00\xff", Body: strings.Repeat("é", 32)}}},
	}
	for _, mark := range []int{1, 100, most - 1, most} {
		t := row(0, most)
		t.Mark = mark
		l = append(l, t, without(t, 0), without(t, mark-1))
	}
	return l
}

// noTopics may not be, for one reason each.
func noTopics() []api.Topic {
	l := []api.Topic{
		{Next: -1}, {Next: -1, Base: -1, Mark: -1}, {Next: lastOffset + 1, Base: lastOffset + 1, Mark: lastOffset + 1}, {Next: lastOffset + 1, Mark: lastOffset + 1}, {Base: -1}, {Mark: -1}, {Base: 1}, {Mark: 1}, {Next: 5, Base: 6}, {Next: 5, Base: 5, Mark: 6}, {Next: 5, Base: 5, Mark: -1}, {Next: 5, Base: -1, Mark: 5},
		{Next: 1}, {Next: 5, Base: 4}, {Next: 5, Mark: 4}, {Next: lastOffset, Base: 3, Mark: lastOffset - 1}, {Next: lastOffset}, {Entries: []api.Entry{{}}}, {Entries: []api.Entry{{Offset: -1}}},
		{Next: math.MinInt}, {Next: math.MaxInt}, {Next: 1 << 32, Base: 1 << 32}, {Next: 5, Base: math.MaxInt, Mark: 5}, {Next: 5, Base: math.MinInt, Mark: 5}, {Next: 5, Base: 5, Mark: math.MinInt}, {Next: 5, Base: 5, Mark: math.MaxInt},
		row(0, most+1), row(lastOffset-most-1, most+1), row(lastOffset, 1), row(-1, 2), fill(3, text(17), ""), fill(3, "", text(65)),
	}
	for _, turn := range []func(t *api.Topic){
		func(t *api.Topic) { t.Next = 8 }, func(t *api.Topic) { t.Next = 10 }, func(t *api.Topic) { t.Base = 3 }, func(t *api.Topic) { t.Mark = 4; t.Base = 0 }, func(t *api.Topic) { t.Mark = 7 },
		func(t *api.Topic) { t.Entries[0].Offset = 1 }, func(t *api.Topic) { t.Entries[1].Offset = 2 }, func(t *api.Topic) { t.Entries[2].Offset = 6 }, func(t *api.Topic) { t.Entries[5].Offset = 9 },
		func(t *api.Topic) { t.Entries[0], t.Entries[1] = t.Entries[1], t.Entries[0] }, func(t *api.Topic) { t.Entries[4], t.Entries[5] = t.Entries[5], t.Entries[4] }, func(t *api.Topic) { t.Entries = t.Entries[:5] }, func(t *api.Topic) { t.Entries = nil },
		func(t *api.Topic) { t.Entries[2].Key = "a" }, func(t *api.Topic) { t.Entries[1].Key = "c" }, func(t *api.Topic) { t.Entries[0].Id = -1 }, func(t *api.Topic) { t.Entries[5].Id = lastId + 1 }, func(t *api.Topic) { t.Entries[3].Key = text(17) }, func(t *api.Topic) { t.Entries[4].Body = text(65) },
	} {
		l = append(l, turned(theTopic(), turn))
	}
	for _, offset := range []int{6, 7, 8} {
		l = append(l, without(theTopic(), offset))
	}
	return l
}

// asked are the offsets at all edges of a topic, and around each of its entries if these are few.
func asked(t api.Topic) []int {
	l := []int{math.MinInt, -1, 0, 1, t.Base - 1, t.Base, t.Base + 1, t.Mark - 1, t.Mark, t.Mark + 1, t.Next - 2, t.Next - 1, t.Next, t.Next + 1, lastOffset - 1, lastOffset, lastOffset + 1, 1 << 32, math.MaxInt}
	for i, e := range t.Entries {
		if len(t.Entries) < 20 || i%37 == 0 {
			l = append(l, e.Offset-1, e.Offset, e.Offset+1, e.Offset+1<<32)
		}
	}
	return l
}

// show keeps what is told of a topic short.
func show(t api.Topic) string {
	var b strings.Builder
	fmt.Fprintf(&b, "%d..%d, mark %d, %d of", t.Base, t.Next, t.Mark, len(t.Entries))
	for _, e := range t.Entries[:min(len(t.Entries), 12)] {
		b.WriteString(" " + showEntry(e))
	}
	return b.String()
}

func showEntry(e api.Entry) string {
	return fmt.Sprintf("%d:%d,%q,%q", e.Offset, e.Id, brief(e.Key), brief(e.Body))
}

func brief(s string) string { return s[:min(len(s), 20)] }

// dice throws the same numbers in each run.
type dice uint64

func (d *dice) below(n int) int {
	*d = *d*6364136223846793005 + 1442695040888963407
	return int(uint64(*d)>>33) % n
}
