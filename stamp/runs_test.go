package stamp_test

import (
	"math"
	"runtime"
	"slices"
	"testing"

	"towncrier/api"
	"towncrier/stamp"
)

// wantOneOrder asks of two stamps: just one is ahead of the other one, unless they are the same.
func wantOneOrder(t *testing.T, a, b api.Stamp) {
	one, other := stamp.Less(a, b), stamp.Less(b, a)
	if one && other || one == other && a != b || one != ahead(a, b) {
		t.Helper()
		t.Errorf("%v, %v: Less = %t; the other way round %t", a, b, one, other)
	}
}

func TestP143AndW1OneOfTwoIsAhead(t *testing.T) {
	l := anyStamps()
	for _, a := range l {
		for _, b := range l {
			wantOneOrder(t, a, b)
		}
	}
	var d dice = 14
	for range 1 << 18 {
		a := d.stamp()
		b := d.stamp()
		wantOneOrder(t, a, b)
		wantOneOrder(t, a, at(a.Time, b.Id))
		wantOneOrder(t, a, at(b.Time, a.Id))
		wantLess(t, a, a, false)
	}
}

// wantGoesOn asks of three stamps: if the first one is ahead of the second, and that of the third, the first one is ahead of the third.
func wantGoesOn(t *testing.T, a, b, c api.Stamp) {
	if stamp.Less(a, b) && stamp.Less(b, c) && !stamp.Less(a, c) {
		t.Helper()
		t.Errorf("%v is ahead of %v, and that of %v", a, b, c)
	}
}

func TestP143AndW1WhatIsAheadGoesOn(t *testing.T) {
	numbers := []int{math.MinInt, -1, 0, 1, lastId, math.MaxInt}
	var l []api.Stamp
	for _, time := range numbers {
		for _, id := range numbers {
			l = append(l, at(time, id))
		}
	}
	for _, a := range l {
		for _, b := range l {
			for _, c := range l {
				wantGoesOn(t, a, b, c)
			}
		}
	}
	var d dice = 143
	for range 1 << 18 {
		a := d.stamp()
		b := d.stamp()
		wantGoesOn(t, a, b, d.stamp())
		wantGoesOn(t, a, at(a.Time, b.Id), b)
		wantGoesOn(t, a, at(b.Time, a.Id), b)
	}
}

// sortedByLess puts each stamp ahead of the first one that it is less than, and leaves out what is there.
func sortedByLess(l []api.Stamp) (sorted []api.Stamp) {
	for _, s := range l {
		if slices.Contains(sorted, s) {
			continue
		}
		place := 0
		for place < len(sorted) && stamp.Less(sorted[place], s) {
			place++
		}
		sorted = slices.Insert(sorted, place, s)
	}
	return sorted
}

// TestP143AndW1WhatRisesIsAheadOfAllBehind has lists of any stamps; each has one order in which it rises, however it came.
func TestP143AndW1WhatRisesIsAheadOfAllBehind(t *testing.T) {
	var d dice = 1431
	for run := range 2000 {
		var l []api.Stamp
		for range d.below(30) {
			l = append(l, d.stamp())
		}
		sorted := sortedByLess(l)
		wantRises(t, sorted, true)
		wantRises(t, l, rising(l))
		for i, b := range sorted {
			for _, a := range sorted[:i] {
				wantLess(t, a, b, true)
				wantLess(t, b, a, false)
			}
		}
		slices.Reverse(l)
		if !slices.Equal(sortedByLess(l), sorted) || t.Failed() {
			t.Fatal(run, sorted)
		}
	}
}

// TestP143WhatDoesNotRiseHasTwoThatDoNot holds Rises, which asks of neighbours, against all twos of a list.
func TestP143WhatDoesNotRiseHasTwoThatDoNot(t *testing.T) {
	var d dice = 1432
	for range 50000 {
		var l []api.Stamp
		for range d.below(6) {
			l = append(l, at(d.below(4)-1, d.below(4)-1))
		}
		slices.SortFunc(l, func(a, b api.Stamp) int { return a.Time - b.Time })
		if got := stamp.Rises(l); got != rising(l) {
			t.Fatal(l, got)
		}
	}
}

func TestP143OfTellsOfWhatIdTells(t *testing.T) {
	var d dice = 1433
	for range 1 << 18 {
		sender := d.below(10) - 2
		number := d.below(1<<21) - 1<<19
		id, e := stamp.Id(sender, number)
		if may := sender >= 0 && sender <= 5 && number >= 0 && number <= lastNumber; may != (e == api.OK) {
			t.Fatal(sender, number, id, e)
		}
		if e == api.OK {
			wantMessage(t, sender, number, id)
		}
	}
}

func TestP143IdTellsOfWhatOfTells(t *testing.T) {
	for id := -1 << 20; id <= 7<<20; id++ {
		sender, number, e := stamp.Of(id)
		if (e == api.OK) != (id >= 0 && id <= lastId) || e != api.OK && (e != api.ErrArg || sender != 0 || number != 0) {
			t.Fatal(id, sender, number, e)
		}
		if e != api.OK {
			continue
		}
		if again, e := stamp.Id(sender, number); e != api.OK || again != id {
			t.Fatal(id, sender, number, again, e)
		}
	}
}

// TestP143NoTwoMessagesHaveOneId marks each id that a message has.
func TestP143NoTwoMessagesHaveOneId(t *testing.T) {
	taken := make([]bool, lastId+1)
	for number := lastNumber; number >= 0; number-- {
		for sender := range 6 {
			id, e := stamp.Id(sender, number)
			if e != api.OK || id < 0 || id > lastId || taken[id] {
				t.Fatal(sender, number, id, e)
			}
			taken[id] = true
		}
	}
	if slices.Contains(taken, false) {
		t.Error("an id is nobody's")
	}
}

// TestP143AStampThatMayBeHasAMessage holds Check against Of.
func TestP143AStampThatMayBeHasAMessage(t *testing.T) {
	for _, s := range anyStamps() {
		_, _, e := stamp.Of(s.Id)
		may := e == api.OK && s.Time >= 0 && s.Time <= lastTime
		if (stamp.Check(s) == api.OK) != may {
			t.Error(s, e)
		}
	}
}

func TestP141WhatIsHandedInIsOnlyRead(t *testing.T) {
	for _, l := range [][]api.Stamp{nil, stamps(3, 9), stamps(3, 9, 4, 1), stamps(4, 1, 3, 9), stamps(3, 9, 3, 9), changed(anyStamps(), 0, 1), anyStamps()} {
		in := append(slices.Clone(l), stamps(math.MinInt, 7, 0, 0, 9, 9)...)[:len(l)]
		before := slices.Clone(in[:cap(in)])
		stamp.Rises(in)
		if !slices.Equal(in[:cap(in)], before) {
			t.Errorf("Rises wrote into %v", brief(l))
		}
	}
}

// TestP141SpareRoomDoesNotCount has stamps behind a list, and ahead of it, that do not rise with it.
func TestP141SpareRoomDoesNotCount(t *testing.T) {
	for _, room := range [][]api.Stamp{stamps(math.MinInt, math.MinInt), stamps(7, 7, 7, 7), stamps(0, 0, math.MaxInt, 0)} {
		for _, l := range [][]api.Stamp{{}, stamps(3, 9), stamps(3, 9, 4, 1), anyStamps()} {
			all := slices.Concat(room, l, room)
			wantRises(t, all[len(room):len(room)+len(l)], true)
		}
		all := slices.Concat(room, stamps(4, 1, 3, 9), stamps(5, 0, 6, 0))
		wantRises(t, all[len(room):len(room)+2], false)
	}
}

// TestR1WhateverIsHandedIn hands in all that is named, and other things, in all calls.
func TestR1WhateverIsHandedIn(t *testing.T) {
	numbers := slices.Concat(anyTimes(), anyIds(), wrongSenders(), wrongNumbers(), wrongIds())
	for _, a := range numbers {
		wrong := a < 0 || a > lastId
		if sender, number, e := stamp.Of(a); wrong != (e == api.ErrArg) || wrong && (sender != 0 || number != 0) {
			t.Error(a, sender, number, e)
		}
		for _, b := range numbers {
			if e := stamp.Check(at(a, b)); (e == api.OK) != mayBe(at(a, b)) || e != api.OK && e != api.ErrBad {
				t.Error(a, b, e)
			}
			if id, e := stamp.Id(a, b); e != api.OK && (e != api.ErrArg || id != 0) || (e == api.OK) != (a >= 0 && a < 6 && b >= 0 && b <= lastNumber) {
				t.Error(a, b, id, e)
			}
			stamp.Rises(stamps(a, b, b, a, a, a))
		}
	}
}

// TestR2CallsKeepNothing asks the same again, behind other calls.
func TestR2CallsKeepNothing(t *testing.T) {
	before := runtime.NumGoroutine()
	ask := func() (l []int) {
		for _, rises := range []bool{stamp.Rises(anyStamps()), stamp.Rises(changed(anyStamps(), 3, 4)), stamp.Less(at(3, 9), at(4, 1)), stamp.Less(at(4, 1), at(3, 9))} {
			n := 0
			if rises {
				n = 1
			}
			l = append(l, n)
		}
		for i, n := range wrongIds() {
			id, e := stamp.Id(i%7, n)
			sender, number, of := stamp.Of(i*300000 + n%3)
			l = append(l, id, int(e), sender, number, int(of), int(stamp.Check(at(i, n))), int(stamp.Check(at(n, i))))
		}
		return l
	}
	first := ask()
	var d dice = 2
	for range 100 {
		stamp.Less(d.stamp(), d.stamp())
		stamp.Check(d.stamp())
		stamp.Id(d.below(7), d.below(1<<21))
		stamp.Of(d.anyInt())
		stamp.Rises([]api.Stamp{d.stamp(), d.stamp()})
		if again := ask(); !slices.Equal(again, first) {
			t.Fatal(first, again)
		}
	}
	if now := runtime.NumGoroutine(); now > before {
		t.Error(before, now)
	}
}
