package stamp_test

import (
	"fmt"
	"math"
	"slices"
	"testing"

	"towncrier/api"
	"towncrier/stamp"
)

// wantCheck and those below it ask for t.Helper only where something is wrong: it takes longer than what is asked, and some tests ask of all ids.
func wantCheck(t *testing.T, s api.Stamp, want api.Errno) {
	if e := stamp.Check(s); e != want {
		t.Helper()
		t.Errorf("Check(%v) = %d; want %d", s, e, want)
	}
}

func wantLess(t *testing.T, a, b api.Stamp, want bool) {
	if got := stamp.Less(a, b); got != want {
		t.Helper()
		t.Errorf("Less(%v, %v) = %t", a, b, got)
	}
}

func wantRises(t *testing.T, l []api.Stamp, want bool) {
	if got := stamp.Rises(l); got != want {
		t.Helper()
		t.Errorf("Rises of %d, %v.. = %t", len(l), brief(l), got)
	}
}

// wantMessage asks both ways: of a sender and a number, and of the id.
func wantMessage(t *testing.T, sender, number, id int) {
	if got, e := stamp.Id(sender, number); e != api.OK || got != id {
		t.Helper()
		t.Errorf("Id(%d, %d) = %d, %d; want %d", sender, number, got, e, id)
	}
	if s, n, e := stamp.Of(id); e != api.OK || s != sender || n != number {
		t.Helper()
		t.Errorf("Of(%d) = %d, %d, %d; want %d, %d", id, s, n, e, sender, number)
	}
}

func wantNoMessage(t *testing.T, sender, number int) {
	if id, e := stamp.Id(sender, number); e != api.ErrArg || id != 0 {
		t.Helper()
		t.Errorf("Id(%d, %d) = %d, %d; want 0, ErrArg", sender, number, id, e)
	}
}

func wantNoId(t *testing.T, id int) {
	if sender, number, e := stamp.Of(id); e != api.ErrArg || sender != 0 || number != 0 {
		t.Helper()
		t.Errorf("Of(%d) = %d, %d, %d; want 0, 0, ErrArg", id, sender, number, e)
	}
}

// wrongSenders are on both sides of those that may be, and far off; the farthest, by 2^20, would come round to ids that may be.
func wrongSenders() []int {
	return []int{-1, -2, -6, -1 << 20, -1 << 40, -1 << 44, math.MinInt, math.MinInt + 1, 6, 7, 8, 1 << 20, 1 << 40, 1 << 44, 1<<44 + 3, 1<<62 + 5, math.MaxInt - 1, math.MaxInt}
}

// wrongNumbers are such, too; to another sender's 2^20 some would make an id that may be.
func wrongNumbers() []int {
	return []int{-1, -2, -lastNumber, -1 << 20, -1<<20 - 1, -5 << 20, -1 << 40, math.MinInt, math.MinInt + 1, 1 << 20, 1<<20 + 1, 2 << 20, lastId, lastId + 1, 1 << 40, 1<<32 + 5, math.MaxInt - 1, math.MaxInt}
}

// wrongIds are below all ids, and above all.
func wrongIds() []int {
	return []int{-1, -2, -5, -lastNumber, -1 << 20, -1<<20 - 1, -2097157, -lastId, -lastId - 1, -1 << 40, math.MinInt, math.MinInt + 1, math.MinInt + 1<<20,
		lastId + 1, lastId + 2, 7 << 20, 8<<20 + 5, 1 << 32, 1<<32 + 5, 1 << 40, 1<<62 + 9, math.MaxInt - lastNumber, math.MaxInt - 1, math.MaxInt}
}

func TestChapterExamples(t *testing.T) {
	wantLess(t, at(3, 9), at(4, 1), true)
	wantLess(t, at(3, 9), at(3, 8), false)
	wantLess(t, at(3, 9), at(3, 9), false)
	wantMessage(t, 2, 5, 2097157)
	wantNoMessage(t, 6, 0)
	wantNoId(t, -1)
	wantRises(t, nil, true)
}

// TestTheWordsOnceMore holds what the tests know of the order against what the chapter says of it.
func TestTheWordsOnceMore(t *testing.T) {
	for _, c := range []struct {
		a, b api.Stamp
		want bool
	}{
		{at(3, 9), at(4, 1), true}, {at(4, 1), at(3, 9), false}, {at(3, 9), at(3, 8), false}, {at(3, 8), at(3, 9), true}, {at(3, 9), at(3, 9), false},
		{at(-1, 9), at(0, 1), true}, {at(0, -1), at(0, 0), true}, {at(0, 0), at(0, -1), false}, {at(math.MinInt, 0), at(math.MaxInt, 0), true}, {at(0, math.MaxInt), at(0, math.MinInt), false},
	} {
		if ahead(c.a, c.b) != c.want {
			t.Error(c)
		}
	}
	for i, l := range [][]api.Stamp{nil, stamps(3, 9), stamps(3, 8, 3, 9, 4, 1)} {
		if !rising(l) {
			t.Error(i)
		}
	}
	for i, l := range [][]api.Stamp{stamps(3, 9, 3, 9), stamps(3, 8, 4, 1, 3, 9)} {
		if rising(l) {
			t.Error(i)
		}
	}
	if !rising(anyStamps()) {
		t.Error("the samples are to stand in order")
	}
	if lastTime != api.MaxTime || lastId != api.MaxNodes*api.MaxNumber-1 || lastNumber != api.MaxNumber-1 {
		t.Error("limits")
	}
}

func TestP141CheckAtTheEdges(t *testing.T) {
	for _, time := range []int{0, 1, lastTime - 1, lastTime} {
		for _, id := range []int{0, 1, lastNumber, lastNumber + 1, lastId - 1, lastId} {
			wantCheck(t, at(time, id), api.OK)
		}
		for _, id := range []int{-1, lastId + 1, math.MinInt, math.MaxInt} {
			wantCheck(t, at(time, id), api.ErrBad)
		}
	}
	for _, time := range []int{-1, lastTime + 1, math.MinInt, math.MaxInt} {
		for _, id := range []int{0, 1, lastNumber, lastNumber + 1, lastId - 1, lastId, -1, lastId + 1, math.MinInt, math.MaxInt} {
			wantCheck(t, at(time, id), api.ErrBad)
		}
	}
}

func TestP141CheckOfAnyStamps(t *testing.T) {
	for _, s := range anyStamps() {
		want := api.ErrBad
		if mayBe(s) {
			want = api.OK
		}
		wantCheck(t, s, want)
	}
	for _, id := range wrongIds() {
		wantCheck(t, at(7, id), api.ErrBad)
	}
}

func TestP141CheckOfAllIds(t *testing.T) {
	for id := -1000; id <= lastId+1000; id++ {
		want := api.OK
		if id < 0 || id > lastId {
			want = api.ErrBad
		}
		wantCheck(t, at(id&lastTime, id), want)
	}
}

// TestP141LessOfAnyStamps has stamps that may not be among the others: Less tells all the same.
func TestP141LessOfAnyStamps(t *testing.T) {
	l := anyStamps()
	for i, a := range l {
		for k, b := range l {
			wantLess(t, a, b, i < k)
		}
	}
}

func TestP141LessOfOneTime(t *testing.T) {
	for _, time := range anyTimes() {
		for i, a := range anyIds() {
			for k, b := range anyIds() {
				wantLess(t, at(time, a), at(time, b), i < k)
			}
		}
	}
}

func TestP141LessOfOneId(t *testing.T) {
	for _, id := range anyIds() {
		for i, a := range anyTimes() {
			for k, b := range anyTimes() {
				wantLess(t, at(a, id), at(b, id), i < k)
			}
		}
	}
}

// TestP141TheTimeIsAskedFirst has ids that say the other thing.
func TestP141TheTimeIsAskedFirst(t *testing.T) {
	for _, time := range []int{math.MinInt, -1, 0, 3, lastTime, math.MaxInt - 1} {
		for _, id := range []int{math.MaxInt, lastId, 9, 1} {
			wantLess(t, at(time, id), at(time+1, id-1), true)
			wantLess(t, at(time, id), at(time+1, math.MinInt), true)
			wantLess(t, at(time+1, id-1), at(time, id), false)
			wantLess(t, at(time+1, math.MinInt), at(time, id), false)
		}
	}
}

// TestP141LessOfNumbersFarApart has some whose difference is no int.
func TestP141LessOfNumbersFarApart(t *testing.T) {
	for _, c := range [][2]int{{math.MinInt, math.MaxInt}, {math.MinInt, 1}, {-2, math.MaxInt}, {math.MinInt + 1, 1 << 62}, {-1 << 62, 1<<62 + 1}, {0, 1 << 32}, {-1 << 32, 0}, {5, 5 + 1<<32}} {
		wantLess(t, at(c[0], 0), at(c[1], 0), true)
		wantLess(t, at(c[1], 0), at(c[0], 0), false)
		wantLess(t, at(0, c[0]), at(0, c[1]), true)
		wantLess(t, at(0, c[1]), at(0, c[0]), false)
		wantLess(t, at(c[0], c[1]), at(c[1], c[0]), true)
		wantLess(t, at(c[1], c[0]), at(c[0], c[1]), false)
	}
}

func TestP141OneStampTwice(t *testing.T) {
	for _, s := range anyStamps() {
		wantLess(t, s, s, false)
		wantRises(t, []api.Stamp{s, s}, false)
	}
}

func TestP141RisesOfNoneAndOfOne(t *testing.T) {
	wantRises(t, nil, true)
	wantRises(t, []api.Stamp{}, true)
	for _, s := range anyStamps() {
		wantRises(t, []api.Stamp{s}, true)
	}
}

func TestP141RisesOfTwo(t *testing.T) {
	l := anyStamps()
	for i, a := range l {
		for k, b := range l {
			if got := stamp.Rises([]api.Stamp{a, b}); got != (i < k) {
				t.Fatalf("Rises of %v, %v = %t", a, b, got)
			}
		}
	}
}

// TestP141RisesOfMany spoils a list that rises at each place: two are changed about, or the same, or one stands behind all, or ahead of all.
func TestP141RisesOfMany(t *testing.T) {
	l := anyStamps()
	wantRises(t, l, true)
	for i := range len(l) - 1 {
		wantRises(t, l[i:], true)
		wantRises(t, l[:i], true)
		wantRises(t, changed(l, i, i+1), false)
		wantRises(t, with(l, i, l[i+1]), false)
		wantRises(t, with(l, i+1, l[i]), false)
		wantRises(t, changed(l, i, len(l)-1), false)
		wantRises(t, slices.Insert(slices.Clone(l), i+1, l[0]), false)
		wantRises(t, slices.Insert(slices.Clone(l), i, l[len(l)-1]), false)
	}
	slices.Reverse(l)
	wantRises(t, l, false)
}

// TestP141RisesByTheTimeOrTheIdAlone has lists in which the other field stays, or falls.
func TestP141RisesByTheTimeOrTheIdAlone(t *testing.T) {
	wantRises(t, stamps(5, 1, 5, 2, 5, 3, 5, 4), true)
	wantRises(t, stamps(1, 5, 2, 5, 3, 5, 4, 5), true)
	wantRises(t, stamps(1, 9, 2, 8, 3, 7, 4, 6), true)
	wantRises(t, stamps(4, 6, 3, 7, 2, 8, 1, 9), false)
	wantRises(t, stamps(5, 1, 5, 2, 5, 2, 5, 4), false)
	wantRises(t, stamps(1, 5, 2, 5, 2, 5, 4, 5), false)
	wantRises(t, stamps(5, 4, 5, 3), false)
	wantRises(t, stamps(1, 2, 1, 3, 2, 1, 2, 0), false)
	wantRises(t, stamps(1, 1, 3, 1, 2, 1, 4, 1), false)
}

// TestP141AllShortLists asks of all lists of up to five stamps of two times and two ids, and of up to three of three and three.
func TestP141AllShortLists(t *testing.T) {
	for _, c := range []struct{ most, each int }{{5, 2}, {3, 3}} {
		lists := [][]api.Stamp{nil}
		for range c.most {
			var longer [][]api.Stamp
			for _, l := range lists {
				for i := range c.each * c.each {
					longer = append(longer, append(slices.Clone(l), at(i/c.each, i%c.each)))
				}
			}
			for _, l := range longer {
				wantRises(t, l, rising(l))
			}
			lists = longer
		}
	}
}

func TestP141RisesOfALongList(t *testing.T) {
	l := make([]api.Stamp, 1<<20)
	for i := range l {
		l[i] = at(i/3, i%3*lastNumber)
	}
	wantRises(t, l, true)
	for _, i := range []int{0, 1, 1 << 10, 1<<19 + 1, len(l) - 3, len(l) - 2} {
		wantRises(t, changed(l, i, i+1), false)
		wantRises(t, with(l, i+1, l[i]), false)
	}
}

func TestP142MessagesAtTheEdges(t *testing.T) {
	for sender := range 6 {
		first := sender * (lastNumber + 1)
		for _, number := range []int{0, 1, 5, 255, 256, 65536, lastNumber - 1, lastNumber} {
			wantMessage(t, sender, number, first+number)
		}
		for _, number := range wrongNumbers() {
			wantNoMessage(t, sender, number)
		}
	}
	for _, sender := range wrongSenders() {
		for _, number := range []int{0, 1, 5, lastNumber - 1, lastNumber} {
			wantNoMessage(t, sender, number)
		}
		for _, number := range wrongNumbers() {
			wantNoMessage(t, sender, number)
		}
	}
	wantMessage(t, 0, 0, 0)
	wantMessage(t, 0, lastNumber, 1048575)
	wantMessage(t, 1, 0, 1048576)
	wantMessage(t, 5, lastNumber, 6291455)
}

// TestP142IdRefusesWhatWouldBeAnothersId has senders and numbers of which the sum would be an id that may be.
func TestP142IdRefusesWhatWouldBeAnothersId(t *testing.T) {
	for _, c := range [][2]int{{-1, 1 << 20}, {-1, 2 << 20}, {0, 1 << 20}, {1, -1}, {1, -1 << 20}, {5, -1}, {6, -1}, {6, -1 << 20}, {7, -2 << 20}, {0, lastId}, {4, 1<<20 + 1}, {1 << 44, 5}, {-1 << 44, 5}, {1<<44 + 2, 5}} {
		wantNoMessage(t, c[0], c[1])
	}
}

func TestP142IdsThatMayNotBe(t *testing.T) {
	for _, id := range wrongIds() {
		wantNoId(t, id)
	}
	for i := 1; i < 1<<16; i++ {
		wantNoId(t, -i)
		wantNoId(t, lastId+i)
	}
}

// TestP142AndP143AllMessages counts up through all messages, and so through all ids, without a division: each of them is told both ways, and no id comes twice.
func TestP142AndP143AllMessages(t *testing.T) {
	id := 0
	for sender := range 6 {
		wantNoMessage(t, sender, -1)
		for number := range lastNumber + 1 {
			wantMessage(t, sender, number, id)
			id++
		}
		wantNoMessage(t, sender, lastNumber+1)
	}
	if id != lastId+1 {
		t.Error(id)
	}
	wantNoId(t, id)
}

func ExampleLess() {
	a, b := api.Stamp{Time: 3, Id: 9}, api.Stamp{Time: 4, Id: 1}
	fmt.Println(stamp.Less(a, b), stamp.Less(b, a), stamp.Less(a, a))
	// Output: true false false
}

func ExampleOf() {
	id, e := stamp.Id(2, 5)
	sender, number, _ := stamp.Of(id)
	fmt.Println(id, e == api.OK, sender, number)
	// Output: 2097157 true 2 5
}
