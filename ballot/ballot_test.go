package ballot_test

import (
	"fmt"
	"math"
	"testing"

	"towncrier/api"
	"towncrier/ballot"
)

const last = 8388613 // the ballot of the round MaxRound and the node 5

// wantMake and those below it ask for t.Helper only where something is wrong: it takes longer than what is asked, and some tests ask of all ballots.
func wantMake(t *testing.T, round, node, want int) {
	if b, e := ballot.Make(round, node); e != api.OK || b != want {
		t.Helper()
		t.Errorf("Make(%d, %d) = %d, %d; want %d", round, node, b, e, want)
	}
}

func wantMakeArg(t *testing.T, round, node int) {
	if b, e := ballot.Make(round, node); e != api.ErrArg || b != 0 {
		t.Helper()
		t.Errorf("Make(%d, %d) = %d, %d; want 0, ErrArg", round, node, b, e)
	}
}

// wantBallot asks both calls that are handed a ballot.
func wantBallot(t *testing.T, b, round, node int) {
	if e := ballot.Check(b); e != api.OK {
		t.Helper()
		t.Errorf("Check(%d) = %d; want OK", b, e)
	}
	if r, n, e := ballot.Of(b); e != api.OK || r != round || n != node {
		t.Helper()
		t.Errorf("Of(%d) = %d, %d, %d; want %d, %d", b, r, n, e, round, node)
	}
}

func wantNoBallot(t *testing.T, b int) {
	if e := ballot.Check(b); e != api.ErrBallot {
		t.Helper()
		t.Errorf("Check(%d) = %d; want ErrBallot", b, e)
	}
	if r, n, e := ballot.Of(b); e != api.ErrBallot || r != 0 || n != 0 {
		t.Helper()
		t.Errorf("Of(%d) = %d, %d, %d; want 0, 0, ErrBallot", b, r, n, e)
	}
}

func wantNext(t *testing.T, above, node, want int) {
	if b, e := ballot.Next(above, node); e != api.OK || b != want {
		t.Helper()
		t.Errorf("Next(%d, %d) = %d, %d; want %d", above, node, b, e, want)
	}
}

func wantNextError(t *testing.T, above, node int, want api.Errno) {
	if b, e := ballot.Next(above, node); e != want || b != 0 {
		t.Helper()
		t.Errorf("Next(%d, %d) = %d, %d; want 0, %d", above, node, b, e, want)
	}
}

// wrongNodes are on both sides of those that may be, and far off; some have the last bits of one that may be.
func wrongNodes() []int {
	return []int{-1, -2, -8, -1 << 40, math.MinInt, math.MinInt + 8, 6, 7, 8, 13, 1 << 40, 1 << 61, math.MaxInt - 2, math.MaxInt}
}

// wrongRounds are such, too; the farthest by Round would come round to numbers that may be.
func wrongRounds() []int {
	return []int{0, -1, -2, -api.MaxRound, -1 << 40, -1<<61 + 1, math.MinInt, math.MinInt + 1,
		api.MaxRound + 1, api.MaxRound + 2, 1 << 40, 1<<61 + 1, 1<<62 + 3, math.MaxInt}
}

// noBallots are numbers that are no ballots, below all, between them, and above all.
func noBallots() []int {
	return []int{
		math.MinInt, math.MinInt + 1, math.MinInt + 13, -1 << 40, -last, -21, -14, -13, -9, -8, -7, -3, -2, -1,
		0, 1, 2, 3, 4, 5, 6, 7, 14, 15, 22, 23, 86, 87, last - 7, last - 6,
		last + 1, last + 2, last + 3, last + 8, 2 * last, 1 << 40, 1<<40 + 13, math.MaxInt - 7, math.MaxInt - 1, math.MaxInt,
	}
}

func TestChapterExamples(t *testing.T) {
	wantMake(t, 1, 0, 8)
	wantMake(t, 2, 5, 21)
	wantBallot(t, 21, 2, 5)
	wantNext(t, 0, 3, 11)
	wantNext(t, 11, 3, 19)
	wantNext(t, 10, 3, 11)
	wantNext(t, 12, 3, 19)
	wantNoBallot(t, 7)
	wantNoBallot(t, 14)
	wantMakeArg(t, 0, 1)
	wantNextError(t, 8*api.MaxRound+5, 5, api.ErrFull)
}

// TestP51AllBallots counts up through all numbers, round by round, without a division.
func TestP51AllBallots(t *testing.T) {
	for b := range 8 {
		wantNoBallot(t, b)
	}
	b := 8
	for round := 1; round <= api.MaxRound; round++ {
		for node := range 6 {
			wantMake(t, round, node, b)
			wantBallot(t, b, round, node)
			b++
		}
		wantNoBallot(t, b)
		wantNoBallot(t, b+1)
		b += 2
		if t.Failed() {
			return
		}
	}
	if b != last+3 {
		t.Error(b)
	}
	for range 1 << 16 {
		wantNoBallot(t, b)
		b++
	}
}

func TestP51MakeKeepsToItsRounds(t *testing.T) {
	for node := range 6 {
		wantMake(t, 1, node, 8+node)
		wantMake(t, 2, node, 16+node)
		wantMake(t, api.MaxRound-1, node, last-13+node)
		wantMake(t, api.MaxRound, node, last-5+node)
		for _, round := range wrongRounds() {
			wantMakeArg(t, round, node)
		}
	}
}

func TestP51MakeKeepsToItsNodes(t *testing.T) {
	for _, node := range wrongNodes() {
		for _, round := range []int{1, 2, 3, 1000, api.MaxRound - 1, api.MaxRound} {
			wantMakeArg(t, round, node)
		}
		for _, round := range wrongRounds() {
			wantMakeArg(t, round, node)
		}
	}
}

func TestP51MakeRefusesWhatWouldBeAnothersBallot(t *testing.T) {
	// By Round, and added, each of these would be the number of a ballot that may be.
	for _, c := range [][2]int{{0, 8}, {0, 13}, {1, 8}, {2, -8}, {2, -3}, {3, -16}, {1, 16}, {-1, 16}, {api.MaxRound + 1, -8}, {api.MaxRound + 1, -3}} {
		wantMakeArg(t, c[0], c[1])
	}
}

func TestP51BallotsThatMayNotBe(t *testing.T) {
	for _, b := range noBallots() {
		wantNoBallot(t, b)
	}
}

func TestP51BothSidesOfARoundsBallots(t *testing.T) {
	for _, round := range []int{1, 2, 3, 127, 128, 4096, 1<<19 + 1, api.MaxRound - 1, api.MaxRound} {
		first := 8 * round
		wantNoBallot(t, first-2)
		wantNoBallot(t, first-1)
		for node := range 6 {
			wantBallot(t, first+node, round, node)
		}
		wantNoBallot(t, first+6)
		wantNoBallot(t, first+7)
	}
}

// TestP52AllNumbers counts down through all numbers: what is the least of a node's ballots above one is the last of them that was gone by.
func TestP52AllNumbers(t *testing.T) {
	var least [6]int // of each node, above the number; none at first
	behind := 5      // which one of its round's eight the number is
	for above := last; above >= 0 && !t.Failed(); above-- {
		for node, want := range least {
			if want == 0 {
				wantNextError(t, above, node, api.ErrFull)
			} else {
				wantNext(t, above, node, want)
			}
		}
		if behind < 6 && above >= 8 {
			least[behind] = above
		}
		behind = (behind + 7) % 8
	}
}

func TestP52NextFromAheadOfAllRounds(t *testing.T) {
	for above := range 8 {
		for node := range 6 {
			wantNext(t, above, node, 8+node)
		}
	}
}

func TestP52NextBesideANodesBallots(t *testing.T) {
	for node := range 6 {
		for _, round := range []int{1, 2, 3, 128, 1 << 19, api.MaxRound - 1} {
			own := 8*round + node
			wantNext(t, own-1, node, own)
			wantNext(t, own, node, own+8)
			wantNext(t, own+1, node, own+8)
			wantNext(t, own+7, node, own+8)
		}
	}
}

func TestP52NextWhereThereIsNoRoom(t *testing.T) {
	for node := range 6 {
		own := last - 5 + node
		wantNext(t, own-8, node, own)
		wantNext(t, own-7, node, own)
		wantNext(t, own-1, node, own)
		for above := own; above <= last; above++ {
			wantNextError(t, above, node, api.ErrFull)
		}
		wantNextError(t, last+1, node, api.ErrArg)
	}
}

func TestP52NextKeepsToWhatIsAbove(t *testing.T) {
	for node := range 6 {
		for _, above := range []int{-1, -2, -8, -1 << 40, math.MinInt, last + 1, last + 2, last + 3, 1 << 40, math.MaxInt - 7, math.MaxInt} {
			wantNextError(t, above, node, api.ErrArg)
		}
	}
}

func TestP52NextKeepsToItsNodes(t *testing.T) {
	for _, node := range wrongNodes() {
		for _, above := range []int{0, 1, 7, 8, 13, 14, 1000, last - 8, last - 6} {
			wantNextError(t, above, node, api.ErrArg)
		}
	}
}

// That there is none is looked for behind what may not be.
func TestP52OrderOfNextsErrors(t *testing.T) {
	for _, node := range wrongNodes() {
		for _, above := range []int{last - 5, last - 1, last, last + 1, math.MaxInt, -1, math.MinInt} {
			wantNextError(t, above, node, api.ErrArg)
		}
	}
	for node := range 6 {
		wantNextError(t, last, node, api.ErrFull)
		wantNextError(t, last+1, node, api.ErrArg)
		wantNextError(t, math.MaxInt, node, api.ErrArg)
	}
}

// TestP53AndW3NoTwoNodesHaveOneBallot asks whether ballots rise by rounds and, in each, by nodes: so none comes twice, and any two stand in an order.
func TestP53AndW3NoTwoNodesHaveOneBallot(t *testing.T) {
	ahead := 0
	for round := 1; round <= api.MaxRound; round++ {
		for node := range 6 {
			b, e := ballot.Make(round, node)
			if e != api.OK || b <= ahead {
				t.Fatal(round, node, b, ahead, e)
			}
			ahead = b
		}
	}
}

func TestP53EachBallotHasOneRoundAndOneNode(t *testing.T) {
	for b := -100; b < last+100; b++ {
		round, node, e := ballot.Of(b)
		if e != ballot.Check(b) {
			t.Fatal(b, e)
		}
		if e != api.OK {
			continue
		}
		if again, e := ballot.Make(round, node); e != api.OK || again != b {
			t.Fatal(b, round, node, again, e)
		}
	}
}

func TestP53NextIsAboveAndNotFarAndTheNodes(t *testing.T) {
	for above := 0; above <= last; above++ {
		for node := range 6 {
			b, e := ballot.Next(above, node)
			if e == api.ErrFull && above >= last-5+node {
				continue
			}
			round, own, wrong := ballot.Of(b)
			if e != api.OK || wrong != api.OK || own != node || b <= above || b > above+api.Round && round != 1 {
				t.Fatal(above, node, b, e, round, own, wrong)
			}
		}
	}
}

func TestP53NodesThatOutdoEachOther(t *testing.T) {
	seen := map[int]bool{}
	above := 0
	for step := range 10000 {
		b, e := ballot.Next(above, step*step*step%11%6)
		if e != api.OK || b <= above || seen[b] {
			t.Fatal(step, above, b, e)
		}
		seen[b], above = true, b
	}
}

func TestP53ANodeGoesThroughAllItsBallots(t *testing.T) {
	for node := range 6 {
		b, want := 0, 8+node
		for range api.MaxRound {
			next, e := ballot.Next(b, node)
			if e != api.OK || next != want {
				t.Fatal(node, b, next, e)
			}
			b, want = next, want+8
		}
		wantNextError(t, b, node, api.ErrFull)
	}
}

func ExampleNext() {
	b, e := ballot.Next(11, 3)
	round, node, _ := ballot.Of(b)
	fmt.Println(b, e == api.OK, round, node)
	// Output: 19 true 2 3
}
