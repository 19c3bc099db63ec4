package quorum_test

import (
	"fmt"
	"math"
	"slices"
	"testing"

	"towncrier/api"
	"towncrier/quorum"
)

func wantCheck(t *testing.T, members []int, want api.Errno) {
	if e := quorum.Check(members); e != want {
		t.Helper()
		t.Errorf("Check(%v) = %d; want %d", members, e, want)
	}
}

func wantGroup(t *testing.T, roster, members []int, want api.Errno) {
	if e := quorum.CheckGroup(api.Group{Roster: roster, Members: members}); e != want {
		t.Helper()
		t.Errorf("CheckGroup(%v, %v) = %d; want %d", roster, members, e, want)
	}
}

func wantHas(t *testing.T, members []int, node int, want bool) {
	if has := quorum.Has(members, node); has != want {
		t.Helper()
		t.Errorf("Has(%v, %d) = %t", members, node, has)
	}
}

func wantNeed(t *testing.T, members []int, want int) {
	if need, e := quorum.Need(members); e != api.OK || need != want {
		t.Helper()
		t.Errorf("Need(%v) = %d, %d; want %d", members, need, e, want)
	}
}

func wantMost(t *testing.T, members, nodes []int, want bool) {
	if most, e := quorum.Most(members, nodes); e != api.OK || most != want {
		t.Helper()
		t.Errorf("Most(%v, %v) = %t, %d; want %t", members, nodes, most, e, want)
	}
}

func wantMostError(t *testing.T, members, nodes []int, want api.Errno) {
	if most, e := quorum.Most(members, nodes); e != want || most {
		t.Helper()
		t.Errorf("Most(%v, %d nodes) = %t, %d; want false, %d", members, len(nodes), most, e, want)
	}
}

// wantNoMembers asks all calls that are handed members; the last two of them with nodes that are all members, and that are too many.
func wantNoMembers(t *testing.T, members []int, want api.Errno) {
	t.Helper()
	wantCheck(t, members, want)
	wantGroup(t, members, members, want)
	wantGroup(t, all(), members, want)
	wantGroup(t, members, all(), want)
	if need, e := quorum.Need(members); e != want || need != 0 {
		t.Errorf("Need(%v) = %d, %d; want 0, %d", members, need, e, want)
	}
	wantMostError(t, members, all(), want)
	wantMostError(t, members, make([]int, 1001), want)
}

func all() []int { return []int{0, 1, 2, 3, 4, 5} }

// someMembers are all members that may be: those of each number from 1 to 6.
func someMembers() (l [][]int) {
	for set := 1; set < 64; set++ {
		l = append(l, ofSet(set))
	}
	return l
}

// nodesOfSets are all lists of nodes that rise, none among them.
func nodesOfSets() [][]int { return append(someMembers(), nil) }

func ofSet(set int) (l []int) {
	for node := range 6 {
		if set>>node%2 == 1 {
			l = append(l, node)
		}
	}
	return l
}

// strangers are on both sides of the nodes, and far off; some have the last bits of a node.
func strangers() []int {
	return []int{-1, -2, -6, -8, -64, -1 << 40, math.MinInt, math.MinInt + 1, math.MinInt + 5,
		6, 7, 8, 9, 63, 64, 65, 256, 257, 1 << 32, 1<<40 + 2, math.MaxInt - 1, math.MaxInt}
}

// wrongMembers are lists of up to six that may not be: other numbers, and numbers that stay or fall.
func wrongMembers() [][]int {
	l := [][]int{
		nil, {}, make([]int, 0, 6),
		{0, 0}, {5, 5}, {3, 3, 3}, {0, 1, 1}, {0, 0, 1}, {0, 1, 2, 3, 4, 4}, {0, 0, 2, 3, 4, 5}, make([]int, 6),
		{1, 0}, {2, 1}, {5, 0}, {0, 2, 1}, {1, 0, 2}, {0, 1, 2, 3, 5, 4}, {5, 4, 3, 2, 1, 0}, {3, 4, 5, 0, 1, 2},
		{-1, 6}, {-1, 0, 1, 2, 3, 4}, {1, 2, 3, 4, 5, 6}, {math.MinInt, math.MaxInt}, {math.MinInt, 0, math.MaxInt},
	}
	for _, n := range strangers() {
		l = append(l, []int{n}, []int{0, n}, []int{n, 5}, []int{0, n, 5}, []int{n, n}, []int{0, 1, 2, 3, 4, n}, []int{n, 1, 2, 3, 4, 5})
	}
	return l
}

// tooMany are more than six, all of them nodes that rise or not, or other numbers.
func tooMany() [][]int {
	return [][]int{
		{0, 1, 2, 3, 4, 5, 6}, {0, 1, 2, 3, 4, 5, 5}, {0, 0, 1, 2, 3, 4, 5}, make([]int, 7), {6, 5, 4, 3, 2, 1, 0},
		{-1, 0, 1, 2, 3, 4, 5}, {math.MinInt, 0, 1, 2, 3, 4, math.MaxInt}, make([]int, 8), make([]int, 1000), make([]int, 1<<16),
	}
}

func TestChapterExamples(t *testing.T) {
	wantNeed(t, []int{0, 2, 5}, 2)
	wantNeed(t, []int{1}, 1)
	wantNeed(t, []int{0, 1, 2, 3}, 3)
	wantMost(t, []int{0, 2, 5}, []int{5, 5, 0}, true)
	wantMost(t, []int{0, 2, 5}, []int{5, 5, 1}, false)
	wantCheck(t, nil, api.ErrQuorum)
	wantCheck(t, []int{2, 1}, api.ErrQuorum)
	wantCheck(t, []int{6}, api.ErrQuorum)
	wantGroup(t, []int{0, 1}, []int{2}, api.ErrQuorum)
}

func TestP61MembersThatMayBe(t *testing.T) {
	for _, members := range someMembers() {
		wantCheck(t, members, api.OK)
		wantGroup(t, members, members, api.OK)
	}
	wantCheck(t, all(), api.OK)
	wantCheck(t, []int{0}, api.OK)
	wantCheck(t, []int{5}, api.OK)
}

func TestP61MembersThatMayNotBe(t *testing.T) {
	for _, members := range wrongMembers() {
		wantNoMembers(t, members, api.ErrQuorum)
	}
}

func TestP61TooManyMembers(t *testing.T) {
	for _, members := range tooMany() {
		wantNoMembers(t, members, api.ErrMany)
	}
}

// TestP61AllShortLists asks of all lists of up to three numbers from -1 to 6 whether they are among those that may be.
func TestP61AllShortLists(t *testing.T) {
	mayBe := map[[3]int]bool{} // -2 where there is none
	for _, members := range someMembers() {
		if len(members) <= 3 {
			mayBe[padded(members)] = true
		}
	}
	asked := 0
	for size := range 4 {
		for code := range 1 << (3 * size) {
			list := make([]int, size)
			for i := range list {
				list[i] = code>>(3*i)%8 - 1
			}
			want := api.ErrQuorum
			if mayBe[padded(list)] {
				want = api.OK
				asked++
			}
			wantCheck(t, list, want)
		}
	}
	if asked != 6+15+20 {
		t.Error(asked)
	}
}

func padded(list []int) [3]int {
	p := [3]int{-2, -2, -2}
	copy(p[:], list)
	return p
}

func TestP61GroupsMembersAreInItsRoster(t *testing.T) {
	for _, roster := range someMembers() {
		for _, members := range someMembers() {
			want := api.OK
			for _, node := range members {
				if !slices.Contains(roster, node) {
					want = api.ErrQuorum
				}
			}
			wantGroup(t, roster, members, want)
		}
	}
}

func TestP61OneMemberOutsideTheRoster(t *testing.T) {
	for outside := range 6 {
		roster := slices.DeleteFunc(all(), func(node int) bool { return node == outside })
		wantGroup(t, roster, roster, api.OK)
		wantGroup(t, roster, all(), api.ErrQuorum)
		wantGroup(t, roster, []int{outside}, api.ErrQuorum)
		wantGroup(t, all(), roster, api.OK)
		wantGroup(t, all(), []int{outside}, api.OK)
	}
}

// What is wrong with the roster is told ahead of what is with the members, and both ahead of a member that isn't in the roster.
func TestP61OrderOfAGroupsErrors(t *testing.T) {
	for _, wrong := range wrongMembers() {
		for _, many := range tooMany() {
			wantGroup(t, many, wrong, api.ErrMany)
			wantGroup(t, wrong, many, api.ErrQuorum)
		}
		wantGroup(t, wrong, wrong, api.ErrQuorum)
	}
	for _, many := range tooMany() {
		wantGroup(t, []int{0}, many, api.ErrMany)
		wantGroup(t, many, []int{0}, api.ErrMany)
		wantGroup(t, many, many, api.ErrMany)
	}
	wantGroup(t, nil, nil, api.ErrQuorum)
	wantGroup(t, []int{0, 1}, nil, api.ErrQuorum)
	wantGroup(t, []int{0, 1}, []int{}, api.ErrQuorum)
	wantGroup(t, nil, []int{0, 1}, api.ErrQuorum)
	// More members than six, though each of them is in the roster.
	wantGroup(t, all(), []int{0, 1, 2, 3, 4, 5, 5}, api.ErrMany)
}

func TestP61HasOfMembers(t *testing.T) {
	for set := 1; set < 64; set++ {
		for node := range 6 {
			wantHas(t, ofSet(set), node, set>>node%2 == 1)
		}
		for _, n := range strangers() {
			wantHas(t, ofSet(set), n, false)
		}
	}
}

func TestP61HasOfAnyList(t *testing.T) {
	for _, n := range append(strangers(), all()...) {
		wantHas(t, nil, n, false)
		wantHas(t, []int{}, n, false)
		wantHas(t, []int{n}, n, true)
		wantHas(t, []int{n, n}, n, true)
		wantHas(t, []int{9, 4, n, -3, 4, 2}, n, true)
		wantHas(t, []int{n, 10, 3}, n, true)
		wantHas(t, []int{10, 3, n}, n, true)
		// Others that have bits in common with it.
		wantHas(t, []int{n ^ 1, n ^ 8, n ^ 64, n ^ 1<<32, n ^ math.MinInt}, n, false)
	}
	for _, list := range append(tooMany(), wrongMembers()...) {
		for _, n := range list {
			wantHas(t, list[:min(len(list), 8)], n, slices.Index(list[:min(len(list), 8)], n) >= 0)
		}
		wantHas(t, list, 1000, false)
	}
}

func TestP61HasOfALongList(t *testing.T) {
	list := make([]int, 1<<16)
	for i := range list {
		list[i] = i*3 - 70000
	}
	for _, n := range []int{-70000, -1, 2, list[1<<15], list[1<<16-1]} {
		wantHas(t, list, n, true)
	}
	for _, n := range []int{-70001, -69999, 0, 1, 4, list[1<<16-1] + 1, list[1<<16-1] + 3, math.MinInt, math.MaxInt} {
		wantHas(t, list, n, false)
	}
}

func TestP62Need(t *testing.T) {
	needs := []int{0, 1, 2, 2, 3, 3, 4}
	for _, members := range someMembers() {
		wantNeed(t, members, needs[len(members)])
	}
}

// TestP62JustEnoughAndOneLess goes through all members and all nodes that rise.
func TestP62JustEnoughAndOneLess(t *testing.T) {
	needs := []int{0, 1, 2, 2, 3, 3, 4}
	var enough, oneLess [7]int
	for _, members := range someMembers() {
		for _, nodes := range nodesOfSets() {
			both := 0
			for _, node := range members {
				if slices.Contains(nodes, node) {
					both++
				}
			}
			need := needs[len(members)]
			wantMost(t, members, nodes, both >= need)
			switch both {
			case need:
				enough[len(members)]++
			case need - 1:
				oneLess[len(members)]++
			}
		}
	}
	for number := 1; number <= 6; number++ {
		if enough[number] == 0 || oneLess[number] == 0 {
			t.Error(number, enough, oneLess)
		}
	}
}

func TestP62NodesInAnyOrder(t *testing.T) {
	for _, members := range someMembers() {
		for _, nodes := range nodesOfSets() {
			want, e := quorum.Most(members, nodes)
			if e != api.OK {
				t.Fatal(members, nodes, e)
			}
			back := slices.Clone(nodes)
			slices.Reverse(back)
			wantMost(t, members, back, want)
			wantMost(t, members, slices.Concat(back[len(back)/2:], back[:len(back)/2]), want)
		}
	}
}

func TestP62NodesThatStandTwiceCountOnce(t *testing.T) {
	for _, members := range someMembers() {
		for _, nodes := range nodesOfSets() {
			want, e := quorum.Most(members, nodes)
			if e != api.OK {
				t.Fatal(members, nodes, e)
			}
			wantMost(t, members, slices.Repeat(nodes, 2), want)
			wantMost(t, members, slices.Repeat(nodes, 7), want)
			for _, node := range nodes {
				wantMost(t, members, append([]int{node, node}, nodes...), want)
			}
		}
	}
	wantMost(t, all(), slices.Repeat([]int{0, 1, 2}, 333), false)
	wantMost(t, all(), append(slices.Repeat([]int{0, 1, 2}, 333), 3), true)
}

func TestP62WhoIsNoMemberCountsNotAtAll(t *testing.T) {
	for set := 1; set < 64; set++ {
		members, others := ofSet(set), ofSet(63&^set)
		wantMost(t, members, others, false)
		wantMost(t, members, strangers(), false)
		need, _ := quorum.Need(members)
		tooFew := slices.Concat(others, strangers(), members[:need-1], others, strangers())
		wantMost(t, members, tooFew, false)
		wantMost(t, members, append(tooFew, members[need-1]), true)
		wantMost(t, members, append([]int{members[need-1]}, tooFew...), true)
	}
}

func TestP62NumberOfNodes(t *testing.T) {
	for _, members := range someMembers() {
		need, _ := quorum.Need(members)
		for _, number := range []int{6, 7, 999, 1000} {
			nodes := slices.Repeat([]int{-7}, number)
			wantMost(t, members, nodes, false)
			copy(nodes[number-need:], members)
			wantMost(t, members, nodes, true)
			nodes[number-need] = math.MaxInt
			wantMost(t, members, nodes, false)
		}
		for _, number := range []int{1001, 1002, 2000, 1 << 16} {
			nodes := make([]int, number)
			wantMostError(t, members, nodes, api.ErrMany)
			copy(nodes, members)
			wantMostError(t, members, nodes, api.ErrMany)
			copy(nodes, strangers())
			wantMostError(t, members, nodes, api.ErrMany)
		}
	}
}

// What is wrong with the members is told ahead of how many nodes there are.
func TestP62OrderOfMostsErrors(t *testing.T) {
	for _, nodes := range [][]int{nil, {}, {0}, all(), strangers(), make([]int, 1000), make([]int, 1001), make([]int, 1<<16)} {
		for _, wrong := range wrongMembers() {
			wantMostError(t, wrong, nodes, api.ErrQuorum)
		}
		for _, many := range tooMany() {
			wantMostError(t, many, nodes, api.ErrMany)
		}
	}
}

// roomy has spare room behind a list, with nodes in it that would count.
func roomy(list []int) []int {
	return append(append([]int(nil), list...), 0, 1, 2, 3, 4, 5, 77)[:len(list)]
}

func TestP63WhatIsHandedInIsOnlyRead(t *testing.T) {
	lists := append(slices.Concat(someMembers(), wrongMembers(), tooMany()), strangers(), make([]int, 1000), []int{5, 0, 5, 3, 9, 3})
	for _, list := range lists {
		for _, other := range [][]int{{0, 2, 5}, all(), {4}, {3, 1}, nil, {-1, 7, 2, 2}, list} {
			a, b := roomy(list), roomy(other)
			quorum.Check(a)
			quorum.CheckGroup(api.Group{Roster: a, Members: b})
			quorum.CheckGroup(api.Group{Roster: b, Members: a})
			quorum.Has(a, 1)
			quorum.Need(a)
			quorum.Most(a, b)
			quorum.Most(b, a)
			if !slices.Equal(a[:cap(a)][:len(list)+7], roomy(list)[:len(list)+7]) || !slices.Equal(b[:len(other)+7], roomy(other)[:len(other)+7]) {
				t.Fatal(list, a, other, b)
			}
		}
	}
}

func TestP63SpareRoomDoesNotCount(t *testing.T) {
	wantCheck(t, roomy(nil), api.ErrQuorum)
	wantCheck(t, roomy(all()), api.OK)
	wantGroup(t, roomy([]int{0, 1}), roomy([]int{0, 2}), api.ErrQuorum)
	wantGroup(t, roomy([]int{0, 1}), roomy([]int{0, 1}), api.OK)
	wantHas(t, roomy([]int{4}), 0, false)
	wantNeed(t, roomy([]int{4}), 1)
	wantMost(t, roomy([]int{4}), roomy(nil), false)
	wantMost(t, roomy([]int{0, 1, 2}), roomy([]int{1}), false)
	wantMost(t, roomy([]int{0, 1, 2}), roomy(make([]int, 1000)), false)
}

func TestP63OneListAsBoth(t *testing.T) {
	for _, members := range someMembers() {
		list := roomy(members)
		wantGroup(t, list, list, api.OK)
		wantMost(t, list, list, true)
		wantMost(t, list, list[:len(list)/2], false)
		wantMost(t, list, list[:len(list)/2+1], true)
	}
}

// TestP64AndW3MajoritiesShareAMember: so no two nodes that each heard of a majority miss what the other one had it say.
func TestP64AndW3MajoritiesShareAMember(t *testing.T) {
	for _, members := range someMembers() {
		var majorities [][]int
		for _, nodes := range nodesOfSets() {
			if most, e := quorum.Most(members, nodes); e == api.OK && most {
				majorities = append(majorities, nodes)
			}
		}
		if len(majorities) == 0 {
			t.Fatal(members)
		}
		for _, one := range majorities {
			for _, other := range majorities {
				if !slices.ContainsFunc(members, func(node int) bool { return slices.Contains(one, node) && slices.Contains(other, node) }) {
					t.Fatal(members, one, other)
				}
			}
		}
	}
}

func TestP64AMajorityStaysOneWithMoreNodes(t *testing.T) {
	more := append(strangers(), all()...)
	for _, members := range someMembers() {
		for _, nodes := range nodesOfSets() {
			if most, _ := quorum.Most(members, nodes); !most {
				continue
			}
			for i := range more {
				wantMost(t, members, slices.Concat(nodes, more[i:i+1]), true)
				wantMost(t, members, slices.Concat(more[i:], nodes, more[:i]), true)
			}
		}
	}
}

func TestP64AllMembersAreOneAndNobodyIsNone(t *testing.T) {
	for _, members := range someMembers() {
		wantMost(t, members, members, true)
		wantMost(t, members, all(), true)
		wantMost(t, members, nil, false)
		wantMost(t, members, []int{}, false)
	}
}

// TestP64TheLeastMajorityIsTheLeast: with one less, what is left could be as many.
func TestP64TheLeastMajorityIsTheLeast(t *testing.T) {
	for _, members := range someMembers() {
		need, e := quorum.Need(members)
		if e != api.OK || need < 1 || need > len(members) {
			t.Fatal(members, need, e)
		}
		wantMost(t, members, members[:need], true)
		wantMost(t, members, members[need:], false)
		wantMost(t, members, members[:need-1], false)
	}
}

func ExampleMost() {
	members := []int{0, 2, 5}
	need, e := quorum.Need(members)
	most, _ := quorum.Most(members, []int{5, 5, 0})
	fmt.Println(need, e == api.OK, most)
	// Output: 2 true true
}
