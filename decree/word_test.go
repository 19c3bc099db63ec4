package decree_test

import (
	"math"
	"slices"
	"sort"

	"towncrier/api"
)

// What is here is the chapter's words once more, done plainly and without asking a package: the tests hold what was built against it.

const (
	first = 8       // the ballot of the round 1 and the node 0
	last  = 8388613 // the one of the round MaxRound and the node 5
)

func isBallot(b int) bool { return b >= first && b <= last && b%8 < 6 }

func isNode(n int) bool { return n >= 0 && n <= 5 }

func areMembers(l []int) bool {
	if len(l) < 1 || len(l) > 6 {
		return false
	}
	for i, n := range l {
		if !isNode(n) || i > 0 && n <= l[i-1] {
			return false
		}
	}
	return true
}

func isVote(v api.Vote) bool {
	if v.Promised != 0 && !isBallot(v.Promised) {
		return false
	}
	if v.Ballot == 0 {
		return v.Value == ""
	}
	return isBallot(v.Ballot) && v.Ballot <= v.Promised && len(v.Value) <= 1024
}

func isPromise(p api.Promise, beside int) bool {
	if p.Ballot == 0 {
		return p.Value == ""
	}
	return isBallot(p.Ballot) && p.Ballot < beside && len(p.Value) <= 1024
}

// best goes from the last promise back, so that of several the first one stays.
func best(l []api.Promise, wish string) string {
	found := -1
	for i := len(l) - 1; i >= 0; i-- {
		if l[i].Ballot > 0 && (found < 0 || l[i].Ballot >= l[found].Ballot) {
			found = i
		}
	}
	if found < 0 {
		return wish
	}
	return l[found].Value
}

func nodesOf(l []api.Promise) (nodes []int) {
	for _, p := range l {
		nodes = append(nodes, p.Node)
	}
	return nodes
}

// areSome tells whether nodes are members, each once, rising.
func areSome(members, nodes []int) bool {
	for i, n := range nodes {
		if !slices.Contains(members, n) || i > 0 && n <= nodes[i-1] {
			return false
		}
	}
	return true
}

func isAttempt(a api.Attempt) bool {
	if a.Phase == 0 {
		return a.Ballot == 0 && len(a.Members) == 0 && a.Wish == "" && a.Value == "" && len(a.Promises) == 0 && len(a.Accepted) == 0
	}
	if !isBallot(a.Ballot) || !areMembers(a.Members) || len(a.Wish) > 1024 {
		return false
	}
	if !areSome(a.Members, nodesOf(a.Promises)) || !areSome(a.Members, a.Accepted) {
		return false
	}
	for _, p := range a.Promises {
		if !isPromise(p, a.Ballot) {
			return false
		}
	}
	promised, accepted := 2*len(a.Promises) > len(a.Members), 2*len(a.Accepted) > len(a.Members)
	switch a.Phase {
	case 1:
		return !promised && a.Value == "" && len(a.Accepted) == 0
	case 2:
		return promised && a.Value == best(a.Promises, a.Wish) && !accepted
	case 3:
		return promised && a.Value == best(a.Promises, a.Wish) && accepted
	}
	return false
}

func isMail(m api.Mail) bool {
	return isNode(m.From) && isNode(m.To) && m.Kind >= 1 && m.Kind <= 5 && isBallot(m.Ballot) && m.Prior >= 0 && len(m.Value) <= 1024 &&
		m.Group == 0 && m.Slot == 0 && m.Id == 0 && m.Time == 0
}

// mayBe is the chapter's word of a world.
func mayBe(w api.World) bool {
	if !areMembers(w.Members) || len(w.Votes) != 6 || len(w.Tries) != 6 || len(w.Mail) > 1000 || len(w.Chosen) > 1000 {
		return false
	}
	for node, a := range w.Tries {
		if !isVote(w.Votes[node]) || !isAttempt(a) {
			return false
		}
		if a.Phase != 0 && (a.Ballot%8 != node || !slices.Equal(a.Members, w.Members)) {
			return false
		}
	}
	for _, m := range w.Mail {
		if !isMail(m) {
			return false
		}
	}
	for _, c := range w.Chosen {
		if !isNode(c.Node) || len(c.Value) > 1024 {
			return false
		}
	}
	return true
}

// behind is the chapter's word of what a move does, and of what is wrong with it.
func behind(w api.World, m api.Move) (api.World, api.Errno) {
	if e := wrong(w, m); e != api.OK {
		return api.World{}, e
	}
	n := plain(w)
	switch m.Kind {
	case 1:
		begins(&n, m.Node, m.Value)
	case 2:
		mail := n.Mail[m.At]
		n.Mail = append(append([]api.Mail{}, w.Mail[:m.At]...), w.Mail[m.At+1:]...)
		comes(&n, mail)
	case 3:
		comes(&n, n.Mail[m.At])
	case 4:
		n.Mail = append(append([]api.Mail{}, w.Mail[:m.At]...), w.Mail[m.At+1:]...)
	case 5:
		n.Tries[m.Node] = api.Attempt{}
	}
	if len(n.Mail) > 1000 || len(n.Chosen) > 1000 {
		return api.World{}, api.ErrFull
	}
	return n, api.OK
}

func wrong(w api.World, m api.Move) api.Errno {
	taken := m.Kind == 2 || m.Kind == 3 || m.Kind == 4
	switch {
	case !mayBe(w):
		return api.ErrBad
	case m.Kind == 0 || m.Kind > 5:
		return api.ErrArg
	case !taken && !isNode(m.Node):
		return api.ErrArg
	case m.Kind == 1 && len(m.Value) > 1024:
		return api.ErrText
	case taken && (m.At < 0 || m.At > len(w.Mail)-1):
		return api.ErrNone
	case m.Kind == 1 && nextBallot(w.Votes[m.Node].Promised, m.Node) > last:
		return api.ErrFull
	}
	return api.OK
}

// nextBallot tries each number above one.
func nextBallot(above, node int) int {
	b := above + 1
	for b < first || b%8 != node {
		b++
	}
	return b
}

func begins(n *api.World, node int, wish string) {
	b := nextBallot(n.Votes[node].Promised, node)
	n.Votes[node].Promised = b
	n.Tries[node] = api.Attempt{Phase: 1, Ballot: b, Members: slices.Clone(n.Members), Wish: wish}
	for _, to := range n.Members {
		if to != node {
			n.Mail = append(n.Mail, api.Mail{From: node, To: to, Kind: 1, Ballot: b})
		}
	}
	promiseComes(n, node, b, api.Promise{Node: node, Ballot: n.Votes[node].Ballot, Value: n.Votes[node].Value})
}

func comes(n *api.World, m api.Mail) {
	v := &n.Votes[m.To]
	switch {
	case m.Kind == 2:
		promiseComes(n, m.To, m.Ballot, api.Promise{Node: m.From, Ballot: m.Prior, Value: m.Value})
	case m.Kind == 4:
		acceptanceComes(n, m.To, m.Ballot, m.From)
	case m.Kind == 5:
	case m.Ballot < v.Promised:
		n.Mail = append(n.Mail, api.Mail{From: m.To, To: m.From, Kind: 5, Ballot: m.Ballot, Prior: v.Promised})
	case m.Kind == 1:
		v.Promised = m.Ballot
		n.Mail = append(n.Mail, api.Mail{From: m.To, To: m.From, Kind: 2, Ballot: m.Ballot, Prior: v.Ballot, Value: v.Value})
	case m.Kind == 3:
		*v = api.Vote{Promised: m.Ballot, Ballot: m.Ballot, Value: m.Value}
		n.Mail = append(n.Mail, api.Mail{From: m.To, To: m.From, Kind: 4, Ballot: m.Ballot})
	}
}

func promiseComes(n *api.World, node, ballot int, p api.Promise) {
	a := &n.Tries[node]
	if a.Phase != 1 || a.Ballot != ballot || !slices.Contains(n.Members, p.Node) || !isPromise(p, ballot) || slices.Contains(nodesOf(a.Promises), p.Node) {
		return
	}
	a.Promises = append(a.Promises, p)
	sort.Slice(a.Promises, func(i, j int) bool { return a.Promises[i].Node < a.Promises[j].Node })
	if 2*len(a.Promises) <= len(n.Members) {
		return
	}
	a.Phase, a.Value = 2, best(a.Promises, a.Wish)
	for _, to := range n.Members {
		if to != node {
			n.Mail = append(n.Mail, api.Mail{From: node, To: to, Kind: 3, Ballot: ballot, Value: a.Value})
		}
	}
	if slices.Contains(n.Members, node) && ballot >= n.Votes[node].Promised {
		n.Votes[node] = api.Vote{Promised: ballot, Ballot: ballot, Value: a.Value}
		acceptanceComes(n, node, ballot, node)
	}
}

func acceptanceComes(n *api.World, node, ballot, who int) {
	a := &n.Tries[node]
	if a.Phase < 2 || a.Ballot != ballot || !slices.Contains(n.Members, who) || slices.Contains(a.Accepted, who) {
		return
	}
	a.Accepted = append(a.Accepted, who)
	sort.Ints(a.Accepted)
	if a.Phase == 2 && 2*len(a.Accepted) > len(n.Members) {
		a.Phase = 3
		n.Chosen = append(n.Chosen, api.Choice{Node: node, Value: a.Value})
	}
}

// noBallots are numbers that are no ballots, below all, between them, and above all.
func noBallots() []int {
	return []int{
		math.MinInt, math.MinInt + 1, math.MinInt + 8, -1 << 40, -last, -17, -8, -1, 0, 1, 5, 6, 7, 14, 15, 22, 23, last - 7, last - 6,
		last + 1, last + 2, last + 3, last + 8, 1 << 32, 1<<32 + 8, 1 << 40, math.MaxInt - 7, math.MaxInt - 1, math.MaxInt,
	}
}

// strangers are no nodes.
func strangers() []int {
	return []int{math.MinInt, math.MinInt + 1, -1 << 32, -6, -1, 6, 7, 8, 13, 64, 1 << 32, 1<<32 + 1, math.MaxInt - 1, math.MaxInt}
}

// allMembers are all members that may be: of one node to six.
func allMembers() (l [][]int) {
	for set := 1; set < 64; set++ {
		l = append(l, ofSet(set))
	}
	return l
}

func ofSet(set int) (l []int) {
	for node := range 6 {
		if set>>node%2 == 1 {
			l = append(l, node)
		}
	}
	return l
}

func wrongMembers() [][]int {
	l := [][]int{nil, {}, {0, 0}, {1, 0}, {0, 2, 1}, {0, 1, 2, 3, 4, 4}, {5, 4, 3, 2, 1, 0}}
	for _, n := range strangers() {
		l = append(l, []int{n}, []int{0, n}, []int{n, 0}, []int{0, 1, n, 2})
	}
	return l
}

func tooManyMembers() [][]int {
	return [][]int{{0, 1, 2, 3, 4, 5, 6}, {0, 1, 2, 3, 4, 5, 5}, make([]int, 7), {-1, 0, 1, 2, 3, 4, 5}, make([]int, 1001)}
}
