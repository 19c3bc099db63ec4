package decree_test

import (
	"fmt"
	"math"
	"slices"
	"strconv"
	"strings"
	"testing"

	"towncrier/api"
	"towncrier/decree"
)

// same holds worlds against each other without asking the package; a list without elements may be nil or not.
func same(a, b api.World) bool {
	return slices.Equal(a.Members, b.Members) && slices.Equal(a.Votes, b.Votes) && slices.EqualFunc(a.Tries, b.Tries, sameTry) &&
		slices.Equal(a.Mail, b.Mail) && slices.Equal(a.Chosen, b.Chosen)
}

func sameTry(a, b api.Attempt) bool {
	return a.Phase == b.Phase && a.Ballot == b.Ballot && a.Wish == b.Wish && a.Value == b.Value && slices.Equal(a.Members, b.Members) &&
		slices.Equal(a.Promises, b.Promises) && slices.Equal(a.Accepted, b.Accepted)
}

// plain is a world in memory of its own.
func plain(w api.World) api.World {
	w.Members = append([]int{}, w.Members...)
	w.Votes = append([]api.Vote{}, w.Votes...)
	w.Tries = append([]api.Attempt{}, w.Tries...)
	for i, a := range w.Tries {
		w.Tries[i].Members = append([]int{}, a.Members...)
		w.Tries[i].Promises = append([]api.Promise{}, a.Promises...)
		w.Tries[i].Accepted = append([]int{}, a.Accepted...)
	}
	w.Mail = append([]api.Mail{}, w.Mail...)
	w.Chosen = append([]api.Choice{}, w.Chosen...)
	return w
}

// changed is a world in memory of its own behind a change.
func changed(w api.World, change func(*api.World)) api.World {
	w = plain(w)
	change(&w)
	return w
}

// want asks what a call answered: beside an error that is to be nothing.
func want(t *testing.T, call string, got api.World, e api.Errno, wantWorld api.World, wantError api.Errno) {
	if e != wantError || !same(got, wantWorld) {
		t.Helper()
		t.Errorf("%s = %s, %d; want %s, %d", call, show(got), e, show(wantWorld), wantError)
	}
}

func wantNew(t *testing.T, members []int, wantWorld api.World, wantError api.Errno) {
	t.Helper()
	got, e := decree.New(members)
	want(t, fmt.Sprint("New(", brief(fmt.Sprint(members)), ")"), got, e, wantWorld, wantError)
}

func wantDo(t *testing.T, w api.World, m api.Move, wantWorld api.World, wantError api.Errno) {
	if got, e := decree.Do(w, m); e != wantError || !same(got, wantWorld) {
		t.Helper()
		want(t, "Do("+show(w)+", "+showMove(m)+")", got, e, wantWorld, wantError)
	}
}

func wantDoError(t *testing.T, w api.World, m api.Move, wantError api.Errno) {
	t.Helper()
	wantDo(t, w, m, api.World{}, wantError)
}

// wantBehind asks for what the chapter's words make of a move, and whether that world may be.
func wantBehind(t *testing.T, w api.World, m api.Move) (api.World, api.Errno) {
	next, e := behind(w, m)
	if got, gotError := decree.Do(w, m); gotError != e || !same(got, next) {
		t.Helper()
		want(t, "Do("+show(w)+", "+showMove(m)+")", got, gotError, next, e)
	}
	if e == api.OK && (!mayBe(next) || decree.Check(next) != api.OK) {
		t.Helper()
		t.Errorf("behind %s: %s may not be", showMove(m), show(next))
	}
	return next, e
}

func wantRun(t *testing.T, members []int, l []api.Move, wantWorld api.World, wantError api.Errno) {
	t.Helper()
	got, e := decree.Run(members, l)
	want(t, fmt.Sprint("Run(", brief(fmt.Sprint(members)), ", ", len(l), " moves)"), got, e, wantWorld, wantError)
}

func wantCheck(t *testing.T, w api.World, wantError api.Errno) {
	if e := decree.Check(w); e != wantError {
		t.Helper()
		t.Errorf("Check(%s) = %d; want %d", show(w), e, wantError)
	}
}

// wantMay asks of a world that may be.
func wantMay(t *testing.T, w api.World) {
	t.Helper()
	wantCheck(t, w, api.OK)
	wantBehind(t, w, api.Move{Kind: api.MoveCrash, Node: 3})
}

// wantNone asks all calls of a world that may not be, with moves that may be and others.
func wantNone(t *testing.T, w api.World) {
	t.Helper()
	wantCheck(t, w, api.ErrBad)
	for kind := range uint8(7) {
		wantDoError(t, w, api.Move{Kind: kind}, api.ErrBad)
		wantDoError(t, w, api.Move{Kind: kind, Node: -1, At: -1, Value: long(1025)}, api.ErrBad)
		wantDoError(t, w, api.Move{Kind: kind, Node: 6, At: math.MaxInt, Value: "x"}, api.ErrBad)
	}
}

func show(w api.World) string {
	s := fmt.Sprint("{", brief(fmt.Sprint(w.Members)), " votes")
	for _, v := range w.Votes {
		s += fmt.Sprint(" ", v.Promised, "|", v.Ballot, brief(v.Value))
	}
	s += " tries"
	for _, a := range w.Tries {
		s += fmt.Sprint(" ", a.Phase, "|", a.Ballot, a.Members, brief(a.Wish), brief(a.Value), nodesOf(a.Promises), a.Accepted)
	}
	s += fmt.Sprint(" ", len(w.Mail), " pieces of mail")
	for _, m := range w.Mail[:min(len(w.Mail), 12)] {
		s += " " + showMail(m)
	}
	s += fmt.Sprint(" ", len(w.Chosen), " chosen")
	for _, c := range w.Chosen[:min(len(w.Chosen), 5)] {
		s += fmt.Sprint(" ", c.Node, brief(c.Value))
	}
	return s + "}"
}

func showMail(m api.Mail) string {
	s := fmt.Sprint(m.From, ">", m.To, ":", m.Kind, "|", m.Ballot, "|", m.Prior, brief(m.Value))
	if m.Group != 0 || m.Slot != 0 || m.Id != 0 || m.Time != 0 {
		s += fmt.Sprint("(", m.Group, m.Slot, m.Id, m.Time, ")")
	}
	return s
}

func showMove(m api.Move) string {
	return fmt.Sprint("[", m.Kind, " node ", m.Node, " at ", m.At, " ", brief(m.Value), "]")
}

func brief(value string) string {
	if len(value) > 20 {
		return strconv.Quote(value[:20]) + ".. of " + strconv.Itoa(len(value)) + " bytes"
	}
	return strconv.Quote(value)
}

func long(bytes int) string { return strings.Repeat("v", bytes) }

// p is a promise, and none are promises of nodes that had accepted nothing.
func p(node, ballot int, value string) api.Promise {
	return api.Promise{Node: node, Ballot: ballot, Value: value}
}

func none(nodes ...int) (l []api.Promise) {
	for _, n := range nodes {
		l = append(l, p(n, 0, ""))
	}
	return l
}

// prepare, promise, accept, taken and refuse are mail with what its kind names.
func prepare(from, to, ballot int) api.Mail {
	return api.Mail{From: from, To: to, Kind: api.MailPrepare, Ballot: ballot}
}

func promise(from, to, ballot, prior int, value string) api.Mail {
	return api.Mail{From: from, To: to, Kind: api.MailPromise, Ballot: ballot, Prior: prior, Value: value}
}

func accept(from, to, ballot int, value string) api.Mail {
	return api.Mail{From: from, To: to, Kind: api.MailAccept, Ballot: ballot, Value: value}
}

func taken(from, to, ballot int) api.Mail {
	return api.Mail{From: from, To: to, Kind: api.MailTaken, Ballot: ballot}
}

func refuse(from, to, ballot, prior int) api.Mail {
	return api.Mail{From: from, To: to, Kind: api.MailRefuse, Ballot: ballot, Prior: prior}
}

// begin, deliver, twice, drop and crash are moves with what they name.
func begin(node int, wish string) api.Move {
	return api.Move{Kind: api.MoveBegin, Node: node, Value: wish}
}

func deliver(at int) api.Move { return api.Move{Kind: api.MoveDeliver, At: at} }
func twice(at int) api.Move   { return api.Move{Kind: api.MoveCopy, At: at} }
func drop(at int) api.Move    { return api.Move{Kind: api.MoveDrop, At: at} }
func crash(node int) api.Move { return api.Move{Kind: api.MoveCrash, Node: node} }

// beginning is a world at its beginning.
func beginning(members ...int) api.World {
	return api.World{Members: members, Votes: make([]api.Vote, 6), Tries: make([]api.Attempt, 6)}
}

// busy is a world of the members 0, 1 and 2 with attempts in all phases, votes and mail of all kinds, and something chosen.
func busy() api.World {
	members := func() []int { return []int{0, 1, 2} }
	return api.World{
		Members: members(),
		Votes: []api.Vote{
			{Promised: 16}, {Promised: 17, Ballot: 9, Value: "x"}, {Promised: 18, Ballot: 18, Value: "y"},
			{}, {Promised: 17}, {Promised: 13},
		},
		Tries: []api.Attempt{
			{Phase: api.PhaseAsk, Ballot: 16, Members: members(), Wish: "w", Promises: none(0)},
			{Phase: api.PhaseTell, Ballot: 17, Members: members(), Wish: "v", Value: "x", Promises: []api.Promise{p(0, 0, ""), p(1, 9, "x")}, Accepted: []int{1}},
			{Phase: api.PhaseChosen, Ballot: 18, Members: members(), Wish: "u", Value: "y", Promises: []api.Promise{p(0, 8, "y"), p(2, 0, "")}, Accepted: []int{0, 2}},
			{}, {},
			{Phase: api.PhaseAsk, Ballot: 13, Members: members(), Wish: "z"},
		},
		Mail: []api.Mail{
			prepare(0, 1, 16), promise(2, 0, 16, 10, "t"), accept(1, 2, 17, "x"), taken(0, 1, 17), refuse(2, 1, 17, 18), prepare(5, 4, 13), taken(1, 2, 18),
		},
		Chosen: []api.Choice{{Node: 2, Value: "y"}},
	}
}

// filled is a world with so much mail behind its own that there are as many pieces as asked for; that mail does nothing.
func filled(w api.World, pieces int) api.World {
	w = plain(w)
	for len(w.Mail) < pieces {
		w.Mail = append(w.Mail, refuse(len(w.Mail)%6, len(w.Mail)/6%6, 8, len(w.Mail)))
	}
	return w
}

// found is a world with so many choices behind its own.
func found(w api.World, choices int) api.World {
	w = plain(w)
	for len(w.Chosen) < choices {
		w.Chosen = append(w.Chosen, api.Choice{Node: len(w.Chosen) % 6, Value: strconv.Itoa(len(w.Chosen))})
	}
	return w
}

// valuesThatMayBe are of none to 1,024 bytes; some have fewer runes than bytes, and some no runes at all.
func valuesThatMayBe() []string {
	return []string{"", "x", "\x00", "\xff", "news of the town", long(1023), long(1024), strings.Repeat("é", 512), strings.Repeat("\xff", 1024)}
}

// valuesTooLong are of more; the runes of some are few enough.
func valuesTooLong() []string {
	return []string{long(1025), long(1026), long(4096), long(1 << 20), strings.Repeat("é", 513), strings.Repeat("\xff", 1025), strings.Repeat("\x00", 1025)}
}

func TestChapterExamples(t *testing.T) {
	moves := []api.Move{begin(0, "x")}
	asked := beginning(0, 1, 2)
	asked.Votes[0].Promised = 8
	asked.Tries[0] = api.Attempt{Phase: api.PhaseAsk, Ballot: 8, Members: []int{0, 1, 2}, Wish: "x", Promises: none(0)}
	asked.Mail = []api.Mail{prepare(0, 1, 8), prepare(0, 2, 8)}
	wantRun(t, []int{0, 1, 2}, moves, asked, api.OK)

	moves = append(moves, deliver(0), deliver(1))
	told := changed(asked, func(w *api.World) {
		w.Votes[0] = api.Vote{Promised: 8, Ballot: 8, Value: "x"}
		w.Votes[1].Promised = 8
		w.Tries[0] = api.Attempt{Phase: api.PhaseTell, Ballot: 8, Members: []int{0, 1, 2}, Wish: "x", Value: "x", Promises: none(0, 1), Accepted: []int{0}}
		w.Mail = []api.Mail{prepare(0, 2, 8), accept(0, 1, 8, "x"), accept(0, 2, 8, "x")}
	})
	wantRun(t, []int{0, 1, 2}, moves, told, api.OK)

	moves = append(moves, deliver(1), deliver(2))
	chosen := changed(told, func(w *api.World) {
		w.Votes[1] = api.Vote{Promised: 8, Ballot: 8, Value: "x"}
		w.Tries[0].Phase, w.Tries[0].Accepted = api.PhaseChosen, []int{0, 1}
		w.Mail = []api.Mail{prepare(0, 2, 8), accept(0, 2, 8, "x")}
		w.Chosen = []api.Choice{{Node: 0, Value: "x"}}
	})
	wantRun(t, []int{0, 1, 2}, moves, chosen, api.OK)

	moves = append(moves, begin(2, "y"), deliver(2), deliver(2), deliver(2), deliver(2), deliver(2), deliver(2), deliver(2), deliver(2))
	again := changed(chosen, func(w *api.World) {
		w.Votes = []api.Vote{{Promised: 10, Ballot: 10, Value: "x"}, {Promised: 10, Ballot: 10, Value: "x"}, {Promised: 10, Ballot: 10, Value: "x"}, {}, {}, {}}
		w.Tries[2] = api.Attempt{Phase: api.PhaseChosen, Ballot: 10, Members: []int{0, 1, 2}, Wish: "y", Value: "x", Promises: []api.Promise{p(0, 8, "x"), p(2, 0, "")}, Accepted: []int{0, 1, 2}}
		w.Chosen = append(w.Chosen, api.Choice{Node: 2, Value: "x"})
	})
	wantRun(t, []int{0, 1, 2}, moves, again, api.OK)
}

func TestP91New(t *testing.T) {
	for _, members := range allMembers() {
		w := beginning(members...)
		wantNew(t, members, w, api.OK)
		wantCheck(t, w, api.OK)
		wantRun(t, members, nil, w, api.OK)
		for at := -1; at < 2; at++ {
			for _, m := range []api.Move{deliver(at), twice(at), drop(at)} {
				wantDoError(t, w, m, api.ErrNone)
			}
		}
		for node := range 6 {
			wantDo(t, w, crash(node), w, api.OK)
		}
	}
}

func TestP91NewAndWrongMembers(t *testing.T) {
	for _, members := range wrongMembers() {
		wantNew(t, members, api.World{}, api.ErrQuorum)
	}
	for _, members := range tooManyMembers() {
		wantNew(t, members, api.World{}, api.ErrMany)
	}
}

func TestP91NothingAtAllIsNoWorld(t *testing.T) {
	wantNone(t, api.World{})
	wantNone(t, api.World{Members: []int{0}})
	wantNone(t, api.World{Members: []int{0}, Votes: make([]api.Vote, 6)})
	wantNone(t, api.World{Members: []int{0}, Tries: make([]api.Attempt, 6)})
	wantNone(t, api.World{Votes: make([]api.Vote, 6), Tries: make([]api.Attempt, 6)})
	wantMay(t, api.World{Members: []int{0}, Votes: make([]api.Vote, 6), Tries: make([]api.Attempt, 6)})
	wantMay(t, busy())
}

func TestP91Members(t *testing.T) {
	for _, members := range append(wrongMembers(), tooManyMembers()...) {
		wantNone(t, beginning(members...))
		wantNone(t, changed(busy(), func(w *api.World) { w.Members = members }))
	}
}

func TestP91SixVotesAndSixAttempts(t *testing.T) {
	for _, w := range []api.World{beginning(0, 1, 2), busy()} {
		for _, many := range []int{0, 1, 5, 7, 12, 1000, 1 << 16} {
			votes, tries := make([]api.Vote, many), make([]api.Attempt, many)
			copy(votes, w.Votes)
			copy(tries, w.Tries)
			wantNone(t, changed(w, func(w *api.World) { w.Votes = votes }))
			wantNone(t, changed(w, func(w *api.World) { w.Tries = tries }))
			wantNone(t, changed(w, func(w *api.World) { w.Votes, w.Tries = votes, tries }))
		}
	}
}

func TestP91Votes(t *testing.T) {
	votes := []api.Vote{{}, {Value: "x"}, {Ballot: 8}, {Ballot: 8, Value: "x"}, {Promised: 17, Value: "x"}}
	for _, ballot := range append(noBallots(), first, 12, last) {
		votes = append(votes, api.Vote{Promised: ballot}, api.Vote{Promised: last, Ballot: ballot}, api.Vote{Promised: 16, Ballot: ballot}, api.Vote{Promised: ballot, Ballot: ballot})
	}
	for _, value := range append(valuesThatMayBe(), valuesTooLong()...) {
		votes = append(votes, api.Vote{Promised: 17, Ballot: 9, Value: value})
	}
	may := 0
	for _, v := range votes {
		for node := range 6 {
			w := changed(beginning(1, 4), func(w *api.World) { w.Votes[node] = v })
			if isVote(v) {
				may++
				wantMay(t, w)
			} else {
				wantNone(t, w)
			}
		}
	}
	if may < 60 {
		t.Error(may)
	}
}

// TestP91Attempts lays an attempt in the place of each node's: its own, another one's, such as may not be, and such as are of other members.
func TestP91Attempts(t *testing.T) {
	members := []int{0, 1, 2}
	for _, w := range []api.World{beginning(0, 1, 2), busy()} {
		for node := range 6 {
			for ballot := 8; ballot < 22; ballot++ {
				for _, a := range []api.Attempt{
					{Phase: api.PhaseAsk, Ballot: ballot, Members: members, Wish: "w"},
					{Phase: api.PhaseTell, Ballot: ballot, Members: members, Wish: "w", Value: "w", Promises: none(0, 2), Accepted: []int{1}},
					{Phase: api.PhaseChosen, Ballot: ballot, Members: members, Wish: "w", Value: "w", Promises: none(0, 2), Accepted: []int{1, 2}},
				} {
					other := changed(w, func(w *api.World) { w.Tries[node] = a })
					if ballot%8 == node {
						wantMay(t, other)
					} else {
						wantNone(t, other)
					}
				}
			}
		}
	}
}

func TestP91AttemptsOfOtherMembers(t *testing.T) {
	for _, members := range append(allMembers(), nil) {
		for node := range 6 {
			w := changed(beginning(0, 2, 4), func(w *api.World) {
				w.Tries[node] = api.Attempt{Phase: api.PhaseAsk, Ballot: 16 + node, Members: members, Wish: "w"}
			})
			if slices.Equal(members, []int{0, 2, 4}) {
				wantMay(t, w)
			} else {
				wantNone(t, w)
			}
		}
	}
	for _, members := range [][]int{{0, 1, 2, 3, 4}, {0, 2, 3, 4}, {0, 1, 2}} {
		wantNone(t, changed(beginning(0, 2, 4), func(w *api.World) {
			w.Tries[2] = api.Attempt{Phase: api.PhaseTell, Ballot: 18, Members: members, Wish: "w", Value: "w", Promises: none(members...)}
		}))
	}
}

func TestP91AttemptsThatMayNotBe(t *testing.T) {
	changes := []func(*api.Attempt){
		func(a *api.Attempt) { a.Phase++ },
		func(a *api.Attempt) { a.Phase-- },
		func(a *api.Attempt) { a.Phase = 255 },
		func(a *api.Attempt) { a.Ballot = 0 },
		func(a *api.Attempt) { a.Ballot = a.Ballot%8 - 8 },
		func(a *api.Attempt) { a.Ballot = a.Ballot%8 + 8*(api.MaxRound+1) },
		func(a *api.Attempt) { a.Members = nil },
		func(a *api.Attempt) { a.Wish = long(1025) },
		func(a *api.Attempt) { a.Value += "\x00" },
		func(a *api.Attempt) { a.Promises = append(a.Promises, p(2, 0, ""), p(2, 0, "")) },
		func(a *api.Attempt) { a.Promises = append(a.Promises, p(2, 26, "x")) },
		func(a *api.Attempt) { a.Promises = append([]api.Promise{p(-1, 0, "")}, a.Promises...) },
		func(a *api.Attempt) { a.Accepted = append(a.Accepted, 3) },
		func(a *api.Attempt) { a.Accepted = []int{2, 1} },
	}
	for _, node := range []int{0, 1, 2, 5} {
		for i, change := range changes {
			w := changed(busy(), func(w *api.World) { change(&w.Tries[node]) })
			if isAttempt(w.Tries[node]) {
				t.Error(node, i)
			}
			wantNone(t, w)
		}
	}
	for node := range 6 {
		for _, a := range []api.Attempt{{Ballot: 8 + node}, {Members: []int{0, 1, 2}}, {Wish: "w"}, {Value: "x"}, {Promises: none(0)}, {Accepted: []int{0}}, {Phase: 1}, {Phase: 2}, {Phase: 3}, {Phase: 4}} {
			wantNone(t, changed(busy(), func(w *api.World) { w.Tries[node] = a }))
		}
	}
}

// mailThatMayNotBe are changes of mail that may be, by one field alone.
func mailThatMayNotBe() (l []func(*api.Mail)) {
	for _, n := range strangers() {
		l = append(l, func(m *api.Mail) { m.From = n }, func(m *api.Mail) { m.To = n })
	}
	for _, n := range []int{math.MinInt, -1, 1, 2, 5, 1 << 32, math.MaxInt} {
		l = append(l, func(m *api.Mail) { m.Group = n }, func(m *api.Mail) { m.Slot = n }, func(m *api.Mail) { m.Id = n }, func(m *api.Mail) { m.Time = n })
	}
	for _, kind := range []uint8{0, 6, 7, 8, 9, 10, 128, 255} {
		l = append(l, func(m *api.Mail) { m.Kind = kind })
	}
	for _, ballot := range noBallots() {
		l = append(l, func(m *api.Mail) { m.Ballot = ballot })
	}
	for _, prior := range []int{math.MinInt, math.MinInt + 1, -1 << 32, -8, -1} {
		l = append(l, func(m *api.Mail) { m.Prior = prior })
	}
	for _, value := range valuesTooLong() {
		l = append(l, func(m *api.Mail) { m.Value = value })
	}
	return l
}

// TestP91Mail changes one field of each piece of mail: of the first one, the last one, and those in the middle, of all kinds.
func TestP91Mail(t *testing.T) {
	for i, change := range mailThatMayNotBe() {
		for at := range busy().Mail {
			w := changed(busy(), func(w *api.World) { change(&w.Mail[at]) })
			if isMail(w.Mail[at]) {
				t.Error(i, at)
			}
			wantNone(t, w)
		}
	}
}

// TestP91MailThatMayBe has fields that a kind doesn't name, mail from a node to itself, and numbers that are no ballots as Prior.
func TestP91MailThatMayBe(t *testing.T) {
	for kind := uint8(1); kind <= 5; kind++ {
		for from := range 6 {
			for to := range 6 {
				wantMay(t, changed(busy(), func(w *api.World) {
					w.Mail = append(w.Mail, api.Mail{From: from, To: to, Kind: kind, Ballot: 13, Prior: 7, Value: "x"})
				}))
			}
		}
		for _, ballot := range []int{first, 9, 13, 16, 8000, last - 8, last} {
			for _, prior := range []int{0, 1, 7, 8, 14, ballot, last + 1, math.MaxInt} {
				wantMay(t, changed(beginning(3), func(w *api.World) {
					w.Mail = []api.Mail{{From: 4, To: 3, Kind: kind, Ballot: ballot, Prior: prior}}
				}))
			}
		}
		for _, value := range valuesThatMayBe() {
			wantMay(t, changed(busy(), func(w *api.World) { w.Mail[2].Kind, w.Mail[2].Value = kind, value }))
		}
	}
}

func TestP91Choices(t *testing.T) {
	three := found(beginning(0, 1), 3)
	wantMay(t, three)
	for at := range 3 {
		for _, n := range strangers() {
			wantNone(t, changed(three, func(w *api.World) { w.Chosen[at].Node = n }))
		}
		for _, value := range valuesTooLong() {
			wantNone(t, changed(three, func(w *api.World) { w.Chosen[at].Value = value }))
		}
		for _, value := range valuesThatMayBe() {
			wantMay(t, changed(three, func(w *api.World) { w.Chosen[at].Value = value }))
		}
		for node := range 6 {
			wantMay(t, changed(three, func(w *api.World) { w.Chosen[at].Node = node }))
		}
	}
}

func TestP91ManyPiecesOfMailAndChoices(t *testing.T) {
	for _, w := range []api.World{beginning(0, 1), busy()} {
		for _, many := range []int{999, 1000} {
			wantMay(t, filled(w, many))
			wantMay(t, found(w, many))
			wantMay(t, found(filled(w, many), many))
		}
		for _, many := range []int{1001, 1002, 2000, 1 << 16} {
			wantNone(t, filled(w, many))
			wantNone(t, found(w, many))
		}
	}
	last := changed(filled(busy(), 1000), func(w *api.World) { w.Mail[999].Time = 1 })
	wantNone(t, last)
	wantNone(t, changed(found(busy(), 1000), func(w *api.World) { w.Chosen[999].Node = 6 }))
}

// anyOnes may be, or not; no two of them are the same.
func anyOnes() []api.World {
	l := []api.World{{}, beginning(0, 1, 2), busy()}
	changes := []func(*api.World){
		func(w *api.World) { w.Members = append(w.Members, 9) },
		func(w *api.World) { w.Members = append([]int{-1}, w.Members...) },
		func(w *api.World) { w.Votes = append(w.Votes, api.Vote{}) },
		func(w *api.World) { w.Votes = append(w.Votes, api.Vote{Promised: -1, Ballot: 9, Value: long(1025)}) },
		func(w *api.World) { w.Votes = append([]api.Vote{{Promised: 7}}, w.Votes...) },
		func(w *api.World) { w.Tries = append(w.Tries, api.Attempt{}) },
		func(w *api.World) { w.Tries = append(w.Tries, api.Attempt{Phase: 9}) },
		func(w *api.World) { w.Tries = append(w.Tries, api.Attempt{Accepted: []int{-1, -1}}) },
		func(w *api.World) { w.Tries = append([]api.Attempt{{Wish: "w"}}, w.Tries...) },
		func(w *api.World) { w.Mail = append(w.Mail, api.Mail{}) },
		func(w *api.World) { w.Mail = append(w.Mail, api.Mail{From: math.MinInt, To: math.MaxInt}) },
		func(w *api.World) { w.Mail = append([]api.Mail{{Time: 1}}, w.Mail...) },
		func(w *api.World) { w.Mail = make([]api.Mail, 1001) },
		func(w *api.World) { w.Chosen = append(w.Chosen, api.Choice{}) },
		func(w *api.World) { w.Chosen = append(w.Chosen, api.Choice{Node: -1, Value: long(1025)}) },
		func(w *api.World) { w.Chosen = append([]api.Choice{{Value: "x"}}, w.Chosen...) },
	}
	for _, w := range l[:3] {
		for _, change := range changes {
			l = append(l, changed(w, change))
		}
	}
	return l
}

func TestP91SameOfAnyOnes(t *testing.T) {
	l := anyOnes()
	for i, a := range l {
		for j, b := range l {
			if got := decree.Same(a, b); got != (i == j) {
				t.Errorf("Same(%s, %s) = %t", show(a), show(b), got)
			}
		}
		if !decree.Same(a, plain(a)) || !decree.Same(plain(a), a) {
			t.Errorf("Same(%s, one in other memory) = false", show(a))
		}
	}
}

func TestP91SameOfListsWithoutElements(t *testing.T) {
	empty := api.World{Members: []int{}, Votes: []api.Vote{}, Tries: []api.Attempt{}, Mail: []api.Mail{}, Chosen: make([]api.Choice, 0, 5)}
	if !decree.Same(api.World{}, empty) || !decree.Same(empty, api.World{}) {
		t.Error("nil and empty lists are not the same")
	}
	a := api.World{Tries: []api.Attempt{{}}}
	b := api.World{Tries: []api.Attempt{{Members: []int{}, Promises: []api.Promise{}, Accepted: []int{}}}}
	if !decree.Same(a, b) || !decree.Same(b, a) {
		t.Error("nil and empty lists of attempts are not the same")
	}
}

// TestP91SameLooksAtEachElement changes one field of one element of each list, at each place.
func TestP91SameLooksAtEachElement(t *testing.T) {
	try := api.Attempt{Members: []int{1}, Promises: none(1), Accepted: []int{1}}
	a := api.World{Members: make([]int, 3), Votes: make([]api.Vote, 3), Tries: []api.Attempt{try, try, try}, Mail: make([]api.Mail, 3), Chosen: make([]api.Choice, 3)}
	for i := range 3 {
		for _, change := range []func(*api.World){
			func(w *api.World) { w.Members[i] = 9 },
			func(w *api.World) { w.Votes[i].Promised = 9 }, func(w *api.World) { w.Votes[i].Ballot = 9 }, func(w *api.World) { w.Votes[i].Value = "9" },
			func(w *api.World) { w.Tries[i].Phase = 9 }, func(w *api.World) { w.Tries[i].Ballot = 9 }, func(w *api.World) { w.Tries[i].Wish = "9" },
			func(w *api.World) { w.Tries[i].Value = "9" }, func(w *api.World) { w.Tries[i].Members[0] = 9 },
			func(w *api.World) { w.Tries[i].Promises[0].Node = 9 }, func(w *api.World) { w.Tries[i].Promises[0].Ballot = 9 },
			func(w *api.World) { w.Tries[i].Promises[0].Value = "9" }, func(w *api.World) { w.Tries[i].Accepted[0] = 9 },
			func(w *api.World) { w.Mail[i].From = 9 }, func(w *api.World) { w.Mail[i].To = 9 }, func(w *api.World) { w.Mail[i].Kind = 9 },
			func(w *api.World) { w.Mail[i].Group = 9 }, func(w *api.World) { w.Mail[i].Slot = 9 }, func(w *api.World) { w.Mail[i].Ballot = 9 },
			func(w *api.World) { w.Mail[i].Prior = 9 }, func(w *api.World) { w.Mail[i].Value = "9" },
			func(w *api.World) { w.Mail[i].Id = 9 }, func(w *api.World) { w.Mail[i].Time = 9 },
			func(w *api.World) { w.Chosen[i].Node = 9 }, func(w *api.World) { w.Chosen[i].Value = "9" },
			func(w *api.World) { w.Members = w.Members[:i] }, func(w *api.World) { w.Votes = w.Votes[:i] }, func(w *api.World) { w.Tries = w.Tries[:i] },
			func(w *api.World) { w.Mail = w.Mail[:i] }, func(w *api.World) { w.Chosen = w.Chosen[:i] },
		} {
			if b := changed(a, change); decree.Same(a, b) || decree.Same(b, a) {
				t.Errorf("Same(%s, %s) = true", show(a), show(b))
			}
		}
	}
}

func TestP91TwinOfAnyOnes(t *testing.T) {
	for _, w := range anyOnes() {
		want(t, "Twin of "+show(w), decree.Twin(w), api.OK, w, api.OK)
	}
}

// TestP92BeginOfAllMembers lets each node begin, whether it is a member or not.
func TestP92BeginOfAllMembers(t *testing.T) {
	for _, members := range allMembers() {
		for node := range 6 {
			w := beginning(members...)
			w.Votes[node].Promised = 8 + node
			w.Tries[node] = api.Attempt{Phase: api.PhaseAsk, Ballot: 8 + node, Members: members, Wish: "w"}
			for _, to := range members {
				if to != node {
					w.Mail = append(w.Mail, prepare(node, to, 8+node))
				}
			}
			if slices.Contains(members, node) {
				w.Tries[node].Promises = none(node)
			}
			if slices.Equal(members, []int{node}) {
				w.Votes[node] = api.Vote{Promised: 8 + node, Ballot: 8 + node, Value: "w"}
				w.Tries[node].Phase, w.Tries[node].Value, w.Tries[node].Accepted = api.PhaseChosen, "w", []int{node}
				w.Chosen = []api.Choice{{Node: node, Value: "w"}}
			}
			wantDo(t, beginning(members...), begin(node, "w"), w, api.OK)
			wantRun(t, members, []api.Move{begin(node, "w")}, w, api.OK)
		}
	}
}

// TestP92BeginAboveWhatWasPromised begins by the least ballot above it, be that the node's own or another one's.
func TestP92BeginAboveWhatWasPromised(t *testing.T) {
	promised := []int{0, 8, 9, 10, 11, 12, 13, 16, 17, 18, 21, 24, 8000, 8005}
	for b := last - 21; b <= last; b++ {
		if isBallot(b) {
			promised = append(promised, b)
		}
	}
	for _, above := range promised {
		for node := range 6 {
			w := changed(beginning(0, 1), func(w *api.World) { w.Votes[node].Promised = above })
			ballot := 8 + node
			if above > 0 {
				ballot = above/8*8 + node
			}
			if ballot <= above {
				ballot += 8
			}
			if ballot > last {
				wantDoError(t, w, begin(node, "w"), api.ErrFull)
				continue
			}
			got, e := wantBehind(t, w, begin(node, "w"))
			if e != api.OK || got.Votes[node].Promised != ballot || got.Tries[node].Ballot != ballot || got.Mail[0].Ballot != ballot {
				t.Error(above, node, ballot, show(got), e)
			}
		}
	}
	wantDoError(t, changed(beginning(0, 1), func(w *api.World) { w.Votes[1].Promised = last }), begin(1, "w"), api.ErrFull)
	wantDoError(t, changed(beginning(0, 1), func(w *api.World) { w.Votes[0].Promised = last - 5 }), begin(0, "w"), api.ErrFull)
	wantBehind(t, changed(beginning(0, 1), func(w *api.World) { w.Votes[0].Promised = last - 8 }), begin(0, "w"))
}

// TestP92OwnPromiseBesideWhatWasAccepted begins where a node had accepted something: it promises that to itself, and alone it tells it.
func TestP92OwnPromiseBesideWhatWasAccepted(t *testing.T) {
	had := api.Vote{Promised: 17, Ballot: 9, Value: "x"}
	w := changed(beginning(0, 2, 4), func(w *api.World) { w.Votes[2] = had })
	wantDo(t, w, begin(2, "w"), changed(w, func(w *api.World) {
		w.Votes[2] = api.Vote{Promised: 18, Ballot: 9, Value: "x"}
		w.Tries[2] = api.Attempt{Phase: api.PhaseAsk, Ballot: 18, Members: []int{0, 2, 4}, Wish: "w", Promises: []api.Promise{p(2, 9, "x")}}
		w.Mail = []api.Mail{prepare(2, 0, 18), prepare(2, 4, 18)}
	}), api.OK)
	for _, value := range []string{"", "x", long(1024)} {
		w = changed(beginning(2), func(w *api.World) { w.Votes[2] = api.Vote{Promised: 17, Ballot: 17, Value: value} })
		wantDo(t, w, begin(2, "w"), changed(w, func(w *api.World) {
			w.Votes[2] = api.Vote{Promised: 18, Ballot: 18, Value: value}
			w.Tries[2] = api.Attempt{Phase: api.PhaseChosen, Ballot: 18, Members: []int{2}, Wish: "w", Value: value, Promises: []api.Promise{p(2, 17, value)}, Accepted: []int{2}}
			w.Chosen = []api.Choice{{Node: 2, Value: value}}
		}), api.OK)
	}
	// A node that is no member promises nothing to itself.
	w = changed(beginning(0, 4), func(w *api.World) { w.Votes[2] = had })
	wantDo(t, w, begin(2, "w"), changed(w, func(w *api.World) {
		w.Votes[2] = api.Vote{Promised: 18, Ballot: 9, Value: "x"}
		w.Tries[2] = api.Attempt{Phase: api.PhaseAsk, Ballot: 18, Members: []int{0, 4}, Wish: "w"}
		w.Mail = []api.Mail{prepare(2, 0, 18), prepare(2, 4, 18)}
	}), api.OK)
}

func TestP92Wishes(t *testing.T) {
	for _, value := range valuesThatMayBe() {
		for _, w := range []api.World{beginning(0, 1, 2), beginning(1), busy()} {
			for node := range 6 {
				got, e := wantBehind(t, w, begin(node, value))
				if e != api.OK || got.Tries[node].Wish != value {
					t.Error(node, brief(value), e)
				}
			}
		}
	}
	for _, value := range valuesTooLong() {
		for _, w := range []api.World{beginning(0, 1, 2), beginning(1), busy()} {
			for node := range 6 {
				wantDoError(t, w, begin(node, value), api.ErrText)
			}
		}
	}
}

// TestP92BeginAgain begins in each phase, behind a crash, and behind a choice; what was under way, and what was found, stays.
func TestP92BeginAgain(t *testing.T) {
	w := busy()
	for node, ballot := range []int{24, 25, 26, 11, 20, 21} {
		prior := p(node, w.Votes[node].Ballot, w.Votes[node].Value)
		next := changed(w, func(w *api.World) {
			w.Votes[node].Promised = ballot
			w.Tries[node] = api.Attempt{Phase: api.PhaseAsk, Ballot: ballot, Members: []int{0, 1, 2}, Wish: "again"}
			if node < 3 {
				w.Tries[node].Promises = []api.Promise{prior}
			}
			for _, to := range []int{0, 1, 2} {
				if to != node {
					w.Mail = append(w.Mail, prepare(node, to, ballot))
				}
			}
		})
		wantDo(t, w, begin(node, "again"), next, api.OK)
		down := changed(w, func(w *api.World) { w.Tries[node] = api.Attempt{} })
		wantDo(t, w, crash(node), down, api.OK)
		wantDo(t, down, begin(node, "again"), next, api.OK)
		wantDo(t, down, crash(node), down, api.OK)
	}
}

// TestP92AloneAgain lets the only member begin again and again: each time it finds the first wish chosen.
func TestP92AloneAgain(t *testing.T) {
	w := beginning(5)
	for i := range 5 {
		ballot := 13 + 8*i
		next := changed(w, func(w *api.World) {
			w.Votes[5] = api.Vote{Promised: ballot, Ballot: ballot, Value: "0"}
			w.Tries[5] = api.Attempt{Phase: api.PhaseChosen, Ballot: ballot, Members: []int{5}, Wish: strconv.Itoa(i), Value: "0", Promises: none(5), Accepted: []int{5}}
			if i > 0 {
				w.Tries[5].Promises = []api.Promise{p(5, ballot-8, "0")}
			}
			w.Chosen = append(w.Chosen, api.Choice{Node: 5, Value: "0"})
		})
		wantDo(t, w, begin(5, strconv.Itoa(i)), next, api.OK)
		w = next
		if i == 2 {
			w = changed(next, func(w *api.World) { w.Tries[5] = api.Attempt{} })
			wantDo(t, next, crash(5), w, api.OK)
		}
	}
}

// TestP92WhichMailIsTaken takes each of some: it goes, or stays, and the others stand as they stood, with what is new behind them.
func TestP92WhichMailIsTaken(t *testing.T) {
	w := beginning(0, 1, 2, 3, 4)
	for i := range 5 {
		w.Mail = append(w.Mail, prepare(5, i, 13))
	}
	for at := range 5 {
		rest := slices.Concat(w.Mail[:at], w.Mail[at+1:])
		came := promise(at, 5, 13, 0, "")
		wantDo(t, w, drop(at), changed(w, func(w *api.World) { w.Mail = rest }), api.OK)
		next := changed(w, func(w *api.World) {
			w.Votes[at].Promised = 13
			w.Mail = append(slices.Clone(rest), came)
		})
		wantDo(t, w, deliver(at), next, api.OK)
		next.Mail = append(slices.Clone(w.Mail), came)
		wantDo(t, w, twice(at), next, api.OK)
		wantDo(t, next, twice(at), changed(next, func(w *api.World) { w.Mail = append(w.Mail, came) }), api.OK)
		wantDo(t, next, deliver(at), changed(next, func(w *api.World) { w.Mail = append(slices.Clone(rest), came, came) }), api.OK)
	}
	for _, m := range []api.Mail{prepare(5, 0, 13), promise(0, 1, 9, 0, ""), accept(5, 0, 13, "x"), taken(0, 1, 9), refuse(0, 1, 9, 13)} {
		one := changed(beginning(0, 1, 2), func(w *api.World) { w.Mail = []api.Mail{m} })
		wantDo(t, one, drop(0), beginning(0, 1, 2), api.OK)
	}
}

func TestP92Prepare(t *testing.T) {
	for _, members := range [][]int{{0, 1, 2}, {0, 2}} { // of the latter node 1 is none
		w := changed(beginning(members...), func(w *api.World) {
			w.Votes[1] = api.Vote{Promised: 17, Ballot: 9, Value: "x"}
			w.Mail = []api.Mail{prepare(2, 1, 18), prepare(1, 1, 17), prepare(3, 1, 11)}
		})
		wantDo(t, w, deliver(0), changed(w, func(w *api.World) {
			w.Votes[1].Promised = 18
			w.Mail = []api.Mail{prepare(1, 1, 17), prepare(3, 1, 11), promise(1, 2, 18, 9, "x")}
		}), api.OK)
		wantDo(t, w, deliver(1), changed(w, func(w *api.World) {
			w.Mail = []api.Mail{prepare(2, 1, 18), prepare(3, 1, 11), promise(1, 1, 17, 9, "x")}
		}), api.OK)
		wantDo(t, w, deliver(2), changed(w, func(w *api.World) {
			w.Mail = []api.Mail{prepare(2, 1, 18), prepare(1, 1, 17), refuse(1, 3, 11, 17)}
		}), api.OK)
	}
}

func TestP92Accept(t *testing.T) {
	for _, members := range [][]int{{0, 1, 2}, {0, 2}} {
		w := changed(beginning(members...), func(w *api.World) {
			w.Votes[1] = api.Vote{Promised: 17, Ballot: 9, Value: "x"}
			w.Mail = []api.Mail{accept(2, 1, 18, "y"), accept(0, 1, 17, long(1024)), accept(3, 1, 11, "z")}
		})
		wantDo(t, w, deliver(0), changed(w, func(w *api.World) {
			w.Votes[1] = api.Vote{Promised: 18, Ballot: 18, Value: "y"}
			w.Mail = append(w.Mail[1:], taken(1, 2, 18))
		}), api.OK)
		wantDo(t, w, deliver(1), changed(w, func(w *api.World) {
			w.Votes[1] = api.Vote{Promised: 17, Ballot: 17, Value: long(1024)}
			w.Mail = []api.Mail{w.Mail[0], w.Mail[2], taken(1, 0, 17)}
		}), api.OK)
		wantDo(t, w, deliver(2), changed(w, func(w *api.World) {
			w.Mail = append(w.Mail[:2], refuse(1, 3, 11, 17))
		}), api.OK)
	}
}

// TestP92WhatMailDoesNotName has a Prior and a Value where the kind names none: what goes back has nothing of them.
func TestP92WhatMailDoesNotName(t *testing.T) {
	for _, to := range []int{1, 4} {
		w := changed(beginning(0, 1, 2), func(w *api.World) {
			w.Mail = []api.Mail{
				{From: 0, To: to, Kind: api.MailPrepare, Ballot: 16, Prior: 9, Value: "prior"},
				{From: 0, To: to, Kind: api.MailAccept, Ballot: 16, Prior: 9, Value: "y"},
			}
		})
		wantDo(t, w, deliver(0), changed(w, func(w *api.World) {
			w.Votes[to].Promised = 16
			w.Mail = append(w.Mail[1:], promise(to, 0, 16, 0, ""))
		}), api.OK)
		wantDo(t, w, deliver(1), changed(w, func(w *api.World) {
			w.Votes[to] = api.Vote{Promised: 16, Ballot: 16, Value: "y"}
			w.Mail = append(w.Mail[:1], taken(to, 0, 16))
		}), api.OK)
		w.Votes[to] = api.Vote{Promised: 17, Ballot: 17, Value: "z"}
		for at := range 2 {
			wantDo(t, w, twice(at), changed(w, func(w *api.World) { w.Mail = append(w.Mail, refuse(to, 0, 16, 17)) }), api.OK)
		}
	}
	told := changed(busy(), func(w *api.World) {
		w.Mail = []api.Mail{{From: 0, To: 1, Kind: api.MailTaken, Ballot: 17, Prior: 9, Value: "other"}}
	})
	wantDo(t, told, deliver(0), changed(told, func(w *api.World) {
		w.Tries[1].Phase, w.Tries[1].Accepted, w.Mail = api.PhaseChosen, []int{0, 1}, nil
		w.Chosen = append(w.Chosen, api.Choice{Node: 1, Value: "x"})
	}), api.OK)
}

// asking is a world of five members where a node asks and has the promises of two, and other mail is under way with the third one's amid it.
func asking(node, ballot int, third api.Mail) api.World {
	w := beginning(0, 1, 2, 3, 4)
	w.Votes[node] = api.Vote{Promised: ballot}
	w.Tries[node] = api.Attempt{Phase: api.PhaseAsk, Ballot: ballot, Members: []int{0, 1, 2, 3, 4}, Wish: "w", Promises: []api.Promise{p(1, 8, "x"), p(3, 0, "")}}
	w.Mail = []api.Mail{refuse(0, 1, 8, 9), third, refuse(1, 0, 8, 10)}
	return w
}

// TestP92ANodeTells has its mail stand behind all other, rising; a member accepts by itself, one that is none doesn't.
func TestP92ANodeTells(t *testing.T) {
	for node := range 6 {
		ballot := 24 + node
		w := asking(node, ballot, promise(4, node, ballot, 16, "y"))
		next := changed(w, func(w *api.World) {
			a := &w.Tries[node]
			a.Phase, a.Value, a.Promises = api.PhaseTell, "y", append(a.Promises, p(4, 16, "y"))
			w.Mail = append(w.Mail[:1], w.Mail[2])
			for to := range 5 {
				if to != node {
					w.Mail = append(w.Mail, accept(node, to, ballot, "y"))
				}
			}
			if node < 5 {
				w.Votes[node] = api.Vote{Promised: ballot, Ballot: ballot, Value: "y"}
				a.Accepted = []int{node}
			}
		})
		wantDo(t, w, deliver(1), next, api.OK)
	}
}

// TestP92AVoteThatRefusesItsOwn has a node promise a greater ballot since it asked: it tells all others, and accepts nothing itself.
func TestP92AVoteThatRefusesItsOwn(t *testing.T) {
	for _, vote := range []api.Vote{{Promised: 28}, {Promised: 32, Ballot: 32, Value: "z"}, {Promised: last, Ballot: 16, Value: "z"}} {
		w := asking(2, 26, promise(4, 2, 26, 0, ""))
		w.Votes[2] = vote
		wantDo(t, w, deliver(1), changed(w, func(w *api.World) {
			w.Tries[2].Phase, w.Tries[2].Value, w.Tries[2].Promises = api.PhaseTell, "x", append(w.Tries[2].Promises, p(4, 0, ""))
			w.Mail = []api.Mail{w.Mail[0], w.Mail[2], accept(2, 0, 26, "x"), accept(2, 1, 26, "x"), accept(2, 3, 26, "x"), accept(2, 4, 26, "x")}
		}), api.OK)
	}
	// Alone by its Members, and asking by a ballot below its vote's: its promise comes by mail, and nothing is chosen by that.
	w := beginning(3)
	w.Votes[3].Promised = 19
	w.Tries[3] = api.Attempt{Phase: api.PhaseAsk, Ballot: 11, Members: []int{3}, Wish: "w"}
	w.Mail = []api.Mail{promise(3, 3, 11, 0, "")}
	wantDo(t, w, deliver(0), changed(w, func(w *api.World) {
		w.Tries[3].Phase, w.Tries[3].Value, w.Tries[3].Promises, w.Mail = api.PhaseTell, "w", none(3), nil
	}), api.OK)
	w.Votes[3].Promised = 11
	wantDo(t, w, deliver(0), changed(w, func(w *api.World) {
		w.Votes[3] = api.Vote{Promised: 11, Ballot: 11, Value: "w"}
		w.Tries[3] = api.Attempt{Phase: api.PhaseChosen, Ballot: 11, Members: []int{3}, Wish: "w", Value: "w", Promises: none(3), Accepted: []int{3}}
		w.Mail, w.Chosen = nil, []api.Choice{{Node: 3, Value: "w"}}
	}), api.OK)
}

// TestP92PromisesThatDoNothing are of a ballot that isn't asked for, of nodes that are none, come again, or may not be.
func TestP92PromisesThatDoNothing(t *testing.T) {
	for _, m := range []api.Mail{
		promise(4, 2, 18, 0, ""), promise(4, 2, 25, 0, ""), promise(4, 2, 34, 0, ""), promise(5, 2, 26, 0, ""), promise(5, 2, 26, 16, "y"),
		promise(1, 2, 26, 8, "x"), promise(1, 2, 26, 0, ""), promise(3, 2, 26, 16, "y"),
		promise(4, 2, 26, 0, "y"), promise(4, 2, 26, 7, "y"), promise(4, 2, 26, 14, ""), promise(4, 2, 26, 26, "y"), promise(4, 2, 26, 32, "y"), promise(4, 2, 26, math.MaxInt, ""),
		promise(4, 0, 26, 0, ""), promise(4, 4, 26, 0, ""), promise(2, 5, 26, 0, ""),
		taken(4, 2, 26), taken(4, 0, 26), refuse(4, 2, 26, 32), refuse(4, 2, 34, 8), refuse(4, 5, 26, 32),
	} {
		w := asking(2, 26, m)
		wantDo(t, w, deliver(1), changed(w, func(w *api.World) { w.Mail = slices.Delete(w.Mail, 1, 2) }), api.OK)
		wantDo(t, w, twice(1), w, api.OK)
	}
}

// TestP92Taken lets acceptances come, of those who promised and others, again, and behind the choice: it is found once.
func TestP92Taken(t *testing.T) {
	w := beginning(0, 1, 2, 3, 4)
	w.Tries[5] = api.Attempt{Phase: api.PhaseTell, Ballot: 21, Members: []int{0, 1, 2, 3, 4}, Wish: "w", Value: "w", Promises: none(0, 1, 2)}
	steps := []struct {
		from, ballot int
		accepted     []int
		phase        uint8
	}{{4, 21, []int{4}, 2}, {4, 21, []int{4}, 2}, {5, 21, []int{4}, 2}, {1, 13, []int{4}, 2}, {1, 29, []int{4}, 2}, {0, 21, []int{0, 4}, 2}, {0, 21, []int{0, 4}, 2}, {3, 21, []int{0, 3, 4}, 3}, {3, 21, []int{0, 3, 4}, 3}, {1, 21, []int{0, 1, 3, 4}, 3}, {2, 20, []int{0, 1, 3, 4}, 3}, {2, 21, []int{0, 1, 2, 3, 4}, 3}}
	for _, s := range steps {
		w.Mail = []api.Mail{taken(s.from, 5, s.ballot)}
		next := changed(w, func(w *api.World) {
			w.Tries[5].Accepted, w.Tries[5].Phase, w.Mail = s.accepted, s.phase, nil
			if s.phase == 3 {
				w.Chosen = []api.Choice{{Node: 5, Value: "w"}}
			}
		})
		wantDo(t, w, deliver(0), next, api.OK)
		w = next
	}
}

// inPhase is a node's attempt that came so far: one piece of mail leads it on.
func inPhase(members []int, phase uint8, ballot int) api.Attempt {
	need := len(members)/2 + 1
	a := api.Attempt{Phase: phase, Ballot: ballot, Members: members, Wish: "w"}
	switch phase {
	case api.PhaseNone:
		return api.Attempt{}
	case api.PhaseAsk:
		a.Promises = none(members[:need-1]...)
	case api.PhaseTell:
		a.Promises, a.Accepted, a.Value = none(members[:need]...), members[:need-1], "w"
	case api.PhaseChosen:
		a.Promises, a.Accepted, a.Value = none(members[:need]...), members[:need], "w"
	}
	return a
}

// TestP92AllMailInAllPhases lets mail of each kind come to a node in each phase, of its ballot, a lesser and a greater one, beside some votes.
func TestP92AllMailInAllPhases(t *testing.T) {
	votes := []api.Vote{{}, {Promised: 17}, {Promised: 17, Ballot: 9, Value: "x"}, {Promised: 17, Ballot: 17, Value: "w"}, {Promised: 18, Ballot: 18, Value: "z"}, {Promised: 16, Ballot: 16, Value: ""}}
	phases := map[[2]uint8]int{}
	for _, members := range [][]int{{1}, {4}, {0, 1}, {0, 1, 2}, {0, 2, 4}, {0, 1, 2, 3, 4}, {0, 1, 2, 3, 4, 5}} {
		for phase := range uint8(4) {
			for _, vote := range votes {
				w := beginning(members...)
				w.Votes[1], w.Tries[1] = vote, inPhase(members, phase, 17)
				wantMay(t, w)
				for kind := uint8(1); kind <= 5; kind++ {
					for _, ballot := range []int{9, 16, 17, 18, 25} {
						for _, from := range []int{0, 1, 2, 4, 5} {
							for _, prior := range []int{0, 7, 8, 16, 17, math.MaxInt} {
								for _, value := range []string{"", "y"} {
									w.Mail = []api.Mail{{From: from, To: 1, Kind: kind, Ballot: ballot, Prior: prior, Value: value}}
									next, _ := wantBehind(t, w, deliver(0))
									phases[[2]uint8{phase, next.Tries[1].Phase}]++
								}
							}
						}
					}
				}
			}
		}
	}
	for from := range uint8(4) {
		for to := range uint8(4) {
			if led := phases[[2]uint8{from, to}] > 0; led != (from == to || from > 0 && to == from+1 || from == 1 && to == 3) {
				t.Error(from, to, led)
			}
		}
	}
}

func TestP92RoomForMail(t *testing.T) {
	six := beginning(0, 1, 2, 3, 4, 5)
	ask := changed(six, func(w *api.World) {
		w.Votes[2].Promised = 18
		w.Tries[2] = inPhase([]int{0, 1, 2, 3, 4, 5}, api.PhaseAsk, 18)
		w.Mail = []api.Mail{promise(5, 2, 18, 0, "")}
	})
	mail := func(m api.Mail) api.World {
		return changed(six, func(w *api.World) { w.Votes[1].Promised, w.Mail = 9, []api.Mail{m} })
	}
	for i, c := range []struct {
		w    api.World
		m    api.Move
		most int // so many pieces may be under way ahead of it
	}{
		{six, begin(2, "w"), 995}, {beginning(0, 1, 3), begin(1, "w"), 998}, {beginning(0, 1, 3), begin(2, "w"), 997}, {beginning(4), begin(4, "w"), 1000}, {beginning(4), begin(3, "w"), 999},
		{ask, deliver(0), 996}, {ask, twice(0), 995}, {ask, drop(0), 1000},
		{mail(prepare(0, 1, 16)), deliver(0), 1000}, {mail(prepare(0, 1, 16)), twice(0), 999}, {mail(prepare(0, 1, 8)), deliver(0), 1000}, {mail(prepare(0, 1, 8)), twice(0), 999},
		{mail(accept(0, 1, 16, "x")), deliver(0), 1000}, {mail(accept(0, 1, 16, "x")), twice(0), 999}, {mail(accept(0, 1, 8, "x")), twice(0), 999},
		{mail(taken(0, 1, 16)), twice(0), 1000}, {mail(refuse(0, 1, 16, 17)), twice(0), 1000}, {mail(promise(0, 1, 16, 0, "")), twice(0), 1000}, {six, crash(3), 1000},
	} {
		for many := c.most - 2; many <= 1000; many++ {
			next, e := wantBehind(t, filled(c.w, many), c.m)
			if (e == api.OK) != (many <= c.most) || e == api.OK && len(next.Mail) > 1000 {
				t.Error(i, many, e)
			}
			if many > c.most {
				wantDoError(t, filled(c.w, many), c.m, api.ErrFull)
			}
		}
	}
}

func TestP92RoomForChoices(t *testing.T) {
	tell := changed(beginning(0, 1, 2), func(w *api.World) {
		w.Tries[2] = inPhase([]int{0, 1, 2}, api.PhaseTell, 18)
		w.Mail = []api.Mail{taken(1, 2, 18), taken(0, 2, 18)}
	})
	done := changed(tell, func(w *api.World) { w.Tries[2] = inPhase([]int{0, 1, 2}, api.PhaseChosen, 18) })
	for i, c := range []struct {
		w    api.World
		m    api.Move
		most int
	}{
		{beginning(4), begin(4, "w"), 999}, {tell, deliver(0), 999}, {tell, twice(0), 999}, {tell, deliver(1), 1000}, {tell, drop(0), 1000},
		{done, deliver(0), 1000}, {done, twice(1), 1000}, {done, begin(2, "w"), 1000}, {done, crash(2), 1000},
	} {
		for many := 998; many <= 1000; many++ {
			next, e := wantBehind(t, found(c.w, many), c.m)
			if (e == api.OK) != (many <= c.most) || e == api.OK && c.most == 999 && len(next.Chosen) != many+1 {
				t.Error(i, many, e)
			}
			if many > c.most {
				wantDoError(t, found(c.w, many), c.m, api.ErrFull)
			}
		}
	}
}

func TestP92Kinds(t *testing.T) {
	for _, w := range []api.World{beginning(0, 1), busy()} {
		for kind := range 256 {
			if kind >= 1 && kind <= 5 {
				wantBehind(t, w, api.Move{Kind: uint8(kind)})
				continue
			}
			for _, m := range []api.Move{{}, {Node: 6}, {At: -1}, {At: 1 << 20}, {Value: long(1025)}, {Node: -1, At: math.MinInt, Value: long(1025)}} {
				m.Kind = uint8(kind)
				wantDoError(t, w, m, api.ErrArg)
			}
		}
	}
}

func TestP92NodesAndPlaces(t *testing.T) {
	for _, w := range []api.World{beginning(0, 1), busy(), filled(busy(), 1000)} {
		for _, n := range strangers() {
			wantDoError(t, w, begin(n, "w"), api.ErrArg)
			wantDoError(t, w, crash(n), api.ErrArg)
		}
		for _, at := range []int{math.MinInt, math.MinInt + 1, -1 << 32, -6, -1, len(w.Mail), len(w.Mail) + 1, 1000, 1001, 1 << 32, math.MaxInt - 1, math.MaxInt} {
			for _, m := range []api.Move{deliver(at), twice(at), drop(at)} {
				wantDoError(t, w, m, api.ErrNone)
			}
		}
		for at := range w.Mail {
			wantBehind(t, w, deliver(at))
			wantBehind(t, w, twice(at))
			wantBehind(t, w, drop(at))
		}
	}
}

// TestP92OrderOfErrors has several things wrong at once: in wantNone the world with the rest, here the rest.
func TestP92OrderOfErrors(t *testing.T) {
	none := changed(filled(beginning(0, 1), 1000), func(w *api.World) { w.Votes[5].Promised = last })
	wantDoError(t, none, api.Move{Kind: 6, Node: 6, At: -1, Value: long(1025)}, api.ErrArg)
	wantDoError(t, none, begin(6, long(1025)), api.ErrArg)
	wantDoError(t, none, begin(-1, "w"), api.ErrArg)
	wantDoError(t, none, begin(5, long(1025)), api.ErrText)
	wantDoError(t, none, begin(0, long(1025)), api.ErrText)
	wantDoError(t, none, begin(5, "w"), api.ErrFull)
	wantDoError(t, none, begin(0, "w"), api.ErrFull)
	wantDoError(t, none, deliver(1000), api.ErrNone)
	wantDoError(t, none, api.Move{Kind: api.MoveCrash, Node: 6, Value: long(1025)}, api.ErrArg)
}

// TestP92WhatIsNotNamedCountsForNothing gives moves what they don't name, be it right or wrong.
func TestP92WhatIsNotNamedCountsForNothing(t *testing.T) {
	for _, w := range []api.World{beginning(0, 1), busy()} {
		for _, m := range []api.Move{begin(0, "w"), begin(2, ""), deliver(0), deliver(3), twice(1), twice(6), drop(0), drop(4), crash(0), crash(2), begin(7, "w"), drop(-1), crash(-1)} {
			next, e := behind(w, m)
			for _, n := range append(strangers(), 0, 2, 5) {
				for _, value := range []string{"", "y", long(1024), long(1025), long(1 << 16)} {
					other := m
					switch m.Kind {
					case api.MoveBegin:
						other.At = n
					case api.MoveCrash:
						other.At, other.Value = n, value
					default:
						other.Node, other.Value = n, value
					}
					wantDo(t, w, other, next, e)
				}
			}
		}
	}
}

// TestP92Crash lets a node crash: its vote stays, and all else.
func TestP92Crash(t *testing.T) {
	for _, w := range []api.World{busy(), found(filled(busy(), 1000), 1000)} {
		for node := range 6 {
			next := changed(w, func(w *api.World) { w.Tries[node] = api.Attempt{} })
			wantDo(t, w, crash(node), next, api.OK)
			wantDo(t, next, crash(node), next, api.OK)
		}
	}
}

func TestP93WrongMembersAndTooManyMoves(t *testing.T) {
	some := []api.Move{begin(0, "w"), {}, deliver(0)}
	for _, l := range [][]api.Move{nil, {}, some, make([]api.Move, 1001), make([]api.Move, 1<<20)} {
		for _, members := range wrongMembers() {
			wantRun(t, members, l, api.World{}, api.ErrQuorum)
		}
		for _, members := range tooManyMembers() {
			wantRun(t, members, l, api.World{}, api.ErrMany)
		}
	}
	for _, many := range []int{1001, 1002, 2000, 1 << 20} {
		for _, members := range [][]int{{0}, {0, 1, 2}, {0, 1, 2, 3, 4, 5}} {
			wantRun(t, members, make([]api.Move, many), api.World{}, api.ErrMany)
		}
	}
	wantRun(t, []int{2}, slices.Repeat([]api.Move{begin(2, "w")}, 1001), api.World{}, api.ErrMany)
}

// TestP93ManyMoves lets a node that is alone begin so often that each move leaves a choice.
func TestP93ManyMoves(t *testing.T) {
	for _, many := range []int{0, 1, 2, 998, 999, 1000} {
		w := beginning(3)
		if many > 0 {
			w.Votes[3] = api.Vote{Promised: 3 + 8*many, Ballot: 3 + 8*many, Value: "w"}
			w.Tries[3] = api.Attempt{Phase: api.PhaseChosen, Ballot: 3 + 8*many, Members: []int{3}, Wish: "w", Value: "w", Promises: none(3), Accepted: []int{3}}
		}
		if many > 1 {
			w.Tries[3].Promises = []api.Promise{p(3, 3+8*(many-1), "w")}
		}
		w.Chosen = slices.Repeat([]api.Choice{{Node: 3, Value: "w"}}, many)
		wantRun(t, []int{3}, slices.Repeat([]api.Move{begin(3, "w")}, many), w, api.OK)
	}
	full, _ := decree.Run([]int{3}, slices.Repeat([]api.Move{begin(3, "w")}, 1000))
	wantDoError(t, full, begin(3, "w"), api.ErrFull)
	// Nodes that begin leave five or six pieces of mail each: those for whom there is no room leave nothing.
	l := slices.Repeat([]api.Move{begin(0, "w")}, 300)
	w, e := decree.Run([]int{0, 1, 2, 3, 4, 5}, l)
	if e != api.OK || len(w.Mail) != 1000 || w.Votes[0].Promised != 8*200 || w.Tries[0].Ballot != 8*200 {
		t.Error(show(w), e)
	}
}

// TestP93ARefusedMoveChangesNothing lays refused moves between others, at each place.
func TestP93ARefusedMoveChangesNothing(t *testing.T) {
	l := []api.Move{begin(1, "x"), begin(5, "y"), deliver(0), deliver(1), twice(0), crash(5), drop(1), deliver(2), begin(0, "z"), deliver(3), deliver(2)}
	w := beginning(0, 1, 2)
	for _, m := range l {
		next, e := behind(w, m)
		if e != api.OK {
			t.Fatal(showMove(m), e)
		}
		w = next
	}
	wantRun(t, []int{0, 1, 2}, l, w, api.OK)
	for at := range len(l) + 1 {
		for _, m := range []api.Move{{}, {Kind: 6}, begin(6, "q"), begin(-1, "q"), begin(0, long(1025)), deliver(-1), deliver(99), twice(99), drop(math.MaxInt), crash(6)} {
			wantRun(t, []int{0, 1, 2}, slices.Insert(slices.Clone(l), at, m), w, api.OK)
			wantRun(t, []int{0, 1, 2}, slices.Insert(slices.Clone(l), at, m, m), w, api.OK)
		}
	}
	wantRun(t, []int{0, 1, 2}, []api.Move{{}, deliver(0), begin(9, "w"), crash(-1)}, beginning(0, 1, 2), api.OK)
}
