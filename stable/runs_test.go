package stable_test

import (
	"fmt"
	"reflect"
	"slices"
	"strconv"
	"testing"

	"towncrier/api"
	"towncrier/attempt"
	"towncrier/ballot"
	"towncrier/disk"
	"towncrier/stable"
	"towncrier/wal"
)

// spare is what lasts, in memory of its own, in lists that have room behind them, with something in it.
func spare(s api.Stable) api.Stable {
	s.Logs = append(slices.Clone(s.Logs), []string{"room"}, []string{"room"})[:len(s.Logs)]
	for group, log := range s.Logs {
		s.Logs[group] = append(slices.Clone(log), "room", "room", "room")[:len(log)]
	}
	room := promised(77, 77, 77)
	s.Votes = append(slices.Clone(s.Votes), room, room, room)[:len(s.Votes)]
	return s
}

// whole is what lasts with what stands behind its lists, in memory of its own.
func whole(s api.Stable) api.Stable {
	s.Logs = slices.Clone(s.Logs[:cap(s.Logs)])
	for group, log := range s.Logs {
		s.Logs[group] = log[:cap(log)]
	}
	s.Votes = s.Votes[:cap(s.Votes)]
	return plain(s)
}

// area is the memory of a list, its room too.
type area struct{ from, to uintptr }

func areasOf(lists ...any) (l []area) {
	for _, list := range lists {
		v := reflect.ValueOf(list)
		if size := uintptr(v.Cap()) * v.Type().Elem().Size(); size > 0 {
			l = append(l, area{v.Pointer(), v.Pointer() + size})
		}
	}
	return l
}

func areas(s api.Stable) []area {
	l := areasOf(s.Logs, s.Votes)
	for _, log := range s.Logs {
		l = append(l, areasOf(log)...)
	}
	return l
}

// wantApart asks that no two lists of what is answered share memory, nor one of it with one of what was handed in.
func wantApart(t *testing.T, call string, in, got []area) {
	t.Helper()
	for i, a := range got {
		for _, b := range append(got[:i:i], in...) {
			if a.from < b.to && b.from < a.to {
				t.Errorf("%s: lists of the answer share memory, or with what was handed in", call)
				return
			}
		}
	}
}

// wantRead asks that a call changes nothing of what it is handed, and answers new memory.
func wantRead(t *testing.T, call string, s api.Stable, do func(api.Stable) []area) {
	t.Helper()
	in := spare(s)
	before := whole(in)
	got := do(in)
	if !same(whole(in), before) {
		t.Errorf("%s of %s wrote into it: %s", call, show(before), show(whole(in)))
	}
	wantApart(t, call, areas(in), got)
}

// someRecords change what lasts in each way: a vote more at the front, between and behind the others, one that is there, one less; or they are refused.
func someRecords() (l []api.Record) {
	for group := range 4 {
		for _, slot := range []int{1, 2, 3, 4, 5, 199, 200} {
			l = append(l, promise(group, slot, 8), promise(group, slot, 32), accept(group, slot, 33, "x"), accept(group, slot, last, ""), decide(group, slot, "x"))
		}
	}
	return append(l, api.Record{}, promise(0, 0, 8))
}

func TestP114WhatIsHandedInIsOnlyRead(t *testing.T) {
	for _, s := range append(samples(), anyOnes()...) {
		wantRead(t, "Twin", s, func(s api.Stable) []area { return areas(stable.Twin(s)) })
		wantRead(t, "Check, Same, At and Image", s, func(s api.Stable) []area {
			stable.Check(s)
			stable.Same(s, s)
			stable.At(s, 0, 5)
			l, _ := stable.Image(s)
			return areasOf(l)
		})
		for _, r := range someRecords() {
			wantRead(t, "Apply of "+showRecord(r), s, func(s api.Stable) []area {
				got, _ := stable.Apply(s, r)
				return areas(got)
			})
		}
	}
}

// TestP114WhatIsAnsweredMayBeWrittenOver does records behind which hardly anything changes, and writes over what is answered, its room too.
func TestP114WhatIsAnsweredMayBeWrittenOver(t *testing.T) {
	for _, s := range samples() {
		before := plain(s)
		for _, r := range []api.Record{promise(0, 3, 17), promise(1, 4, 8), accept(1, 1, 8, ""), promise(0, 200, last), decide(1, 1, "x")} {
			got, _ := stable.Apply(s, r)
			again, _ := stable.Apply(s, r)
			answered := plain(again)
			spoil(got)
			if !same(s, before) || !same(again, answered) {
				t.Error(showRecord(r), show(s), show(again))
			}
		}
		twin := stable.Twin(s)
		spoil(twin)
		if !same(s, before) {
			t.Error("Twin", show(s))
		}
	}
	for range 2 {
		got, e := stable.New(3)
		want(t, "New", got, e, empty(3), api.OK)
		spoil(got)
		l := textsOf(shortest(busy()))
		got, e = stable.Replay(4, l)
		want(t, "Replay", got, e, busy(), api.OK)
		spoil(got)
		image, _ := stable.Image(busy())
		clear(image[:cap(image)])
	}
}

// spoil writes over all that the lists have, with what is behind them.
func spoil(s api.Stable) {
	s.Votes = s.Votes[:cap(s.Votes)]
	for i := range s.Votes {
		s.Votes[i] = promised(-5, -5, -5)
	}
	s.Logs = s.Logs[:cap(s.Logs)]
	for group, log := range s.Logs {
		log = log[:cap(log)]
		for i := range log {
			log[i] = "spoilt"
		}
		s.Logs[group] = []string{"spoilt"}
	}
}

// TestP114OneListInManyPlaces hands in logs that are one list, and some that begin others, with no room behind them that is free.
func TestP114OneListInManyPlaces(t *testing.T) {
	l := filled(5)
	s := api.Stable{Logs: [][]string{l, l[:2], l, l[:4]}, Votes: []api.Seen{promised(1, 3, 8), promised(1, 5, 8), promised(2, 6, 8)}}
	before := plain(s)
	wantApart(t, "Twin", areas(s), areas(stable.Twin(s)))
	for _, r := range []api.Record{decide(0, 6, "x"), decide(1, 3, "x"), decide(2, 6, "x"), decide(3, 5, "x"), promise(1, 4, 8), promise(3, 5, 8)} {
		next, _ := behind(before, r)
		got, e := stable.Apply(s, r)
		want(t, "Apply of "+showRecord(r), got, e, next, api.OK)
		wantApart(t, "Apply of "+showRecord(r), areas(s), areas(got))
		if !same(s, before) {
			t.Fatal(showRecord(r), show(s))
		}
	}
}

// TestP114ReplayReadsItsTexts hands in texts, with room behind them.
func TestP114ReplayReadsItsTexts(t *testing.T) {
	texts := textsOf(shortest(busy()))
	l := append(slices.Clone(texts), "room", "room")[:len(texts)]
	before := slices.Clone(l[:cap(l)])
	for range 2 {
		got, e := stable.Replay(4, l)
		want(t, "Replay", got, e, busy(), api.OK)
		wantApart(t, "Replay", areasOf(l), areas(got))
		if !slices.Equal(l[:cap(l)], before) {
			t.Error("Replay wrote into its texts")
		}
	}
	_, e := stable.Replay(2, l)
	if e != api.ErrNone || !slices.Equal(l[:cap(l)], before) {
		t.Error(e)
	}
}

// TestR2CallsKeepNothing asks one thing ahead of others and behind them.
func TestR2CallsKeepNothing(t *testing.T) {
	for range 3 {
		wantNew(t, 2, empty(2), api.OK)
		wantBehind(t, busy(), promise(0, 4, 17))
		wantBehind(t, busy(), decide(0, 3, "x"))
		wantReplay(t, 2, []string{textOf(promise(1, 1, 8))}, api.Stable{Logs: make([][]string, 2), Votes: []api.Seen{promised(1, 1, 8)}}, api.OK)
		wantReplayError(t, 2, []string{textOf(promise(1, 1, 8)), ""}, api.ErrBad)
		wantReplay(t, 2, nil, empty(2), api.OK)
		wantImage(t, busy())
		wantAt(t, busy(), 0, 4, api.Vote{}, api.OK)
	}
}

// dice tell the same numbers each time.
type dice uint64

func (d *dice) below(n int) int {
	*d = *d*6364136223846793005 + 1442695040888963407
	return int(*d>>33) % n
}

// record is any one, more often than not one that is taken.
func (d *dice) record(s api.Stable) api.Record {
	group := d.below(len(s.Logs))
	if d.below(20) == 0 {
		group = d.below(5)
	}
	next := 1
	if group < len(s.Logs) {
		next = len(s.Logs[group]) + 1
	}
	slot := min(200, next+d.below(4))
	if d.below(15) == 0 {
		slot = next - 1
	}
	value := values()[d.below(6)]
	switch d.below(7) {
	case 0, 1, 2:
		return promise(group, slot, 8+8*d.below(12)+d.below(7))
	case 3, 4:
		return accept(group, slot, 8+8*d.below(12)+d.below(6), value)
	case 5:
		return decide(group, slot, value)
	}
	return decide(group, next, value)
}

// TestP115ManyRuns does many records one behind the other, and asks behind each all that follows.
func TestP115ManyRuns(t *testing.T) {
	d := dice(1)
	taken, refused := 0, 0
	for run := range 60 {
		groups := run%4 + 1
		s, e := stable.New(groups)
		if e != api.OK {
			t.Fatal(groups, e)
		}
		var texts []string
		for range 60 {
			r := d.record(s)
			next, e := wantBehind(t, s, r)
			if e != api.OK {
				refused++
				wantReplayError(t, groups, append(slices.Clone(texts), textOf(r)), e)
				continue
			}
			taken++
			wantGrown(t, s, next)
			s, texts = next, append(texts, textOf(r))
			wantCheck(t, s, api.OK)
			wantReplay(t, groups, texts, s, api.OK)
			wantImage(t, s)
			if image, _ := stable.Image(s); len(image) > len(texts) {
				t.Error("the shortest records are more than those that were done", len(image), len(texts))
			}
		}
		if t.Failed() {
			return
		}
		wantSplit(t, groups, texts, s)
	}
	if taken < 1000 || refused < 500 {
		t.Error(taken, refused)
	}
}

// wantGrown asks that logs got no shorter, what stands in them stayed, and no vote fell but those whose slot is decided.
func wantGrown(t *testing.T, s, next api.Stable) {
	t.Helper()
	for group, log := range s.Logs {
		if len(next.Logs[group]) < len(log) || !slices.Equal(next.Logs[group][:len(log)], log) {
			t.Fatal("a log was changed", show(s), show(next))
		}
	}
	for _, v := range s.Votes {
		now, _ := there(next, v.Group, v.Slot)
		if v.Slot > len(next.Logs[v.Group]) && (now.Promised < v.Vote.Promised || now.Ballot < v.Vote.Ballot) {
			t.Fatal("a vote fell", show(s), show(next))
		}
	}
}

// wantSplit replays some first texts, and then does the others' records; and it does these behind the image of that too.
func wantSplit(t *testing.T, groups int, texts []string, all api.Stable) {
	t.Helper()
	for at := range len(texts) + 1 {
		s, e := stable.Replay(groups, texts[:at])
		image, imageError := stable.Image(s)
		if e != api.OK || imageError != api.OK {
			t.Fatal(at, e, imageError)
		}
		wantReplay(t, groups, append(image, texts[at:]...), all, api.OK)
		for _, text := range texts[at:] {
			if s, e = stable.Apply(s, recordOf(text)); e != api.OK {
				t.Fatal(at, e)
			}
		}
		want(t, fmt.Sprint("Replay of ", at, " texts and Apply of the others"), s, e, all, api.OK)
	}
}

// recordOf is the record of a short text, that may be.
func recordOf(text string) api.Record {
	var n []int
	at := 0
	for many := 4; len(n) < many; {
		one, by := 0, 1
		for ; text[at] >= 128; at++ {
			one, by = one+int(text[at]-128)*by, by*128
		}
		n, at = append(n, one+int(text[at])*by), at+1
		if n[0] == 2 {
			many = 5
		}
	}
	switch n[0] {
	case 1:
		return promise(n[1], n[2], n[3])
	case 2:
		return accept(n[1], n[2], n[3], text[at:])
	}
	return decide(n[1], n[2], text[at:])
}

// TestP115AllWaysOfFewRecords goes through all that five of some records make, taken or refused.
func TestP115AllWaysOfFewRecords(t *testing.T) {
	l := []api.Record{promise(0, 1, 16), promise(0, 2, 8), accept(0, 1, 8, "x"), accept(0, 2, 16, "y"), decide(0, 1, "x"), decide(0, 2, "y"), promise(1, 1, 8), accept(1, 2, 8, "z"), decide(1, 1, "z")}
	ways := 0
	var goOn func(s api.Stable, done []api.Record)
	goOn = func(s api.Stable, done []api.Record) {
		ways++
		if len(done) == 5 || t.Failed() {
			wantReplay(t, 2, textsOf(done), s, api.OK)
			wantImage(t, s)
			return
		}
		for _, r := range l {
			if next, e := wantBehind(t, s, r); e == api.OK {
				wantGrown(t, s, next)
				goOn(next, append(slices.Clip(done), r))
			}
		}
	}
	goOn(empty(2), nil)
	if ways < 5000 {
		t.Error(ways)
	}
}

// TestW2WhatLastsOutlivesACrash lets records wait on a disk that fails, wherever and however torn: what is made then is what some first ones make, those that lasted among them.
func TestW2WhatLastsOutlivesACrash(t *testing.T) {
	l := []api.Record{promise(0, 1, 8), accept(0, 1, 8, "hear ye"), promise(1, 3, 17), decide(0, 1, "hear ye"), promise(0, 2, 9), accept(1, 3, 25, "x"), decide(1, 1, ""), promise(1, 3, last), accept(0, 2, 17, long(1024)), decide(1, 2, long(500)), decide(1, 3, "x")}
	for lasts := range len(l) + 1 {
		d, _ := wal.Add(api.Disk{}, textsOf(l[:lasts]))
		d, _ = disk.Sync(d)
		d, e := wal.Add(d, textsOf(l[lasts:]))
		if e != api.OK {
			t.Fatal(e)
		}
		for keep := range len(l) - lasts + 1 {
			for _, torn := range []int{0, 1, 2, 4, 6, 600, 5000} {
				_, texts := opened(t, d, keep, torn)
				if len(texts) < lasts+keep || len(texts) > len(l) {
					t.Fatal(lasts, keep, torn, len(texts))
				}
				next, e := made(2, l[:len(texts)])
				wantReplay(t, 2, texts, next, e)
			}
		}
	}
}

// TestW2AnImageInThePlaceOfAllRecords lets the shortest records take the place of those that were written, on a disk that fails: either way the same is made, and what comes behind it is taken.
func TestW2AnImageInThePlaceOfAllRecords(t *testing.T) {
	l := []api.Record{promise(0, 1, 8), accept(0, 1, 8, "a"), promise(0, 1, 17), accept(0, 1, 17, "a"), decide(0, 1, "a"), promise(0, 2, 9), promise(0, 2, 18), accept(0, 3, 8, "b"), promise(0, 3, 16)}
	s, e := made(1, l)
	if e != api.OK {
		t.Fatal(e)
	}
	image, e := stable.Image(s)
	if len(image) != 4 || e != api.OK {
		t.Fatalf("%q, %d", image, e)
	}
	d, _ := wal.Add(api.Disk{}, textsOf(l))
	d, _ = disk.Sync(d)
	d, e = wal.Reset(d, image)
	if e != api.OK {
		t.Fatal(e)
	}
	for keep := range 2 {
		for _, torn := range []int{0, 1, 5, 5000} {
			d, texts := opened(t, d, keep, torn)
			wantReplay(t, 1, texts, s, api.OK)
			d, _ = wal.Add(d, []string{textOf(decide(0, 2, "c"))})
			_, texts = opened(t, d, 1, 0)
			next, _ := behind(s, decide(0, 2, "c"))
			wantReplay(t, 1, texts, next, api.OK)
		}
	}
}

// opened is a disk behind a crash, and its records.
func opened(t *testing.T, d api.Disk, keep, torn int) (api.Disk, []string) {
	t.Helper()
	d, e := disk.Crash(d, keep, torn)
	if e != api.OK {
		t.Fatal(keep, torn, e)
	}
	d, texts, e := wal.Open(d)
	if e != api.OK {
		t.Fatal(keep, torn, e)
	}
	return d, texts
}

// hall are nodes that decide one group's slots by what lasts of them alone: who falls down comes up by the texts of its records, or of its image.
type hall struct {
	t      *testing.T
	nodes  []api.Stable
	texts  [][]string
	chosen []string // of each slot that was decided, by whomever
}

// writes does a record to a node, if it is taken.
func (h *hall) writes(node int, r api.Record) bool {
	next, e := stable.Apply(h.nodes[node], r)
	if e != api.OK {
		return false
	}
	h.nodes[node], h.texts[node] = next, append(h.texts[node], textOf(r))
	return true
}

func (h *hall) falls(node int, byImage bool) {
	if byImage {
		h.texts[node], _ = stable.Image(h.nodes[node])
	}
	s, e := stable.Replay(1, h.texts[node])
	want(h.t, "what comes up again", s, e, h.nodes[node], api.OK)
	h.nodes[node] = s
}

// tries lets a node try its next slot with those whom it reaches; some of them it reaches no more when it tells them, or when it is decided.
func (h *hall) tries(d *dice, node int, wish string) {
	slot := len(h.nodes[node].Logs[0]) + 1
	v, _ := stable.At(h.nodes[node], 0, slot)
	by, e := ballot.Next(v.Promised, node)
	a, e2 := attempt.Begin([]int{0, 1, 2}, by, wish)
	if e != api.OK || e2 != api.OK {
		h.t.Fatal(e, e2)
	}
	for to := range 3 {
		had, _ := stable.At(h.nodes[to], 0, slot)
		if (to == node || d.below(4) > 0) && a.Phase == api.PhaseAsk && h.writes(to, promise(0, slot, by)) {
			a, _ = attempt.Promised(a, by, api.Promise{Node: to, Ballot: had.Ballot, Value: had.Value})
		}
	}
	if d.below(3) == 0 {
		h.falls(d.below(3), d.below(2) == 0)
	}
	for to := range 3 {
		if d.below(2) > 0 && a.Phase == api.PhaseTell && h.writes(to, accept(0, slot, by, a.Value)) {
			a, _ = attempt.Accepted(a, by, to)
		}
	}
	if a.Phase == api.PhaseChosen {
		h.decides(d, node, slot, a.Value)
	}
}

// decides lets a value be known that a majority accepted; no other one may ever have been so.
func (h *hall) decides(d *dice, node, slot int, value string) {
	if slot > len(h.chosen) {
		h.chosen = append(h.chosen, value)
	}
	if len(h.chosen) < slot || h.chosen[slot-1] != value {
		h.t.Fatalf("slot %d was decided in two ways: %s, and %q", slot, brief(value), h.chosen)
	}
	h.writes(node, decide(0, slot, value))
	h.writes(d.below(3), decide(0, slot, value))
}

// TestW3NoSlotIsDecidedTwice lets three nodes try slots, fall down and come up, many times over.
func TestW3NoSlotIsDecidedTwice(t *testing.T) {
	d, slotsDecided := dice(3), 0
	for run := range 300 {
		h := hall{t: t, nodes: []api.Stable{empty(1), empty(1), empty(1)}, texts: make([][]string, 3)}
		for turn := range 25 {
			h.tries(&d, d.below(3), strconv.Itoa(turn))
			if d.below(3) == 0 {
				h.falls(d.below(3), d.below(2) == 0)
			}
		}
		for node, s := range h.nodes {
			if log := s.Logs[0]; len(log) > len(h.chosen) || !slices.Equal(log, h.chosen[:len(log)]) {
				t.Fatal(run, node, log, h.chosen)
			}
		}
		slotsDecided += len(h.chosen)
	}
	if slotsDecided < 1000 {
		t.Error(slotsDecided)
	}
}

// TestW3WhatIsDecidedStays asks of each slot of a log whether anything else could come there.
func TestW3WhatIsDecidedStays(t *testing.T) {
	s := busy()
	for group, log := range s.Logs {
		for slot := 1; slot <= len(log); slot++ {
			for _, value := range []string{log[slot-1], "other", ""} {
				wantApplyError(t, s, decide(group, slot, value), api.ErrBad)
				wantApplyError(t, s, accept(group, slot, last, value), api.ErrBad)
			}
			wantApplyError(t, s, promise(group, slot, last), api.ErrBad)
		}
	}
}

func ExampleApply() {
	s, _ := stable.New(1)
	s, _ = stable.Apply(s, api.Record{Kind: api.RecAccept, Slot: 1, Ballot: 8, Value: "hear ye"})
	s, _ = stable.Apply(s, api.Record{Kind: api.RecPromise, Slot: 1, Ballot: 17})
	v, _ := stable.At(s, 0, 1)
	fmt.Println(v.Promised, v.Ballot, v.Value)
	_, e := stable.Apply(s, api.Record{Kind: api.RecAccept, Slot: 1, Ballot: 8, Value: "hear ye"})
	fmt.Println(e == api.ErrOld)
	s, _ = stable.Apply(s, api.Record{Kind: api.RecDecide, Slot: 1, Value: "hear ye"})
	fmt.Println(s.Logs, s.Votes)
	// Output:
	// 17 8 hear ye
	// true
	// [[hear ye]] []
}

func ExampleReplay() {
	s, _ := stable.Replay(1, []string{"\x01\x00\x01\x08", "\x02\x00\x01\x08\x02ye", "\x01\x00\x01\x11", "\x01\x00\x01\x19"})
	fmt.Println(s.Votes)
	l, _ := stable.Image(s)
	fmt.Printf("%q\n", l)
	_, e := stable.Replay(1, []string{"\x01\x01\x01\x08"})
	fmt.Println(e == api.ErrNone)
	// Output:
	// [{0 1 {25 8 ye}}]
	// ["\x02\x00\x01\b\x02ye" "\x01\x00\x01\x19"]
	// true
}
