package wal_test

import (
	"bytes"
	"fmt"
	"math"
	"slices"
	"strings"
	"testing"

	"towncrier/api"
	"towncrier/disk"
	"towncrier/frame"
	"towncrier/wal"
)

const maxJoin = 65536 // texts that frame.Join takes

func diskOf(data []byte, wait ...api.Put) api.Disk {
	return api.Disk{Data: data, Wait: wait}
}

func behind(b ...byte) api.Put {
	return api.Put{Data: b}
}

func instead(b ...byte) api.Put {
	return api.Put{Swap: true, Data: b}
}

// with is a disk on which more writes wait.
func with(d api.Disk, more ...api.Put) api.Disk {
	return diskOf(d.Data, append(slices.Clip(d.Wait), more...)...)
}

func text(long int) string {
	return strings.Repeat("x", long)
}

// frameOf tells the frame that is meant, without the packages' help; its text has at most 2^14 - 1 bytes.
func frameOf(s string) []byte {
	if len(s) < 128 {
		return append([]byte{byte(len(s))}, s...)
	}
	return append([]byte{byte(len(s)%128 + 128), byte(len(s) / 128)}, s...)
}

func framesOf(l ...string) []byte {
	var b []byte
	for _, s := range l {
		b = append(b, frameOf(s)...)
	}
	return b
}

// writesOf are the writes that Add is to let wait.
func writesOf(l []string) []api.Put {
	var w []api.Put
	for _, s := range l {
		w = append(w, behind(frameOf(s)...))
	}
	return w
}

// full are texts whose frames are MaxData bytes.
func full() []string {
	return slices.Repeat([]string{text(api.MaxFrame - 2)}, api.MaxData/api.MaxFrame)
}

// lists are of empty texts, of such as look like frames, of such that are no UTF-8, and of the longest.
func lists() [][]string {
	return [][]string{
		nil, {}, {""}, {"", ""}, {"a"}, {"bc", ""}, {"", "", "hear", "ye"},
		{"\x01a", "\x00", "\xff\x80", "\x80\x00\x05"},
		{text(127), text(128), "z"},
		{text(api.MaxFrame - 1), "", text(api.MaxFrame)},
	}
}

// tails are bytes with which no frame begins.
func tails() [][]byte {
	return [][]byte{
		{1}, {2, 97}, {127, 1, 97}, {128}, {128, 0}, {129, 0, 97}, {128, 0, 1, 97}, {255, 255, 255},
		append([]byte{129, 32}, text(api.MaxFrame+1)...),
		append([]byte{128, 32}, text(api.MaxFrame-1)...),
	}
}

// spread are disks of which these bytes are seen, some of them lasting and some waiting.
func spread(b []byte) []api.Disk {
	l := []api.Disk{
		diskOf(b), diskOf(b, behind(), behind()), diskOf(nil, behind(b...)), diskOf(nil, instead(b...)),
		diskOf(framesOf("gone"), instead(), behind(b...)),
		diskOf([]byte{3, 97}, instead(b...), behind()),
		diskOf(framesOf("gone"), behind(9), instead(128), instead(b...)),
	}
	for at := 0; at <= len(b); at += 1 + len(b)/30 {
		l = append(l, diskOf(b[:at], behind(b[at:]...)), diskOf([]byte{9}, instead(b[:at]...), behind(), behind(b[at:]...)))
	}
	return l
}

// held is a disk, and the records it is to have.
type held struct {
	disk    api.Disk
	records []string
}

func whole() []held {
	var all []held
	for _, l := range lists() {
		for _, d := range spread(framesOf(l...)) {
			all = append(all, held{d, l})
		}
	}
	return all
}

func torn() []held {
	var all []held
	for _, l := range lists() {
		for _, tail := range tails() {
			for _, d := range spread(append(framesOf(l...), tail...)) {
				all = append(all, held{d, l})
			}
		}
	}
	return all
}

// wrong are disks that may not be: whole ones, torn ones, and such as a later Swap would mend.
func wrong() []api.Disk {
	over := make([]byte, api.MaxData+1)
	return []api.Disk{
		diskOf(over),
		diskOf(append(over[:api.MaxData:api.MaxData], 5)),
		diskOf(over, instead()),
		diskOf(over[:api.MaxData], behind(0)),
		diskOf(over[:api.MaxData], behind(7), instead(1, 97)),
		diskOf(nil, instead(over...), instead()),
		diskOf(framesOf(full()...), writesOf([]string{""})...),
		diskOf(nil, make([]api.Put, api.MaxWait+1)...),
		diskOf([]byte{1, 97}, slices.Repeat([]api.Put{instead(9)}, api.MaxWait+1)...),
	}
}

func brief(b []byte) string {
	if len(b) > 12 {
		return fmt.Sprintf("%v..(%d bytes)", b[:12], len(b))
	}
	return fmt.Sprint(b)
}

func show(d api.Disk) string {
	s := brief(d.Data)
	for i, p := range d.Wait {
		if i == 6 {
			return fmt.Sprintf("%s ..(%d writes)", s, len(d.Wait))
		}
		s += fmt.Sprintf(" %t:%s", p.Swap, brief(p.Data))
	}
	return s
}

func showTexts(l []string) string {
	if len(l) > 8 || len(framesOf(l...)) > 60 {
		return fmt.Sprintf("(%d texts)", len(l))
	}
	return fmt.Sprintf("%q", l)
}

func samePut(a, b api.Put) bool {
	return a.Swap == b.Swap && bytes.Equal(a.Data, b.Data)
}

func same(a, b api.Disk) bool {
	return bytes.Equal(a.Data, b.Data) && slices.EqualFunc(a.Wait, b.Wait, samePut)
}

func isZero(d api.Disk) bool {
	return len(d.Data) == 0 && len(d.Wait) == 0
}

func wantOpen(t *testing.T, d, want api.Disk, records []string) {
	t.Helper()
	if r, l, e := wal.Open(d); e != api.OK || !same(r, want) || !slices.Equal(l, records) {
		t.Errorf("Open(%s) = %s, %s, %d; want %s, %s", show(d), show(r), showTexts(l), e, show(want), showTexts(records))
	}
}

func wantOpenError(t *testing.T, d api.Disk, want api.Errno) {
	t.Helper()
	if r, l, e := wal.Open(d); e != want || !isZero(r) || len(l) != 0 {
		t.Errorf("Open(%s) = %s, %s, %d; want none, none, %d", show(d), show(r), showTexts(l), e, want)
	}
}

// wantRecords asks for what a disk has, whatever waits on it.
func wantRecords(t *testing.T, d api.Disk, records ...string) {
	t.Helper()
	if _, l, e := wal.Open(d); e != api.OK || !slices.Equal(l, records) {
		t.Errorf("Open(%s): records %s, %d; want %s", show(d), showTexts(l), e, showTexts(records))
	}
}

type writer func(d api.Disk, l []string) (api.Disk, api.Errno)

func wantWrites(t *testing.T, write writer, d api.Disk, l []string, more ...api.Put) {
	t.Helper()
	if r, e := write(d, l); e != api.OK || !same(r, with(d, more...)) {
		t.Errorf("%s to %s: %s, %d", showTexts(l), show(d), show(r), e)
	}
}

func wantAdd(t *testing.T, d api.Disk, l []string) {
	t.Helper()
	wantWrites(t, wal.Add, d, l, writesOf(l)...)
}

func wantReset(t *testing.T, d api.Disk, l []string) {
	t.Helper()
	wantWrites(t, wal.Reset, d, l, instead(framesOf(l...)...))
}

func wantWriteError(t *testing.T, write writer, d api.Disk, l []string, want api.Errno) {
	t.Helper()
	if r, e := write(d, l); e != want || !isZero(r) {
		t.Errorf("%s to %s: %s, %d; want none, %d", showTexts(l), show(d), show(r), e, want)
	}
}

func must(t *testing.T, d api.Disk, e api.Errno) api.Disk {
	t.Helper()
	if e != api.OK {
		t.Fatal(show(d), e)
	}
	return d
}

func add(t *testing.T, d api.Disk, l ...string) api.Disk {
	t.Helper()
	r, e := wal.Add(d, l)
	return must(t, r, e)
}

func reset(t *testing.T, d api.Disk, l ...string) api.Disk {
	t.Helper()
	r, e := wal.Reset(d, l)
	return must(t, r, e)
}

func sync(t *testing.T, d api.Disk) api.Disk {
	t.Helper()
	r, e := disk.Sync(d)
	return must(t, r, e)
}

func crash(t *testing.T, d api.Disk, keep, many int) api.Disk {
	t.Helper()
	r, e := disk.Crash(d, keep, many)
	return must(t, r, e)
}

func TestChapterExamples(t *testing.T) {
	d := diskOf([]byte{1, 97})
	wantRecords(t, d, "a")
	more := add(t, d, "bc")
	wantRecords(t, more, "a", "bc")
	left := crash(t, more, 0, 2)
	wantOpen(t, left, diskOf([]byte{1, 97, 2, 98}, instead(1, 97)), []string{"a"})
	wantWriteError(t, wal.Add, left, []string{"x"}, api.ErrBad)
	wantRecords(t, reset(t, d, "x"), "x")
}

func TestP41OpenOfWholeDisksIsTheDisk(t *testing.T) {
	for _, h := range whole() {
		wantOpen(t, h.disk, h.disk, h.records)
	}
	wantOpen(t, diskOf(framesOf(full()...)), diskOf(framesOf(full()...)), full())
	empties := diskOf(make([]byte, api.MaxData))
	wantOpen(t, empties, empties, make([]string, api.MaxData))
}

func TestP41OpenOfTornDisksSwapsTheWholeFramesIn(t *testing.T) {
	for _, h := range torn() {
		wantOpen(t, h.disk, with(h.disk, instead(framesOf(h.records...)...)), h.records)
	}
}

func TestP41WhatIsSeenCounts(t *testing.T) {
	// What lasts is torn, and what waits ends it; or the other way about.
	mended := diskOf([]byte{1, 97, 3, 98}, behind(99), behind(100))
	wantOpen(t, mended, mended, []string{"a", "bcd"})
	swapped := diskOf([]byte{3, 98}, instead(1, 97))
	wantOpen(t, swapped, swapped, []string{"a"})
	broken := diskOf([]byte{1, 97}, behind(1, 98, 3))
	wantOpen(t, broken, with(broken, instead(1, 97, 1, 98)), []string{"a", "b"})
	wantAdd(t, mended, []string{"e"})
	wantAdd(t, swapped, []string{"e"})
	wantWriteError(t, wal.Add, broken, []string{"e"}, api.ErrBad)
}

func TestP41OpenReadsNothingBehindWhatIsTorn(t *testing.T) {
	d := diskOf([]byte{1, 97, 128, 0, 1, 98})
	wantOpen(t, d, with(d, instead(1, 97)), []string{"a"})
	// Nor a disk's spare room.
	roomy := diskOf([]byte{1, 97, 1, 98}[:3])
	wantOpen(t, roomy, with(roomy, instead(1, 97)), []string{"a"})
}

func TestP41OpenOfMoreRecordsThanJoinTakes(t *testing.T) {
	for _, many := range []int{maxJoin - 1, maxJoin, maxJoin + 1, 3 * maxJoin, api.MaxData - 1} {
		records := make([]string, many)
		d := diskOf(append(make([]byte, many), 9))
		wantOpen(t, d, with(d, instead(make([]byte, many)...)), records)
		if r, _, _ := wal.Open(d); len(r.Wait) == 1 {
			wantRecords(t, r, records...)
		}
	}
}

func TestP41OpenWhereMaxWaitWritesWait(t *testing.T) {
	for _, many := range []int{api.MaxWait - 1, api.MaxWait} {
		w := slices.Repeat([]api.Put{behind(1, 97)}, many)
		wantOpen(t, diskOf(nil, w...), diskOf(nil, w...), slices.Repeat([]string{"a"}, many))
	}
	w := slices.Repeat([]api.Put{instead(1, 97, 5)}, api.MaxWait)
	wantOpen(t, diskOf(nil, w[1:]...), with(diskOf(nil, w[1:]...), instead(1, 97)), []string{"a"})
	wantOpenError(t, diskOf(nil, w...), api.ErrFull)
	wantOpenError(t, diskOf([]byte{9}, make([]api.Put, api.MaxWait)...), api.ErrFull)
}

func TestP41AndP42DisksThatMayNotBe(t *testing.T) {
	for _, d := range wrong() {
		wantOpenError(t, d, api.ErrDisk)
		long := text(api.MaxFrame + 1)
		for _, l := range [][]string{nil, {"a"}, {long}, slices.Repeat([]string{long}, api.MaxWait+1), make([]string, maxJoin+1), full()} {
			wantWriteError(t, wal.Add, d, l, api.ErrDisk)
			wantWriteError(t, wal.Reset, d, l, api.ErrDisk)
		}
	}
}

func TestP42AddLetsOneWriteATextWait(t *testing.T) {
	for _, h := range whole() {
		for _, l := range lists() {
			wantAdd(t, h.disk, l)
		}
	}
}

func TestP42AddTakesTextsOfMaxFrame(t *testing.T) {
	longest, over := text(api.MaxFrame), text(api.MaxFrame+1)
	for _, d := range []api.Disk{{}, diskOf([]byte{1, 97}), diskOf(nil, behind(1, 97))} {
		wantAdd(t, d, []string{longest})
		wantAdd(t, d, []string{"a", longest, longest, "", longest})
		for _, l := range [][]string{{over}, {over, "a"}, {"a", over}, {longest, "", over}, {over, over}, append(make([]string, api.MaxWait-1), over)} {
			wantWriteError(t, wal.Add, d, l, api.ErrText)
		}
		wantWriteError(t, wal.Add, d, []string{text(api.MaxData + 1)}, api.ErrText)
	}
}

func TestP42AddTakesMaxWaitTexts(t *testing.T) {
	wantAdd(t, diskOf(nil), make([]string, api.MaxWait))
	wantAdd(t, diskOf([]byte{1, 97}), slices.Repeat([]string{"a", "bc"}, api.MaxWait/2))
	for _, d := range []api.Disk{{}, diskOf([]byte{1, 97}), diskOf([]byte{1}), diskOf(nil, make([]api.Put, api.MaxWait)...)} {
		wantWriteError(t, wal.Add, d, make([]string, api.MaxWait+1), api.ErrMany)
		wantWriteError(t, wal.Add, d, make([]string, 1<<20), api.ErrMany)
	}
}

func TestP42AddWhereWritesWait(t *testing.T) {
	for _, many := range []int{1, 2, api.MaxWait / 2, api.MaxWait - 1, api.MaxWait} {
		d := diskOf([]byte{1, 97}, slices.Repeat([]api.Put{behind(0)}, many)...)
		l := slices.Repeat([]string{"b"}, api.MaxWait-many)
		wantAdd(t, d, l)
		wantAdd(t, d, nil)
		wantWriteError(t, wal.Add, d, append(l, "b"), api.ErrFull)
	}
}

func TestP42AddWhereThereIsLittleRoom(t *testing.T) {
	texts := full()
	d := diskOf(framesOf(texts...))
	wantAdd(t, d, nil)
	wantWriteError(t, wal.Add, d, []string{""}, api.ErrFull)
	// The first frames have room, and the last one has, or has not.
	for _, size := range []int{1, 2, 3, 100} {
		l := append(make([]string, size), text(api.MaxFrame-2-size))
		d = diskOf(framesOf(texts[1:]...))
		wantAdd(t, d, l)
		wantWriteError(t, wal.Add, d, append(l, ""), api.ErrFull)
		l[size] += "x"
		wantWriteError(t, wal.Add, d, l, api.ErrFull)
		wantWriteError(t, wal.Add, d, append(l, "a", "b"), api.ErrFull)
		wantAdd(t, d, l[:size])
	}
	// What is there ahead of a Swap takes no room.
	wantAdd(t, diskOf(framesOf(texts...), instead()), texts)
	wantWriteError(t, wal.Add, diskOf(nil, instead()), append(texts, ""), api.ErrFull)
}

func TestP42AddRefusesTornDisks(t *testing.T) {
	for _, h := range torn() {
		for _, l := range [][]string{nil, {"a"}} {
			wantWriteError(t, wal.Add, h.disk, l, api.ErrBad)
		}
	}
	waits := slices.Repeat([]api.Put{behind()}, api.MaxWait)
	wantWriteError(t, wal.Add, diskOf([]byte{1}, waits...), nil, api.ErrBad)
}

func TestP42ResetSwapsAllFramesIn(t *testing.T) {
	for _, h := range append(whole(), torn()...) {
		for _, l := range [][]string{nil, {""}, {"a", "", "bc"}} {
			wantReset(t, h.disk, l)
		}
	}
	for _, l := range append(lists(), full()) {
		wantReset(t, diskOf([]byte{1, 97}), l)
		wantReset(t, diskOf(make([]byte, api.MaxData)), l)
		wantReset(t, diskOf([]byte{5}, behind(6), instead(8)), l)
	}
}

func TestP42ResetKeepsToJoin(t *testing.T) {
	over := text(api.MaxFrame + 1)
	for _, d := range []api.Disk{{}, diskOf([]byte{1, 97}), diskOf([]byte{1}), diskOf(make([]byte, api.MaxData))} {
		// More texts than may wait are one write all the same.
		wantReset(t, d, make([]string, api.MaxWait+1))
		wantReset(t, d, make([]string, maxJoin))
		wantReset(t, d, []string{text(api.MaxFrame)})
		wantWriteError(t, wal.Reset, d, make([]string, maxJoin+1), api.ErrMany)
		wantWriteError(t, wal.Reset, d, slices.Repeat([]string{over}, maxJoin+1), api.ErrMany)
		for _, l := range [][]string{{over}, {"a", over}, {over, ""}, append(full(), ""), append([]string{""}, full()...)} {
			wantWriteError(t, wal.Reset, d, l, api.ErrText)
		}
	}
}

func TestP42ResetWhereWritesWait(t *testing.T) {
	for _, kind := range []api.Put{{}, behind(1, 97), behind(5), instead(1, 97), instead(5)} {
		w := slices.Repeat([]api.Put{kind}, api.MaxWait)
		for _, l := range [][]string{nil, {"a"}, full()} {
			wantReset(t, diskOf([]byte{0}, w[1:]...), l)
			wantWriteError(t, wal.Reset, diskOf([]byte{0}, w...), l, api.ErrFull)
		}
	}
}

func TestP42OrderOfAddsErrors(t *testing.T) {
	full := make([]api.Put, api.MaxWait)
	over := append(slices.Clip(full), api.Put{})
	long := text(api.MaxFrame + 1)
	tooMany := make([]string, api.MaxWait+1)
	for _, c := range []struct {
		disk api.Disk
		l    []string
		want api.Errno
	}{
		{diskOf([]byte{1}, over...), append(tooMany, long), api.ErrDisk},
		{diskOf([]byte{1}, over...), []string{long}, api.ErrDisk},
		{diskOf([]byte{1}, over...), nil, api.ErrDisk},
		{diskOf([]byte{1}, full...), append([]string{long}, tooMany...), api.ErrMany},
		{diskOf([]byte{1}, full...), tooMany, api.ErrMany},
		{diskOf([]byte{1}), tooMany, api.ErrMany},
		{diskOf([]byte{1}, full...), []string{"a", long}, api.ErrText},
		{diskOf([]byte{1}), []string{long}, api.ErrText},
		{diskOf([]byte{0}, full...), []string{"a", long}, api.ErrText},
		{diskOf(make([]byte, api.MaxData)), []string{"a", long}, api.ErrText},
		{diskOf([]byte{1}, full...), []string{"a"}, api.ErrBad},
		{diskOf(append(make([]byte, api.MaxData-1), 1)), []string{"a"}, api.ErrBad},
		{diskOf([]byte{0}, full...), []string{"a"}, api.ErrFull},
		{diskOf([]byte{0}, full...), nil, api.OK},
	} {
		if c.want != api.OK {
			wantWriteError(t, wal.Add, c.disk, c.l, c.want)
		} else {
			wantAdd(t, c.disk, c.l)
		}
	}
}

func TestP42OrderOfResetsErrors(t *testing.T) {
	full := make([]api.Put, api.MaxWait)
	over := append(slices.Clip(full), api.Put{})
	long := text(api.MaxFrame + 1)
	tooMany := append(make([]string, maxJoin), long)
	tooMuch := slices.Repeat([]string{text(api.MaxFrame)}, 256)
	for _, data := range [][]byte{{0}, {1}} {
		wantWriteError(t, wal.Reset, diskOf(data, over...), tooMany, api.ErrDisk)
		wantWriteError(t, wal.Reset, diskOf(data, over...), []string{long}, api.ErrDisk)
		wantWriteError(t, wal.Reset, diskOf(data, full...), tooMany, api.ErrMany)
		wantWriteError(t, wal.Reset, diskOf(data, full...), []string{long}, api.ErrText)
		wantWriteError(t, wal.Reset, diskOf(data, full...), tooMuch, api.ErrText)
		wantWriteError(t, wal.Reset, diskOf(data, full...), []string{"a"}, api.ErrFull)
	}
}

// wantTorn asks all calls of a disk whose last frame is broken off, at each of its bytes.
func wantTorn(t *testing.T, first []string, last string) {
	t.Helper()
	b, start := append(framesOf(first...), frameOf(last)...), len(framesOf(first...))
	for at := start + 1; at < len(b); at++ {
		for _, d := range []api.Disk{diskOf(b[:at]), diskOf(b[:start], behind(b[start:at]...))} {
			wantOpen(t, d, with(d, instead(b[:start]...)), first)
			wantWriteError(t, wal.Add, d, nil, api.ErrBad)
			wantWriteError(t, wal.Add, d, []string{"x"}, api.ErrBad)
			wantReset(t, d, []string{"x"})
		}
	}
}

func TestP41AndP42DisksTornAtEachByteOfTheLastFrame(t *testing.T) {
	for _, first := range lists() {
		for _, last := range []string{"a", "hear ye", "\x00\x00\x00", "\x80", text(128)} {
			wantTorn(t, first, last)
		}
	}
	wantTorn(t, []string{"a", ""}, text(api.MaxFrame))
}

// calls are all calls; those that tell no records answer none.
func calls() map[string]func(d api.Disk, l []string) (api.Disk, []string) {
	return map[string]func(d api.Disk, l []string) (api.Disk, []string){
		"Open":  func(d api.Disk, _ []string) (api.Disk, []string) { r, m, _ := wal.Open(d); return r, m },
		"Add":   func(d api.Disk, l []string) (api.Disk, []string) { r, _ := wal.Add(d, l); return r, nil },
		"Add0":  func(d api.Disk, _ []string) (api.Disk, []string) { r, _ := wal.Add(d, nil); return r, nil },
		"Reset": func(d api.Disk, l []string) (api.Disk, []string) { r, _ := wal.Reset(d, l); return r, nil },
	}
}

// roomy is a list with spare room that holds what nobody may change.
func roomy[T any](l []T, spare T) []T {
	return append(slices.Clone(l), spare, spare, spare, spare)[:len(l)]
}

func roomyDisk(d api.Disk) api.Disk {
	r := diskOf(roomy(d.Data, 77), roomy(d.Wait, instead(66))...)
	for i, p := range r.Wait {
		r.Wait[i].Data = roomy(p.Data, 77)
	}
	return r
}

// withRoom is all of a disk, the spare room of its lists as well, in memory of its own.
func withRoom(d api.Disk) api.Disk {
	r := diskOf(slices.Clone(d.Data[:cap(d.Data)]), slices.Clone(d.Wait[:cap(d.Wait)])...)
	for i, p := range r.Wait {
		r.Wait[i].Data = slices.Clone(p.Data[:cap(p.Data)])
	}
	return r
}

// pieces are all lists of bytes of a disk, with their spare room.
func pieces(d api.Disk) [][]byte {
	l := [][]byte{d.Data[:cap(d.Data)]}
	for _, p := range d.Wait[:cap(d.Wait)] {
		l = append(l, p.Data[:cap(p.Data)])
	}
	return l
}

func overwrite(b []byte) {
	for i := range b {
		b[i] ^= 255
	}
}

// some are disks on which calls go well, and such as they refuse.
func some() []api.Disk {
	one := []byte{1, 97, 1, 98}
	return []api.Disk{
		{}, diskOf(framesOf("a", "", "bc")), diskOf([]byte{1, 97, 5, 98}),
		diskOf([]byte{1, 97}, behind(2, 98), behind(), behind(99)),
		diskOf([]byte{9}, instead(1, 97), behind(1, 98, 7)),
		diskOf([]byte{1, 97}, instead(), behind(1, 98)),
		// One list stands in all places.
		diskOf(one, behind(one...), api.Put{Data: one}, api.Put{Swap: true, Data: one}, api.Put{Data: one}),
		diskOf(nil, slices.Repeat([]api.Put{behind(5)}, api.MaxWait)...),
		diskOf(nil, slices.Repeat([]api.Put{behind(5)}, api.MaxWait+1)...),
	}
}

func TestP43WhatIsHandedInIsOnlyRead(t *testing.T) {
	for name, call := range calls() {
		for _, d := range some() {
			for _, l := range [][]string{nil, {"x", "", "yz"}, {"x", text(api.MaxFrame + 1)}, make([]string, maxJoin+1)} {
				in, texts := roomyDisk(d), roomy(l, "spare")
				before, textsBefore := withRoom(in), slices.Clone(texts[:cap(texts)])
				call(in, texts)
				if !same(withRoom(in), before) || !slices.Equal(texts[:cap(texts)], textsBefore) {
					t.Errorf("%s changed %s or %s", name, show(d), showTexts(l))
				}
			}
		}
	}
}

func TestP43AnswersShareNothing(t *testing.T) {
	for name, call := range calls() {
		for _, d := range some() {
			l := []string{"x", "", "yz"}
			answer, records := call(d, l)
			other, otherRecords := call(d, l)
			before, want, wantOther, wantRecords := withRoom(d), withRoom(answer), withRoom(other), slices.Clone(otherRecords)
			for i, piece := range pieces(answer) {
				overwrite(piece)
				overwrite(pieces(want)[i])
				if !same(withRoom(answer), want) {
					t.Fatalf("%s of %s: two lists of the answer share memory", name, show(d))
				}
			}
			clear(answer.Wait[:cap(answer.Wait)])
			clear(records[:cap(records)])
			if !same(withRoom(d), before) || !same(withRoom(other), wantOther) || !slices.Equal(otherRecords, wantRecords) {
				t.Fatalf("%s of %s: the answer shares memory with what was handed in, or with an earlier one", name, show(d))
			}
		}
	}
}

func TestP43WhatIsHandedInIsNotKept(t *testing.T) {
	for name, call := range calls() {
		for _, d := range some() {
			in, l := roomyDisk(d), roomy([]string{"x", "", "yz"}, "spare")
			answer, records := call(in, l)
			want, wantRecords := withRoom(answer), strings.Join(records, "|")
			for _, piece := range pieces(in) {
				overwrite(piece)
			}
			clear(in.Wait[:cap(in.Wait)])
			clear(l[:cap(l)])
			if !same(withRoom(answer), want) || strings.Join(records, "|") != wantRecords {
				t.Fatalf("%s of %s: the answer hangs on what was handed in", name, show(d))
			}
		}
	}
}

// wantWhole asks whether a disk has these records, and nothing torn behind them.
func wantWhole(t *testing.T, d api.Disk, records []string) {
	t.Helper()
	wantOpen(t, d, d, records)
	if seen, e := disk.See(d); e != api.OK || !bytes.Equal(seen, framesOf(records...)) {
		t.Errorf("seen of %s: %s, %d; want the frames of %s", show(d), brief(seen), e, showTexts(records))
	}
}

func TestP44BehindTheCallsTheDiskIsWhole(t *testing.T) {
	for _, h := range append(whole(), torn()...) {
		d, _, e := wal.Open(h.disk)
		if e != api.OK {
			t.Fatal(show(h.disk), e)
		}
		wantWhole(t, d, h.records)
		wantWhole(t, sync(t, d), h.records)
		for _, l := range lists()[2:8] {
			all := append(slices.Clip(h.records), l...)
			wantWhole(t, add(t, d, l...), all)
			wantWhole(t, sync(t, add(t, d, l...)), all)
			wantWhole(t, reset(t, h.disk, l...), l)
			wantWhole(t, sync(t, reset(t, h.disk, l...)), l)
		}
	}
}

func TestP44AddsOneBehindTheOther(t *testing.T) {
	one, many := api.Disk{}, api.Disk{}
	var all []string
	for _, l := range lists() {
		all = append(all, l...)
		one = add(t, one, l...)
		for _, s := range l {
			many = add(t, many, s)
		}
	}
	wantWhole(t, one, all)
	if !same(one, many) {
		t.Error(show(one), show(many))
	}
}

// wantLeft asks, for a crash at every place, for the records that are left: those whose frames were kept whole.
func wantLeft(t *testing.T, before, l []string) {
	t.Helper()
	d := add(t, diskOf(framesOf(before...)), l...)
	for keep := range len(l) + 1 {
		size := 0
		if keep < len(l) {
			size = len(frameOf(l[keep]))
		}
		for many := 0; many <= size+1; many += 1 + size/50 {
			kept := keep
			if keep < len(l) && many >= size {
				kept++
			}
			wantRecords(t, crash(t, d, keep, many), append(slices.Clip(before), l[:kept]...)...)
		}
		wantRecords(t, crash(t, d, keep, math.MaxInt), append(slices.Clip(before), l[:min(keep+1, len(l))]...)...)
	}
	wantRecords(t, sync(t, d), append(slices.Clip(before), l...)...)
}

func TestP44AndW2ACrashBehindAddKeepsSomeFirstRecords(t *testing.T) {
	for _, before := range lists() {
		for _, l := range lists() {
			wantLeft(t, before, l)
		}
	}
	wantLeft(t, []string{"a"}, slices.Repeat([]string{"bc", "", "\x01"}, 30))
}

func TestP44AndW2ACrashBehindResetKeepsTheseOrThose(t *testing.T) {
	for _, before := range append(lists(), full()) {
		for _, l := range append(lists(), full()) {
			d := reset(t, diskOf(framesOf(before...)), l...)
			for _, many := range []int{0, 1, 2, len(framesOf(l...)), math.MaxInt} {
				wantRecords(t, crash(t, d, 0, many), before...)
				wantRecords(t, crash(t, d, 1, many), l...)
			}
			wantRecords(t, sync(t, d), l...)
		}
	}
}

func TestP44AndW2ACrashBehindAddBehindReset(t *testing.T) {
	d := add(t, reset(t, diskOf(framesOf("old", "news")), "a", "b"), "c", "de")
	wants := [][]string{{"old", "news"}, {"a", "b"}, {"a", "b", "c"}, {"a", "b", "c", "de"}}
	for keep, want := range wants {
		wantRecords(t, crash(t, d, keep, 0), want...)
		wantRecords(t, crash(t, d, keep, 1), want...)
	}
}

func TestP44AndW2ACrashBehindOpenLosesNoRecord(t *testing.T) {
	for _, h := range torn() {
		if len(h.disk.Wait) > 0 {
			continue
		}
		d, _, e := wal.Open(h.disk)
		if e != api.OK {
			t.Fatal(show(h.disk), e)
		}
		more := add(t, d, "x", "yz")
		for keep, l := range [][]string{nil, nil, {"x"}, {"x", "yz"}} {
			for many := range 2 {
				wantRecords(t, crash(t, more, keep, many), append(slices.Clip(h.records), l...)...)
			}
		}
	}
}

func TestW2WhatLastsStaysThroughManyCrashes(t *testing.T) {
	d, lasts := api.Disk{}, []string{}
	for i := range 60 {
		l := []string{text(i % 7), fmt.Sprint("news ", i), ""}
		waits := add(t, d, l...)
		left := crash(t, waits, i%4, i%5)
		opened, records, e := wal.Open(left)
		if e != api.OK || len(records) < len(lasts)+i%4 || len(records) > len(lasts)+len(l) {
			t.Fatal(i, len(lasts), len(records), e)
		}
		if !slices.Equal(records, append(slices.Clip(lasts), l...)[:len(records)]) {
			t.Fatal(i, showTexts(records))
		}
		lasts = append(records, "then")
		d = sync(t, add(t, opened, "then"))
		wantWhole(t, d, lasts)
	}
}

func FuzzOpen(f *testing.F) {
	f.Add([]byte{1, 97}, []byte{2, 98}, false, "x", 1, 1)
	f.Add([]byte{1, 97, 128, 0}, []byte{0, 0, 5}, true, "", 0, 3)
	f.Fuzz(func(t *testing.T, data, more []byte, swap bool, s string, keep, many int) {
		d := diskOf(data, api.Put{Swap: swap, Data: more})
		seen, e := disk.See(d)
		if e != api.OK || len(s) > api.MaxFrame || len(seen) > api.MaxData/2 {
			return
		}
		records, size, _ := frame.Cut(seen)
		opened, l, e := wal.Open(d)
		if e != api.OK || !slices.Equal(l, records) || len(opened.Wait) != 1 && size == len(seen) {
			t.Fatal(show(d), showTexts(l), e)
		}
		d = add(t, sync(t, opened), s, "y")
		keep &= 1
		left := crash(t, d, keep, max(many, 0))
		_, l, e = wal.Open(left)
		if all := append(records, s, "y"); e != api.OK || len(l) < len(records)+keep || !slices.Equal(l, all[:len(l)]) {
			t.Fatal(show(left), showTexts(l), e)
		}
	})
}

func ExampleOpen() {
	d, _ := wal.Add(api.Disk{Data: []byte{1, 97}}, []string{"bc"})
	torn, _ := disk.Crash(d, 0, 2)
	mended, records, e := wal.Open(torn)
	fmt.Println(torn.Data, records, mended.Wait[0].Data, e == api.OK)
	// Output: [1 97 2 98] [a] [1 97] true
}
