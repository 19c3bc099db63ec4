package disk_test

import (
	"bytes"
	"fmt"
	"math"
	"slices"
	"testing"

	"towncrier/api"
	"towncrier/disk"
)

func behind(b ...byte) api.Put {
	return api.Put{Data: b}
}

func instead(b ...byte) api.Put {
	return api.Put{Swap: true, Data: b}
}

func diskOf(data []byte, wait ...api.Put) api.Disk {
	return api.Disk{Data: data, Wait: wait}
}

func some(size int) []byte {
	b := make([]byte, size)
	for i := range b {
		b[i] = byte(i % 251)
	}
	return b
}

// meant tells the bytes behind the writes as the chapter's words do: from the last Swap on, without the package's help.
func meant(data []byte, wait []api.Put) []byte {
	for at, p := range slices.Backward(wait) {
		if p.Swap {
			return meant(p.Data, wait[at+1:])
		}
	}
	b := slices.Clone(data)
	for _, p := range wait {
		b = append(b, p.Data...)
	}
	return b
}

// meantCrash tells what a crash leaves.
func meantCrash(d api.Disk, keep, many int) []byte {
	b := meant(d.Data, d.Wait[:keep])
	if keep == len(d.Wait) || d.Wait[keep].Swap {
		return b
	}
	for i, c := range d.Wait[keep].Data {
		if i < many {
			b = append(b, c)
		}
	}
	return b
}

func brief(b []byte) string {
	if len(b) > 12 {
		return fmt.Sprintf("%v..(%d bytes)", b[:12], len(b))
	}
	return fmt.Sprint(b)
}

func show(d api.Disk) string {
	s := brief(d.Data)
	for i, p := range d.Wait {
		if i == 6 {
			return fmt.Sprintf("%s ..(%d writes)", s, len(d.Wait))
		}
		s += fmt.Sprintf(" %t:%s", p.Swap, brief(p.Data))
	}
	return s
}

func samePut(a, b api.Put) bool {
	return a.Swap == b.Swap && bytes.Equal(a.Data, b.Data)
}

func same(a, b api.Disk) bool {
	return bytes.Equal(a.Data, b.Data) && slices.EqualFunc(a.Wait, b.Wait, samePut)
}

func isZero(d api.Disk) bool {
	return len(d.Data) == 0 && len(d.Wait) == 0
}

func wantCheck(t *testing.T, d api.Disk, want api.Errno) {
	t.Helper()
	if e := disk.Check(d); e != want {
		t.Errorf("Check(%s) = %d; want %d", show(d), e, want)
	}
}

func wantSee(t *testing.T, d api.Disk, want []byte) {
	t.Helper()
	if b, e := disk.See(d); e != api.OK || !bytes.Equal(b, want) {
		t.Errorf("See(%s) = %s, %d; want %s", show(d), brief(b), e, brief(want))
	}
}

func wantSync(t *testing.T, d api.Disk, want []byte) {
	t.Helper()
	if r, e := disk.Sync(d); e != api.OK || !same(r, diskOf(want)) {
		t.Errorf("Sync(%s) = %s, %d; want %s", show(d), show(r), e, brief(want))
	}
}

func wantCrash(t *testing.T, d api.Disk, keep, many int, want []byte) {
	t.Helper()
	if r, e := disk.Crash(d, keep, many); e != api.OK || !same(r, diskOf(want)) {
		t.Errorf("Crash(%s, %d, %d) = %s, %d; want %s", show(d), keep, many, show(r), e, brief(want))
	}
}

func wantCrashError(t *testing.T, d api.Disk, keep, many int, want api.Errno) {
	t.Helper()
	if r, e := disk.Crash(d, keep, many); e != want || !isZero(r) {
		t.Errorf("Crash(%s, %d, %d) = %s, %d; want none, %d", show(d), keep, many, show(r), e, want)
	}
}

func write(d api.Disk, p api.Put) (api.Disk, api.Errno) {
	if p.Swap {
		return disk.Swap(d, p.Data)
	}
	return disk.Append(d, p.Data)
}

func wantWrite(t *testing.T, d api.Disk, p api.Put) {
	t.Helper()
	if r, e := write(d, p); e != api.OK || !same(r, diskOf(d.Data, append(slices.Clip(d.Wait), p)...)) {
		t.Errorf("write of %t:%s to %s = %s, %d", p.Swap, brief(p.Data), show(d), show(r), e)
	}
}

func wantWriteError(t *testing.T, d api.Disk, p api.Put, want api.Errno) {
	t.Helper()
	if r, e := write(d, p); e != want || !isZero(r) {
		t.Errorf("write of %t:%s to %s = %s, %d; want none, %d", p.Swap, brief(p.Data), show(d), show(r), e, want)
	}
}

// small are all disks of few writes, of kinds that tell one another by their bytes.
func small() []api.Disk {
	var all []api.Disk
	kinds := []func(c byte) api.Put{
		func(byte) api.Put { return api.Put{} },
		func(c byte) api.Put { return behind(c) },
		func(c byte) api.Put { return behind(c, c+1, c+2) },
		func(byte) api.Put { return api.Put{Swap: true} },
		func(c byte) api.Put { return instead(c, c+1) },
	}
	var lengthen func(d api.Disk)
	lengthen = func(d api.Disk) {
		all = append(all, d)
		if len(d.Wait) == 4 {
			return
		}
		for _, kind := range kinds {
			p := kind(byte(10 * (len(d.Wait) + 1)))
			lengthen(diskOf(d.Data, append(slices.Clip(d.Wait), p)...))
		}
	}
	lengthen(diskOf(nil))
	lengthen(diskOf([]byte{1, 2}))
	return all
}

// full are disks that may be and that stand at one of the bounds, or at several.
func full() []api.Disk {
	most := some(api.MaxData)
	return []api.Disk{
		diskOf(most),
		diskOf(most, api.Put{}),
		diskOf(most[:api.MaxData-1], behind(9)),
		diskOf(most[:5], behind(most[5:]...)),
		diskOf(nil, behind(most[:1<<19]...), behind(most[1<<19:]...)),
		diskOf(nil, instead(most...)),
		diskOf(most, instead(most...), instead(most...)),
		diskOf(most, instead(), behind(most...)),
		diskOf(most[:9], behind(most[9:]...), instead(most[:7]...), behind(most[7:]...), instead(4)),
		diskOf(nil, make([]api.Put, api.MaxWait)...),
		diskOf(most, make([]api.Put, api.MaxWait)...),
		diskOf(nil, slices.Repeat([]api.Put{behind(3)}, api.MaxWait)...),
		diskOf(most[:8], slices.Repeat([]api.Put{instead(3)}, api.MaxWait)...),
		diskOf(nil, slices.Repeat([]api.Put{behind(most[:1<<10]...)}, api.MaxWait)...),
	}
}

// wrong are disks that may not be, each by one byte or one write too many.
func wrong() []api.Disk {
	most := some(api.MaxData)
	over := some(api.MaxData + 1)
	return []api.Disk{
		diskOf(over),
		diskOf(over, api.Put{}),
		diskOf(over, instead()),
		diskOf(over, instead(1), behind(2)),
		diskOf(some(2*api.MaxData), instead()),
		diskOf(most, behind(1)),
		diskOf(most, behind(1), instead()),
		diskOf(most, api.Put{}, behind(1), instead(2)),
		diskOf(most[:api.MaxData-1], behind(1, 2), instead()),
		diskOf(most[:api.MaxData-1], behind(1), behind(2), instead(), behind(3)),
		diskOf([]byte{1}, behind(most...)),
		diskOf(nil, behind(over...)),
		diskOf(nil, behind(over...), instead()),
		diskOf(nil, instead(over...)),
		diskOf(nil, instead(over...), instead()),
		diskOf(nil, instead(most...), behind(1)),
		diskOf(nil, instead(most...), behind(1), instead(5)),
		diskOf(nil, behind(1), instead(2), behind(most...), instead(5), behind(6)),
		diskOf(nil, instead(), instead(some(3*api.MaxData)...)),
		diskOf(nil, make([]api.Put, api.MaxWait+1)...),
		diskOf([]byte{1}, slices.Repeat([]api.Put{instead(3)}, api.MaxWait+1)...),
		diskOf(nil, make([]api.Put, 1<<20)...),
		diskOf([]byte{1}, slices.Repeat([]api.Put{behind(most[:1<<10]...)}, api.MaxWait)...),
		diskOf(nil, append(slices.Repeat([]api.Put{behind(most[:1<<11]...)}, api.MaxWait-1), instead())...),
	}
}

func TestChapterExamples(t *testing.T) {
	d := diskOf([]byte{1, 2}, behind(3, 4), instead(9), behind(8))
	wantSee(t, d, []byte{9, 8})
	wantSync(t, d, []byte{9, 8})
	wantCrash(t, d, 0, 1, []byte{1, 2, 3})
	wantCrash(t, d, 1, 5, []byte{1, 2, 3, 4})
	wantCrash(t, d, 2, 0, []byte{9})
	wantCrash(t, d, 3, 0, []byte{9, 8})
	wantCrashError(t, d, 4, 0, api.ErrArg)
	wantCrashError(t, d, 0, -1, api.ErrArg)
	wantWriteError(t, diskOf(some(api.MaxData)), behind(1), api.ErrFull)
}

func TestP31DisksThatMayBe(t *testing.T) {
	for _, d := range append(small(), full()...) {
		wantCheck(t, d, api.OK)
		wantSee(t, d, meant(d.Data, d.Wait))
	}
}

func TestP31DisksThatMayNotBe(t *testing.T) {
	for _, d := range wrong() {
		wantCheck(t, d, api.ErrDisk)
		if b, e := disk.See(d); e != api.ErrDisk || len(b) != 0 {
			t.Errorf("See(%s) = %s, %d; want none, ErrDisk", show(d), brief(b), e)
		}
		if r, e := disk.Sync(d); e != api.ErrDisk || !isZero(r) {
			t.Errorf("Sync(%s) = %s, %d; want none, ErrDisk", show(d), show(r), e)
		}
		for _, p := range []api.Put{behind(), behind(1), instead(), instead(1), behind(some(api.MaxData + 1)...), instead(some(api.MaxData + 1)...)} {
			wantWriteError(t, d, p, api.ErrDisk)
		}
	}
}

func TestP31CrashAsksForTheDiskAheadOfItsNumbers(t *testing.T) {
	for _, d := range wrong() {
		for _, keep := range []int{0, len(d.Wait), -1, len(d.Wait) + 1, math.MinInt, math.MaxInt} {
			for _, many := range []int{0, 1, -1, math.MinInt, math.MaxInt} {
				wantCrashError(t, d, keep, many, api.ErrDisk)
			}
		}
	}
}

func TestP32OneWriteMoreWaits(t *testing.T) {
	for _, d := range small() {
		for _, p := range []api.Put{behind(), behind(7), behind(7, 8, 9), instead(), instead(7), {Swap: true}} {
			wantWrite(t, d, p)
		}
	}
}

func TestP32WritesKeepToMaxWait(t *testing.T) {
	for _, kind := range []api.Put{{}, behind(1), instead(), instead(1, 2)} {
		for _, p := range []api.Put{behind(), behind(5), instead(), instead(5)} {
			wantWrite(t, diskOf([]byte{1}, slices.Repeat([]api.Put{kind}, api.MaxWait-1)...), p)
			wantWriteError(t, diskOf([]byte{1}, slices.Repeat([]api.Put{kind}, api.MaxWait)...), p, api.ErrFull)
		}
	}
	d := api.Disk{}
	for i := range api.MaxWait {
		var e api.Errno
		if d, e = disk.Append(d, []byte{byte(i)}); e != api.OK || len(d.Wait) != i+1 {
			t.Fatal(i, len(d.Wait), e)
		}
	}
	wantWriteError(t, d, behind(1), api.ErrFull)
	wantWriteError(t, d, instead(), api.ErrFull)
}

func TestP32WritesKeepToMaxData(t *testing.T) {
	most, over := some(api.MaxData), some(api.MaxData+1)
	for _, d := range []api.Disk{
		diskOf(nil), diskOf(most[:5]), diskOf(most[:api.MaxData-1]), diskOf(most),
		diskOf(nil, behind(most[:9]...)), diskOf(most[:5], behind(most[5:]...)),
		diskOf(most, instead(1, 2, 3)), diskOf(most[:5], instead(most...)), diskOf(nil, instead(), behind(most[1:]...)),
	} {
		room := api.MaxData - len(meant(d.Data, d.Wait))
		wantWrite(t, d, behind(most[:room]...))
		wantWriteError(t, d, behind(over[:room+1]...), api.ErrFull)
		wantWriteError(t, d, behind(some(2*api.MaxData)...), api.ErrFull)
		wantWrite(t, d, behind())
		// How much was there is no matter to a Swap.
		wantWrite(t, d, instead(most...))
		wantWrite(t, d, instead())
		wantWriteError(t, d, instead(over...), api.ErrFull)
	}
}

func TestP33Sync(t *testing.T) {
	for _, d := range append(small(), full()...) {
		wantSync(t, d, meant(d.Data, d.Wait))
	}
}

func TestP33CrashAtEveryPlace(t *testing.T) {
	for _, d := range small() {
		for keep := range len(d.Wait) + 1 {
			for _, many := range []int{0, 1, 2, 3, 4, math.MaxInt} {
				wantCrash(t, d, keep, many, meantCrash(d, keep, many))
			}
		}
	}
}

func TestP33CrashOfFullDisks(t *testing.T) {
	for _, d := range full() {
		for _, keep := range []int{0, len(d.Wait) / 2, max(0, len(d.Wait)-1), len(d.Wait)} {
			for _, many := range []int{0, 1, 1000, api.MaxData - 1, api.MaxData, api.MaxData + 1, math.MaxInt} {
				wantCrash(t, d, keep, many, meantCrash(d, keep, many))
			}
		}
	}
}

func TestP33CrashRefuses(t *testing.T) {
	disks := []api.Disk{
		{}, diskOf([]byte{1, 2}), diskOf(nil, behind(1)), diskOf([]byte{1}, instead(1)),
		diskOf([]byte{1, 2}, behind(3, 4), instead(9), behind(8)),
		diskOf([]byte{1, 2}, make([]api.Put, api.MaxWait)...),
	}
	for _, d := range disks {
		for _, many := range []int{0, 1, math.MaxInt, -1} {
			for _, keep := range []int{-1, len(d.Wait) + 1, -2, math.MinInt, math.MaxInt} {
				wantCrashError(t, d, keep, many, api.ErrArg)
			}
		}
		for keep := range len(d.Wait) + 1 {
			wantCrashError(t, d, keep, -1, api.ErrArg)
			wantCrashError(t, d, keep, math.MinInt, api.ErrArg)
		}
	}
}

// calls are all calls that answer memory, as those that answer a disk.
func calls() map[string]func(d api.Disk, b []byte) api.Disk {
	crash := func(keep, many int) func(d api.Disk, b []byte) api.Disk {
		return func(d api.Disk, _ []byte) api.Disk {
			r, _ := disk.Crash(d, min(keep, len(d.Wait)), many)
			return r
		}
	}
	return map[string]func(d api.Disk, b []byte) api.Disk{
		"Check":           func(d api.Disk, _ []byte) api.Disk { disk.Check(d); return api.Disk{} },
		"Append":          func(d api.Disk, b []byte) api.Disk { r, _ := disk.Append(d, b); return r },
		"Swap":            func(d api.Disk, b []byte) api.Disk { r, _ := disk.Swap(d, b); return r },
		"Sync":            func(d api.Disk, _ []byte) api.Disk { r, _ := disk.Sync(d); return r },
		"See":             func(d api.Disk, _ []byte) api.Disk { s, _ := disk.See(d); return diskOf(s) },
		"Crash of none":   crash(0, 0),
		"Crash in first":  crash(0, 1),
		"Crash in second": crash(1, 2),
		"Crash in third":  crash(2, 1),
		"Crash of all":    crash(1000, 1),
	}
}

// roomy is a list with spare room that holds what nobody may change.
func roomy[T any](l []T, spare T) []T {
	return append(slices.Clone(l), spare, spare, spare, spare)[:len(l)]
}

func roomyDisk(d api.Disk) api.Disk {
	r := diskOf(roomy(d.Data, 77), roomy(d.Wait, instead(66))...)
	for i, p := range r.Wait {
		r.Wait[i].Data = roomy(p.Data, 77)
	}
	return r
}

// withRoom is all of a disk, the spare room of its lists as well, in memory of its own.
func withRoom(d api.Disk) api.Disk {
	r := diskOf(slices.Clone(d.Data[:cap(d.Data)]), slices.Clone(d.Wait[:cap(d.Wait)])...)
	for i, p := range r.Wait {
		r.Wait[i].Data = slices.Clone(p.Data[:cap(p.Data)])
	}
	return r
}

func TestP34WhatIsHandedInIsOnlyRead(t *testing.T) {
	for name, call := range calls() {
		for _, d := range small() {
			in, b := roomyDisk(d), roomy([]byte{5, 6}, 77)
			before, bytesBefore := withRoom(in), slices.Clone(b[:cap(b)])
			call(in, b)
			if !same(withRoom(in), before) || !bytes.Equal(b[:cap(b)], bytesBefore) {
				t.Errorf("%s changed %s or its bytes", name, show(d))
			}
		}
	}
}

func TestP34RefusedCallsOnlyReadToo(t *testing.T) {
	over := roomy(some(api.MaxData+1), 77)
	for name, call := range calls() {
		for _, d := range append(wrong()[5:11], full()[:5]...) {
			in := roomyDisk(d)
			before := withRoom(in)
			call(in, over)
			if !same(withRoom(in), before) || !bytes.Equal(over[:api.MaxData+5], append(some(api.MaxData+1), 77, 77, 77, 77)) {
				t.Errorf("%s changed %s or its bytes", name, show(d))
			}
		}
	}
}

// pieces are all lists of bytes of a disk, with their spare room.
func pieces(d api.Disk) [][]byte {
	l := [][]byte{d.Data[:cap(d.Data)]}
	for _, p := range d.Wait[:cap(d.Wait)] {
		l = append(l, p.Data[:cap(p.Data)])
	}
	return l
}

func overwrite(b []byte) {
	for i := range b {
		b[i] ^= 255
	}
}

// shared is a disk all whose lists are one.
func shared(one []byte) api.Disk {
	return diskOf(one, api.Put{Data: one}, api.Put{Data: one}, api.Put{Swap: true, Data: one}, api.Put{Data: one})
}

func TestP34AnswersShareNothing(t *testing.T) {
	one := []byte{1, 2, 3}
	for name, call := range calls() {
		for _, d := range append(small(), shared(one)) {
			in, b := roomyDisk(d), []byte{5, 6}
			if len(d.Data) == len(one) {
				in, b = d, one
			}
			before := withRoom(in)
			answer, other := call(in, b), call(in, b)
			want, wantOther := withRoom(answer), withRoom(other)
			for i, piece := range pieces(answer) {
				overwrite(piece)
				overwrite(pieces(want)[i])
				if !same(withRoom(answer), want) {
					t.Fatalf("%s of %s: two lists of the answer share memory", name, show(d))
				}
			}
			clear(answer.Wait[:cap(answer.Wait)])
			if !same(withRoom(in), before) || !same(withRoom(other), wantOther) {
				t.Fatalf("%s of %s: the answer shares memory with what was handed in, or with an earlier one", name, show(d))
			}
		}
	}
}

func TestP34WhatIsHandedInIsNotKept(t *testing.T) {
	for name, call := range calls() {
		for _, d := range small() {
			in, b := roomyDisk(d), roomy([]byte{5, 6}, 77)
			answer := call(in, b)
			want := withRoom(answer)
			overwrite(b[:cap(b)])
			for _, piece := range pieces(in) {
				overwrite(piece)
			}
			clear(in.Wait[:cap(in.Wait)])
			if !same(withRoom(answer), want) {
				t.Fatalf("%s of %s: the answer hangs on what was handed in", name, show(d))
			}
		}
	}
}

func TestP35WhatIsSeenIsAsTheWriteSays(t *testing.T) {
	for _, d := range append(small(), full()...) {
		seen, _ := disk.See(d)
		for _, b := range [][]byte{nil, {7}, {7, 8, 9}, some(3000)} {
			if r, e := disk.Append(d, b); e == api.OK {
				wantSee(t, r, append(slices.Clip(seen), b...))
			}
			if r, e := disk.Swap(d, b); e == api.OK {
				wantSee(t, r, b)
			}
		}
	}
}

func TestP35AndW2BehindSyncNothingIsLost(t *testing.T) {
	for _, d := range append(small(), full()...) {
		seen, _ := disk.See(d)
		r, e := disk.Sync(d)
		if e != api.OK {
			t.Fatal(show(d), e)
		}
		wantSee(t, r, seen)
		for _, many := range []int{0, 1, math.MaxInt} {
			wantCrash(t, r, 0, many, seen)
		}
		// Nor by a crash that comes with a later write.
		if r, e := disk.Append(r, []byte{7, 8}); e == api.OK {
			wantCrash(t, r, 0, 0, seen)
			wantCrash(t, r, 0, 1, append(slices.Clip(seen), 7))
			wantCrash(t, r, 1, 0, append(slices.Clip(seen), 7, 8))
		}
		if r, e := disk.Swap(r, []byte{7, 8}); e == api.OK {
			wantCrash(t, r, 0, 1, seen)
			wantCrash(t, r, 1, 0, []byte{7, 8})
		}
	}
}

// mayBeLeft asks P3.5's own words: what was there behind a Swap or ahead of all, and a beginning of what came behind it.
func mayBeLeft(d api.Disk, left []byte) bool {
	start, came := d.Data, []byte(nil)
	fits := func() bool {
		return bytes.HasPrefix(left, start) && bytes.HasPrefix(came, left[len(start):])
	}
	for _, p := range d.Wait {
		if p.Swap && fits() {
			return true
		}
		if p.Swap {
			start, came = p.Data, nil
		} else {
			came = append(came, p.Data...)
		}
	}
	return fits()
}

func TestP35WhatACrashLeaves(t *testing.T) {
	for _, d := range small() {
		seen, _ := disk.See(d)
		swaps := slices.ContainsFunc(d.Wait, func(p api.Put) bool { return p.Swap })
		for keep := range len(d.Wait) + 1 {
			for many := range 5 {
				r, e := disk.Crash(d, keep, many)
				if e != api.OK || !mayBeLeft(d, r.Data) {
					t.Errorf("Crash(%s, %d, %d) = %s, %d", show(d), keep, many, show(r), e)
				}
				if !swaps && !(bytes.HasPrefix(seen, r.Data) && bytes.HasPrefix(r.Data, d.Data)) {
					t.Errorf("Crash(%s, %d, %d) = %s; no Swap waits, and %s is seen", show(d), keep, many, show(r), brief(seen))
				}
			}
		}
	}
}

func TestP35EveryBeginningCanBeLeft(t *testing.T) {
	d := diskOf([]byte{1}, behind(2, 3), api.Put{}, behind(4), behind(5, 6, 7))
	seen, _ := disk.See(d)
	found := map[int]int{}
	for keep := range len(d.Wait) + 1 {
		for many := range 5 {
			r, _ := disk.Crash(d, keep, many)
			found[len(r.Data)]++
		}
	}
	for size := len(d.Data); size <= len(seen); size++ {
		if found[size] == 0 {
			t.Errorf("no crash leaves %v", seen[:size])
		}
	}
}

// script makes a disk out of any bytes, so that the fuzzer can.
func script(b []byte) api.Disk {
	var d api.Disk
	for len(b) > 0 {
		size := min(int(b[0]>>2), len(b)-1)
		data := b[1 : 1+size]
		switch b[0] & 3 {
		case 0:
			d.Wait = append(d.Wait, api.Put{Data: data})
		case 1:
			d.Wait = append(d.Wait, api.Put{Swap: true, Data: data})
		default:
			d.Wait = append(d.Wait, api.Put{Swap: b[0]&1 == 1, Data: bytes.Repeat(data, 20000)})
		}
		b = b[1+size:]
	}
	return d
}

func mayBe(d api.Disk) bool {
	for n := range len(d.Wait) + 1 {
		if len(meant(d.Data, d.Wait[:n])) > api.MaxData {
			return false
		}
	}
	return len(d.Wait) <= api.MaxWait
}

func FuzzCrash(f *testing.F) {
	f.Add([]byte{4, 1, 9, 2, 3, 0, 254, 8}, 1, 1)
	f.Add(bytes.Repeat([]byte{255, 1, 2, 3, 4, 5, 6, 7}, 9), 3, 70000)
	f.Fuzz(func(t *testing.T, b []byte, keep, many int) {
		d := script(b)
		if !mayBe(d) {
			wantCrashError(t, d, keep, many, api.ErrDisk)
			return
		}
		wantSee(t, d, meant(d.Data, d.Wait))
		if keep < 0 || keep > len(d.Wait) || many < 0 {
			wantCrashError(t, d, keep, many, api.ErrArg)
			return
		}
		wantCrash(t, d, keep, many, meantCrash(d, keep, many))
	})
}

func ExampleCrash() {
	d, _ := disk.Append(api.Disk{Data: []byte("hear ")}, []byte("ye"))
	seen, _ := disk.See(d)
	torn, e := disk.Crash(d, 0, 1)
	fmt.Printf("%q %q %t\n", seen, torn.Data, e == api.OK)
	// Output: "hear ye" "hear y" true
}
