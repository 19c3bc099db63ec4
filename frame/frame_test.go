package frame_test

import (
	"bytes"
	"fmt"
	"slices"
	"strings"
	"testing"

	"towncrier/api"
	"towncrier/frame"
)

const maxTexts = 65536 // that Join takes

// bytesOf tells a number's bytes by division, as the document's words do.
func bytesOf(n int) []byte {
	if n < 128 {
		return []byte{byte(n)}
	}
	return append([]byte{byte(n%128 + 128)}, bytesOf(n/128)...)
}

// framesOf tells the frames that are meant, without the package's help.
func framesOf(l ...string) []byte {
	var b []byte
	for _, s := range l {
		b = append(append(b, bytesOf(len(s))...), s...)
	}
	return b
}

func text(long int) string {
	return strings.Repeat("x", long)
}

func brief(b []byte) string {
	if len(b) > 20 {
		return fmt.Sprintf("%v.. (%d bytes)", b[:20], len(b))
	}
	return fmt.Sprint(b)
}

func wantFrame(t *testing.T, s string) {
	t.Helper()
	if b, e := frame.Frame(s); e != api.OK || !bytes.Equal(b, framesOf(s)) {
		t.Errorf("Frame of %d bytes = %s, %d", len(s), brief(b), e)
	}
}

func wantJoin(t *testing.T, l []string) {
	t.Helper()
	if b, e := frame.Join(l); e != api.OK || !bytes.Equal(b, framesOf(l...)) {
		t.Errorf("Join of %d texts = %s, %d", len(l), brief(b), e)
	}
}

func wantJoinError(t *testing.T, l []string, want api.Errno) {
	t.Helper()
	if b, e := frame.Join(l); e != want || len(b) != 0 {
		t.Errorf("Join of %d texts = %s, %d; want none, %d", len(l), brief(b), e, want)
	}
}

func wantCut(t *testing.T, b []byte, size int, l ...string) {
	t.Helper()
	if m, n, e := frame.Cut(b); e != api.OK || !slices.Equal(m, l) || n != size {
		t.Errorf("Cut(%s) = %d texts, %d, %d; want %d texts, %d", brief(b), len(m), n, e, len(l), size)
	}
}

func wantCutError(t *testing.T, b []byte) {
	t.Helper()
	if l, n, e := frame.Cut(b); e != api.ErrText || len(l) != 0 || n != 0 {
		t.Errorf("Cut(%s) = %d texts, %d, %d; want none, 0, ErrText", brief(b), len(l), n, e)
	}
}

// lists are of texts at whose lengths the bytes of a length grow, of empty ones and of such that are no UTF-8.
func lists() [][]string {
	return [][]string{
		nil, {}, {""}, {"", ""}, {"", "", "", "a"}, {"a"}, {"ab", ""}, {"", "ab"},
		{"hear", "", "ye", text(200), "\x00\x01"},
		{"\x02ab", "\xff\x80", "\x80\x00", "naïve"},
		{text(127), text(128), text(129)},
		{text(api.MaxFrame - 1), "", text(api.MaxFrame)},
	}
}

// beginNone are bytes with which no frame begins.
func beginNone() [][]byte {
	return [][]byte{
		nil, {}, {1}, {2, 97}, {127}, {128}, {255, 255}, {128, 0}, {129, 0, 97}, {128, 128, 0, 1},
		append(bytesOf(api.MaxFrame), text(api.MaxFrame-1)...),
		append(bytesOf(api.MaxFrame+1), text(2*api.MaxFrame)...),
		append(bytesOf(1<<19), text(1<<19)...),
		append(bytesOf(api.MaxNum), text(100)...),
		append(bytesOf(1<<62), text(100)...),
		append(bytes.Repeat([]byte{255}, 9), 1),
		bytes.Repeat([]byte{128}, api.MaxData),
		bytes.Repeat([]byte{255}, api.MaxData),
	}
}

func TestChapterExamples(t *testing.T) {
	if b, e := frame.Join([]string{"ab", ""}); e != api.OK || !bytes.Equal(b, []byte{2, 97, 98, 0}) {
		t.Error(b, e)
	}
	wantCut(t, []byte{2, 97, 98, 0, 5, 97}, 4, "ab", "")
	wantCut(t, []byte{2, 97}, 0)
	wantCut(t, []byte{128, 0}, 0)
	if b, e := frame.Frame(text(4097)); e != api.ErrText || len(b) != 0 {
		t.Error(len(b), e)
	}
}

func TestP21FrameIsTheTextsBytes(t *testing.T) {
	for _, l := range lists() {
		for _, s := range l {
			wantFrame(t, s)
		}
	}
	for long := range api.MaxFrame + 1 {
		wantFrame(t, text(long))
	}
}

func TestP21FrameRefusesLongTexts(t *testing.T) {
	for _, long := range []int{api.MaxFrame + 1, 2 * api.MaxFrame, api.MaxData, api.MaxData + 1} {
		if b, e := frame.Frame(text(long)); e != api.ErrText || len(b) != 0 {
			t.Errorf("Frame of %d bytes = %d bytes, %d", long, len(b), e)
		}
	}
}

func TestP21JoinIsFramesOneBehindTheOther(t *testing.T) {
	for _, l := range lists() {
		wantJoin(t, l)
	}
}

func TestP21JoinRefusesTooManyTexts(t *testing.T) {
	wantJoin(t, make([]string, maxTexts))
	wantJoin(t, slices.Repeat([]string{"a"}, maxTexts))
	wantJoinError(t, make([]string, maxTexts+1), api.ErrMany)
	wantJoinError(t, make([]string, 1<<20), api.ErrMany)
	// How many there are is looked for ahead of what they are.
	wantJoinError(t, slices.Repeat([]string{text(api.MaxFrame + 1)}, maxTexts+1), api.ErrMany)
	wantJoinError(t, slices.Repeat([]string{text(100)}, maxTexts+1), api.ErrMany)
	wantJoinError(t, slices.Repeat([]string{text(api.MaxFrame + 1)}, maxTexts), api.ErrText)
}

func TestP21JoinRefusesALongText(t *testing.T) {
	wrong := text(api.MaxFrame + 1)
	for _, l := range [][]string{{wrong}, {"a", wrong}, {wrong, "a"}, {"", wrong, wrong}, append(make([]string, maxTexts-1), wrong)} {
		wantJoinError(t, l, api.ErrText)
	}
}

// asManyBytes are texts whose frames are as many bytes together.
func asManyBytes(size, most int) []string {
	var l []string
	for left := size; left > 0; {
		long := min(most, left-1)
		if long > 127 {
			long = min(most, left-2)
		}
		l = append(l, text(long))
		left -= len(framesOf(text(long)))
	}
	return l
}

func TestP21JoinRefusesMoreThanMaxDataInAll(t *testing.T) {
	for _, most := range []int{16, 127, 128, 1000, api.MaxFrame} {
		full, over := asManyBytes(api.MaxData, most), asManyBytes(api.MaxData+1, most)
		if len(framesOf(full...)) != api.MaxData || len(framesOf(over...)) != api.MaxData+1 || len(over) > maxTexts {
			t.Fatal(most, len(framesOf(full...)), len(framesOf(over...)), len(over))
		}
		wantJoin(t, full)
		wantJoinError(t, over, api.ErrText)
		wantJoinError(t, append(slices.Clip(full), ""), api.ErrText)
		wantJoinError(t, append([]string{""}, full...), api.ErrText)
	}
	// Both bounds at once: as many texts as may be, and as many bytes.
	both := slices.Repeat([]string{text(15)}, maxTexts)
	wantJoin(t, both)
	wantJoinError(t, append(slices.Clip(both), ""), api.ErrMany)
	wantJoinError(t, append(slices.Clip(both[1:]), text(16)), api.ErrText)
	wantJoinError(t, slices.Repeat([]string{text(api.MaxFrame)}, 256), api.ErrText)
	wantJoinError(t, slices.Repeat([]string{text(api.MaxFrame)}, maxTexts), api.ErrText)
}

func TestP22CutTellsAsManyFramesAsCanBe(t *testing.T) {
	for _, l := range lists() {
		b := framesOf(l...)
		wantCut(t, b, len(b), l...)
		for _, behind := range beginNone() {
			if len(b)+len(behind) <= api.MaxData {
				wantCut(t, append(slices.Clip(b), behind...), len(b), l...)
			}
		}
	}
	// Behind what begins no frame nothing is looked for, were it a whole frame.
	wantCut(t, []byte{1, 97, 128, 0, 1, 98}, 2, "a")
}

func TestP22CutOfBytesThatBeginNoFrame(t *testing.T) {
	for _, b := range beginNone() {
		wantCut(t, b, 0)
	}
}

func TestP22CutKeepsToMaxData(t *testing.T) {
	wantCut(t, make([]byte, api.MaxData), api.MaxData, make([]string, api.MaxData)...)
	l := asManyBytes(api.MaxData, api.MaxFrame)
	b := framesOf(l...)
	wantCut(t, b, api.MaxData, l...)
	wantCut(t, b[:len(b)-1], len(framesOf(l[:len(l)-1]...)), l[:len(l)-1]...)
	wantCutError(t, append(b, 0))
	wantCutError(t, append(b, 128))
	wantCutError(t, make([]byte, api.MaxData+1))
	wantCutError(t, bytes.Repeat([]byte{255}, api.MaxData+1))
	wantCutError(t, make([]byte, 2*api.MaxData))
}

// roomy is a list with spare room that holds what nobody may change.
func roomy[T any](l []T, spare T) []T {
	return append(slices.Clone(l), spare, spare, spare, spare)[:len(l)]
}

func untouched[T comparable](in, l []T, spare T) bool {
	return slices.Equal(in[:len(l)+4], append(slices.Clip(l), spare, spare, spare, spare))
}

func TestP23WhatIsHandedInIsOnlyRead(t *testing.T) {
	for _, l := range append(lists(), []string{"a", text(api.MaxFrame + 1)}) {
		in := roomy(l, "spare")
		frame.Join(in)
		if !untouched(in, l, "spare") {
			t.Errorf("Join changed a list of %d texts", len(l))
		}
		b := append(framesOf(l...), 128)
		bytesIn := roomy(b, 77)
		frame.Cut(bytesIn)
		if !untouched(bytesIn, b, 77) {
			t.Errorf("Cut changed %s", brief(b))
		}
	}
}

func TestP23CutReadsNoSpareRoom(t *testing.T) {
	wantCut(t, []byte{1, 97, 2, 98, 99, 0}[:4], 2, "a")
	wantCut(t, []byte{1, 97, 0, 0}[:2], 2, "a")
	wantCut(t, []byte{0, 0}[:0], 0)
}

func TestP23AnswersAreNewMemory(t *testing.T) {
	writers := map[string]func() []byte{
		"Frame": func() []byte { b, _ := frame.Frame("hey"); return b },
		"Join":  func() []byte { b, _ := frame.Join([]string{"hey", "", "ho"}); return b },
		"Join1": func() []byte { b, _ := frame.Join([]string{"hey"}); return b },
	}
	for name, write := range writers {
		first, second := write(), write()
		keep := slices.Clone(second)
		clear(first[:cap(first)])
		if !bytes.Equal(second, keep) || !bytes.Equal(write(), keep) {
			t.Error(name, "shares memory with an earlier answer")
		}
	}
	in := framesOf("hey", "", "ho")
	first, _, _ := frame.Cut(in)
	second, _, _ := frame.Cut(in)
	clear(first[:cap(first)])
	clear(in)
	if !slices.Equal(second, []string{"hey", "", "ho"}) {
		t.Error("Cut shares memory:", second)
	}
}

func TestP24CutOfJoinIsAllTheTexts(t *testing.T) {
	all := append(lists(), make([]string, maxTexts), slices.Repeat([]string{text(15)}, maxTexts), asManyBytes(api.MaxData, api.MaxFrame))
	for _, l := range all {
		b, e := frame.Join(l)
		if e != api.OK {
			t.Fatal(len(l), e)
		}
		wantCut(t, b, len(b), l...)
	}
}

func TestP24JoinOfOneIsItsFrame(t *testing.T) {
	for _, long := range []int{0, 1, 127, 128, api.MaxFrame} {
		one, _ := frame.Frame(text(long))
		all, _ := frame.Join([]string{text(long)})
		if !bytes.Equal(one, all) {
			t.Error(long, brief(one), brief(all))
		}
	}
}

// wantBrokenOff asks at each place what is whole there and what is not.
func wantBrokenOff(t *testing.T, l []string) {
	t.Helper()
	b, e := frame.Join(l)
	if e != api.OK {
		t.Fatal(len(l), e)
	}
	whole, end := 0, 0
	for at := range len(b) + 1 {
		for whole < len(l) && end+len(framesOf(l[whole])) <= at {
			end += len(framesOf(l[whole]))
			whole++
		}
		wantCut(t, b[:at], end, l[:whole]...)
	}
}

func TestP24AndW2BytesBrokenOffAnywhere(t *testing.T) {
	for _, l := range lists() {
		wantBrokenOff(t, l)
	}
	wantBrokenOff(t, make([]string, 300))
	wantBrokenOff(t, slices.Repeat([]string{"\x01", "\x80", "\x00\x00"}, 100))
}

func TestP24JoinOfCutIsWhatItTook(t *testing.T) {
	kinds := []byte{0, 1, 2, 3, 127, 128, 129, 255}
	var lengthen func(b []byte)
	lengthen = func(b []byte) {
		l, size, e := frame.Cut(b)
		again, wrong := frame.Join(l)
		if e != api.OK || wrong != api.OK || !bytes.Equal(again, b[:size]) {
			t.Errorf("Cut(%v) = %q, %d, %d; Join of these %v, %d", b, l, size, e, again, wrong)
		}
		// What is torn begins no frame, or there would have been one more.
		wantCut(t, b[size:], 0)
		if len(b) == 5 {
			return
		}
		for _, c := range kinds {
			lengthen(append(slices.Clip(b), c))
		}
	}
	lengthen(nil)
}

func TestP24JoinOfCutHoldsToMaxTexts(t *testing.T) {
	for _, c := range []struct {
		many int
		want api.Errno
	}{{maxTexts - 1, api.OK}, {maxTexts, api.OK}, {maxTexts + 1, api.ErrMany}} {
		l, size, e := frame.Cut(make([]byte, c.many))
		b, wrong := frame.Join(l)
		if e != api.OK || size != c.many || wrong != c.want || wrong == api.OK && len(b) != c.many {
			t.Error(c.many, size, e, len(b), wrong)
		}
	}
}

func TestP24WhatStandsBehindChangesNoWholeFrame(t *testing.T) {
	for _, l := range lists() {
		b, _ := frame.Join(l)
		for _, behind := range [][]byte{{0}, {1, 97}, {2, 97}, {128}, {128, 0}, {255, 255}, framesOf("hey", "ho"), bytes.Repeat([]byte{128}, 5000)} {
			m, size, e := frame.Cut(append(slices.Clip(b), behind...))
			if e != api.OK || size < len(b) || len(m) < len(l) || !slices.Equal(m[:len(l)], l) {
				t.Errorf("%d texts with %s behind: %d texts, %d, %d", len(l), brief(behind), len(m), size, e)
			}
		}
	}
}

func FuzzCut(f *testing.F) {
	for _, l := range lists() {
		f.Add(framesOf(l...))
	}
	f.Fuzz(func(t *testing.T, b []byte) {
		l, size, e := frame.Cut(b)
		if len(b) > api.MaxData {
			return
		}
		if e != api.OK || size > len(b) || !bytes.Equal(framesOf(l...), b[:size]) {
			t.Errorf("Cut(%s) = %d texts, %d, %d", brief(b), len(l), size, e)
		}
	})
}

func ExampleCut() {
	b, _ := frame.Join([]string{"hear", "ye"})
	texts, size, e := frame.Cut(b[:len(b)-1])
	fmt.Println(texts, size, e == api.OK)
	// Output: [hear] 5 true
}
