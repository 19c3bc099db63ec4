package num_test

import (
	"bytes"
	"fmt"
	"slices"
	"strings"
	"testing"

	"towncrier/api"
	"towncrier/num"
)

func wantPut(t *testing.T, n int, want ...byte) {
	t.Helper()
	if b, e := num.Put(n); e != api.OK || !bytes.Equal(b, want) {
		t.Errorf("Put(%d) = %v, %d; want %v", n, b, e, want)
	}
}

func wantGet(t *testing.T, b []byte, n, size int) {
	t.Helper()
	if m, k, e := num.Get(b); e != api.OK || m != n || k != size {
		t.Errorf("Get(%v) = %d, %d, %d; want %d, %d", b, m, k, e, n, size)
	}
}

func wantGetBad(t *testing.T, b ...byte) {
	t.Helper()
	if n, size, e := num.Get(b); e != api.ErrBad || n != 0 || size != 0 {
		t.Errorf("Get(%v) = %d, %d, %d; want 0, 0, ErrBad", b, n, size, e)
	}
}

func wantGetTextBad(t *testing.T, b []byte) {
	t.Helper()
	if s, size, e := num.GetText(b); e != api.ErrBad || s != "" || size != 0 {
		t.Errorf("GetText of %d bytes = %q, %d, %d; want none, 0, ErrBad", len(b), s, size, e)
	}
}

func wantGetInts(t *testing.T, b []byte, most int, l []int, size int) {
	t.Helper()
	if m, k, e := num.GetInts(b, most); e != api.OK || !slices.Equal(m, l) || k != size {
		t.Errorf("GetInts of %d bytes, %d = %v, %d, %d; want %v, %d", len(b), most, m, k, e, l, size)
	}
}

func wantGetIntsError(t *testing.T, b []byte, most int, want api.Errno) {
	t.Helper()
	if l, size, e := num.GetInts(b, most); e != want || len(l) != 0 || size != 0 {
		t.Errorf("GetInts of %d bytes, %d = %v, %d, %d; want none, 0, %d", len(b), most, l, size, e, want)
	}
}

// edges are the numbers at which the bytes grow by one, their neighbours, and the last that may be written.
func edges() []int {
	l := []int{0, 1, 2, 126}
	for _, shift := range []int{7, 14, 21, 28, 35} {
		l = append(l, 1<<shift-1, 1<<shift, 1<<shift+1)
	}
	return append(l, api.MaxNum-1, api.MaxNum)
}

// bytesOf tells a number's bytes by division, as the chapter's words do, not by shifts.
func bytesOf(n int) []byte {
	if n < 128 {
		return []byte{byte(n)}
	}
	return append([]byte{byte(n%128 + 128)}, bytesOf(n/128)...)
}

func mustText(t *testing.T, s string) []byte {
	t.Helper()
	b, e := num.Text(s)
	if e != api.OK {
		t.Fatalf("Text of %d bytes: %d", len(s), e)
	}
	return b
}

func mustInts(t *testing.T, l []int) []byte {
	t.Helper()
	b, e := num.Ints(l)
	if e != api.OK {
		t.Fatalf("Ints of %d numbers: %d", len(l), e)
	}
	return b
}

func TestChapterExamples(t *testing.T) {
	wantPut(t, 0, 0)
	wantPut(t, 127, 127)
	wantPut(t, 128, 128, 1)
	if b, e := num.Put(-1); e != api.ErrArg || len(b) != 0 {
		t.Error(b, e)
	}
	wantGet(t, []byte{128, 1, 9}, 128, 2)
	wantGetBad(t, 128, 0)
	wantGetBad(t)
	wantGetBad(t, 128)
	if b := mustText(t, "ab"); !bytes.Equal(b, []byte{2, 97, 98}) {
		t.Error(b)
	}
	if b := mustInts(t, []int{3, 200}); !bytes.Equal(b, []byte{2, 3, 200, 1}) {
		t.Error(b)
	}
	wantGetInts(t, []byte{2, 3, 200, 1, 7}, 2, []int{3, 200}, 4)
	wantGetIntsError(t, []byte{2, 3, 200, 1, 7}, 1, api.ErrBad)
}

func TestP11PutWritesNumbersAsFewBytes(t *testing.T) {
	for _, n := range edges() {
		wantPut(t, n, bytesOf(n)...)
		wantGet(t, bytesOf(n), n, len(bytesOf(n)))
	}
	for n := range 1 << 17 {
		wantPut(t, n, bytesOf(n)...)
	}
	wantPut(t, api.MaxNum, 128, 128, 128, 128, 128, 32)
}

func TestP11PutRefuses(t *testing.T) {
	for _, n := range []int{-1, -2, -128, -1 << 40, -1 << 63, api.MaxNum + 1, 1 << 41, 1<<63 - 1} {
		if b, e := num.Put(n); e != api.ErrArg || len(b) != 0 {
			t.Errorf("Put(%d) = %v, %d", n, b, e)
		}
	}
}

func TestP11GetRefuses(t *testing.T) {
	for _, b := range [][]byte{
		nil, {}, {128}, {255}, {128, 128}, {129, 255, 128}, {128, 128, 128, 128, 128},
		{128, 0}, {129, 0}, {255, 0, 1}, {128, 128, 0}, {255, 255, 255, 255, 255, 0},
		{129, 128, 128, 128, 128, 32}, {128, 128, 128, 128, 129, 32}, {128, 128, 128, 128, 128, 33},
		{255, 255, 255, 255, 255, 32}, {255, 255, 255, 255, 255, 127},
		{128, 128, 128, 128, 128, 128}, {128, 128, 128, 128, 128, 160, 0}, {128, 128, 128, 128, 128, 128, 1},
		bytes.Repeat([]byte{128}, 10), append(bytes.Repeat([]byte{128}, 9), 1), append(bytes.Repeat([]byte{128}, 10), 1),
		bytes.Repeat([]byte{255}, 5000),
	} {
		wantGetBad(t, b...)
	}
}

// meant tells what Get is to answer by asking each beginning of b whether it is some number's bytes.
func meant(b []byte) (n, size int, ok bool) {
	for size := 1; size <= min(len(b), 6); size++ {
		n, by := 0, 1
		for _, c := range b[:size] {
			n, by = n+int(c)%128*by, by*128
		}
		if n <= api.MaxNum && bytes.Equal(bytesOf(n), b[:size]) {
			return n, size, true
		}
	}
	return 0, 0, false
}

func checkGet(t *testing.T, b []byte) {
	n, size, ok := meant(b)
	if !ok {
		wantGetBad(t, b...)
		return
	}
	wantGet(t, b, n, size)
	wantPut(t, n, b[:size]...)
}

func TestP11AndP15GetOfAllShortBytes(t *testing.T) {
	for a := range 256 {
		checkGet(t, []byte{byte(a)})
		for b := range 256 {
			checkGet(t, []byte{byte(a), byte(b)})
		}
	}
	kinds := []byte{0, 1, 32, 33, 128, 129, 255}
	var lengthen func(b []byte)
	lengthen = func(b []byte) {
		checkGet(t, b)
		if len(b) == 7 {
			return
		}
		for _, c := range kinds {
			lengthen(append(slices.Clip(b), c))
		}
	}
	lengthen(nil)
}

// texts have the lengths at which the bytes of a length grow, and the greatest; some are no UTF-8.
func texts() []string {
	l := []string{"", "a", "ab", "\x00", "\xff\x80", "naïve"}
	for _, long := range []int{127, 128, 129, api.MaxText - 1, api.MaxText} {
		l = append(l, strings.Repeat("x", long), strings.Repeat("\xc3", long))
	}
	return l
}

func TestP12TextsAreWrittenAndRead(t *testing.T) {
	for _, s := range texts() {
		b := mustText(t, s)
		want := append(bytesOf(len(s)), s...)
		if !bytes.Equal(b, want) {
			t.Errorf("Text of %d bytes tells %d", len(s), len(b))
		}
		if r, size, e := num.GetText(want); e != api.OK || r != s || size != len(want) {
			t.Errorf("GetText of %d bytes: %d, %d, %d", len(s), len(r), size, e)
		}
	}
}

func TestP12TextRefuses(t *testing.T) {
	for _, long := range []int{api.MaxText + 1, 2 * api.MaxText, 1 << 20} {
		if b, e := num.Text(strings.Repeat("x", long)); e != api.ErrText || len(b) != 0 {
			t.Errorf("Text of %d bytes = %d bytes, %d", long, len(b), e)
		}
	}
}

func TestP12GetTextRefuses(t *testing.T) {
	much := strings.Repeat("x", 2*api.MaxText)
	for _, b := range [][]byte{
		nil, {1}, {2, 97}, {128}, {128, 0}, {129, 0, 97}, {128, 128, 0},
		append(bytesOf(api.MaxText+1), much...),
		append(bytesOf(api.MaxNum), much...),
		append([]byte{129, 128, 128, 128, 128, 32}, much...),
		append(bytes.Repeat([]byte{128}, 9), 1),
		append(bytes.Repeat([]byte{255}, 8), 127),
	} {
		wantGetTextBad(t, b)
	}
	for _, s := range texts() {
		b := mustText(t, s)
		for at := range b {
			wantGetTextBad(t, b[:at])
		}
	}
}

func lists() [][]int {
	return [][]int{
		nil, {}, {0}, {3, 200}, {0, 0, 0}, {128, 127, 128}, {api.MaxNum}, edges(),
		make([]int, 127), slices.Repeat([]int{200}, 128),
		make([]int, api.MaxText-1), slices.Repeat([]int{api.MaxNum}, api.MaxText),
	}
}

func listBytes(l []int) []byte {
	b := bytesOf(len(l))
	for _, n := range l {
		b = append(b, bytesOf(n)...)
	}
	return b
}

func TestP13ListsAreWrittenAndRead(t *testing.T) {
	for _, l := range lists() {
		want := listBytes(l)
		if b := mustInts(t, l); !bytes.Equal(b, want) {
			t.Errorf("Ints of %d numbers tells %d bytes, want %d", len(l), len(b), len(want))
		}
		wantGetInts(t, want, len(l), l, len(want))
		wantGetInts(t, want, api.MaxText, l, len(want))
	}
}

func TestP13IntsRefuses(t *testing.T) {
	tooMany := make([]int, api.MaxText+1)
	tooManyAndWrong := slices.Repeat([]int{-1}, api.MaxText+1)
	for _, c := range []struct {
		l    []int
		want api.Errno
	}{
		{tooMany, api.ErrMany}, {tooManyAndWrong, api.ErrMany},
		{[]int{-1}, api.ErrArg}, {[]int{1, -1}, api.ErrArg}, {[]int{-1 << 63, 1}, api.ErrArg},
		{[]int{api.MaxNum + 1}, api.ErrArg}, {[]int{0, api.MaxNum, api.MaxNum + 1}, api.ErrArg},
		{append(make([]int, api.MaxText-1), -1), api.ErrArg},
	} {
		if b, e := num.Ints(c.l); e != c.want || len(b) != 0 {
			t.Errorf("Ints of %d numbers = %v, %d; want %d", len(c.l), b, e, c.want)
		}
	}
}

func TestP13GetIntsRefusesMost(t *testing.T) {
	for _, most := range []int{-1, -1 << 63, api.MaxText + 1, 1<<63 - 1} {
		for _, b := range [][]byte{nil, {0}, {1, 5}, {1}, {128, 0}} {
			wantGetIntsError(t, b, most, api.ErrArg)
		}
	}
}

func TestP13GetIntsKeepsToMost(t *testing.T) {
	for _, many := range []int{0, 1, 2, 127, 128, api.MaxText - 1, api.MaxText} {
		l := make([]int, many)
		b := listBytes(l)
		wantGetInts(t, b, many, l, len(b))
		if many > 0 {
			wantGetIntsError(t, b, many-1, api.ErrBad)
			wantGetIntsError(t, b, 0, api.ErrBad)
		}
	}
	wantGetIntsError(t, listBytes(make([]int, api.MaxText+1)), api.MaxText, api.ErrBad)
	wantGetInts(t, []byte{0, 9}, 0, nil, 1)
}

func TestP13GetIntsRefusesBytes(t *testing.T) {
	for _, b := range [][]byte{
		nil, {128}, {128, 0}, {1}, {2, 3}, {1, 128}, {1, 128, 0}, {129, 0, 3}, {2, 3, 128, 0},
		{1, 129, 128, 128, 128, 128, 32}, {2, 5, 128, 128, 128, 128, 128, 128, 1},
		bytesOf(api.MaxNum), {129, 128, 128, 128, 128, 32, 1, 1},
	} {
		wantGetIntsError(t, b, api.MaxText, api.ErrBad)
	}
	for _, l := range [][]int{{}, {3, 200}, edges(), slices.Repeat([]int{200}, 128)} {
		b := listBytes(l)
		for at := range b {
			wantGetIntsError(t, b[:at], api.MaxText, api.ErrBad)
		}
	}
}

// roomy is b with spare room that holds what nobody may change.
func roomy[T any](b []T, spare T) []T {
	return append(slices.Clone(b), spare, spare, spare, spare)[:len(b)]
}

func TestP14WhatIsHandedInIsOnlyRead(t *testing.T) {
	for _, b := range [][]byte{{200, 1}, {2, 97, 98}, {2, 3, 200, 1, 7}, {3, 128, 0}, {}} {
		in := roomy(b, 77)
		num.Get(in)
		num.GetText(in)
		num.GetInts(in, 3)
		if !bytes.Equal(in[:len(b)+4], append(slices.Clip(b), 77, 77, 77, 77)) {
			t.Error(b, in[:len(b)+4])
		}
	}
	for _, l := range [][]int{{3, 200}, {3, -1}, {}} {
		in := roomy(l, 77)
		num.Ints(in)
		if !slices.Equal(in[:len(l)+4], append(slices.Clip(l), 77, 77, 77, 77)) {
			t.Error(l, in[:len(l)+4])
		}
	}
}

func TestP14AnswersAreNewMemory(t *testing.T) {
	writers := map[string]func() []byte{
		"Put":  func() []byte { b, _ := num.Put(300); return b },
		"Text": func() []byte { b, _ := num.Text("hey"); return b },
		"Ints": func() []byte { b, _ := num.Ints([]int{3, 200}); return b },
	}
	for name, write := range writers {
		first, second := write(), write()
		keep := slices.Clone(second)
		clear(first[:cap(first)])
		if !bytes.Equal(second, keep) || !bytes.Equal(write(), keep) {
			t.Error(name, "shares memory with an earlier answer")
		}
	}
	in := []byte{2, 97, 98}
	s, _, _ := num.GetText(in)
	l, _, _ := num.GetInts(in, 2)
	m, _, _ := num.GetInts(in, 2)
	clear(in)
	clear(l)
	if s != "ab" || !slices.Equal(m, []int{97, 98}) {
		t.Error("GetText or GetInts shares memory:", s, m)
	}
}

func TestP15WhatIsWrittenIsReadWhateverStandsBehind(t *testing.T) {
	for _, behind := range [][]byte{nil, {0}, {1}, {127}, {128}, {255, 255}, {2, 97, 98}, bytes.Repeat([]byte{128}, 5000)} {
		for _, n := range edges() {
			b, _ := num.Put(n)
			wantGet(t, append(slices.Clip(b), behind...), n, len(b))
		}
		for _, s := range texts() {
			b := mustText(t, s)
			if r, size, e := num.GetText(append(slices.Clip(b), behind...)); e != api.OK || r != s || size != len(b) {
				t.Errorf("GetText of %d bytes with more behind: %d, %d, %d", len(s), len(r), size, e)
			}
		}
		for _, l := range lists() {
			b := mustInts(t, l)
			wantGetInts(t, append(slices.Clip(b), behind...), len(l), l, len(b))
		}
	}
}

func checkTextAndListReadAsWritten(t *testing.T, b []byte) {
	if s, size, e := num.GetText(b); e == api.OK && !bytes.Equal(mustText(t, s), b[:size]) {
		t.Errorf("GetText(%v) = %q, %d", b, s, size)
	}
	if l, size, e := num.GetInts(b, api.MaxText); e == api.OK && !bytes.Equal(mustInts(t, l), b[:size]) {
		t.Errorf("GetInts(%v) = %v, %d", b, l, size)
	}
}

func TestP15WhatIsReadIsWrittenAsJustTheseBytes(t *testing.T) {
	kinds := []byte{0, 1, 2, 3, 127, 128, 129, 255}
	var lengthen func(b []byte)
	lengthen = func(b []byte) {
		checkTextAndListReadAsWritten(t, b)
		if len(b) == 5 {
			return
		}
		for _, c := range kinds {
			lengthen(append(slices.Clip(b), c))
		}
	}
	lengthen(nil)
}

func TestP15NoNumbersBytesBeginAnothers(t *testing.T) {
	l := edges()
	for n := range 600 {
		l = append(l, n*131)
	}
	for _, n := range l {
		for _, m := range l {
			a, _ := num.Put(n)
			b, _ := num.Put(m)
			if n != m && bytes.HasPrefix(a, b) {
				t.Errorf("the bytes of %d begin with those of %d", n, m)
			}
		}
	}
}

func ExamplePut() {
	b, e := num.Put(300)
	n, size, _ := num.Get(b)
	fmt.Println(b, e == api.OK, n, size)
	// Output: [172 2] true 300 2
}
