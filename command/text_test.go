package command_test

import (
	"math"
	"slices"
	"strings"
	"testing"

	"towncrier/api"
	"towncrier/command"
)

// TestP122TextsAsTheyStand has whole texts written out, so that the tests' own words are held against something too.
func TestP122TextsAsTheyStand(t *testing.T) {
	for _, c := range []struct {
		c api.Command
		s string
	}{
		{api.Command{}, "\x00"},
		{assign(0, []int{3}, 0, "", ""), "\x01\x00\x01\x03\x00\x00\x00"},
		{assign(300, []int{0, 1, 2, 3}, 2, "key", "body"), "\x01\xac\x02\x04\x00\x01\x02\x03\x02\x03key\x04body"},
		{assign(lastId, []int{1, 2}, 3, long(16), long(64)), "\x01\xff\xff\xff\x02\x02\x01\x02\x03\x10" + long(16) + "\x40" + long(64)},
		{final(0, 1), "\x02\x00\x01"},
		{final(127, 128), "\x02\x7f\x80\x01"},
		{final(lastId, lastTime), "\x02\xff\xff\xff\x02\x80\x80\x80\x80\x04"},
		{members(4), "\x03\x01\x04"},
		{members(0, 1, 2, 3, 4, 5), "\x03\x06\x00\x01\x02\x03\x04\x05"},
		{commit(0, 0, 0, 0), "\x04\x00\x00\x00\x00"},
		{commit(1, 2, 7, 128), "\x04\x01\x02\x07\x80\x01"},
		{commit(lastId, 3, 6, lastTime), "\x04\xff\xff\xff\x02\x03\x06\x80\x80\x80\x80\x04"},
		{retain(1, 2, 3), "\x05\x01\x02\x03"},
		{retain(16384, 0, lastTime-1), "\x05\x80\x80\x01\x00\xff\xff\xff\xff\x03"},
		{compact(3, 1, 0), "\x06\x03\x01\x00"},
		{compact(16383, 3, 16384), "\x06\xff\x7f\x03\x80\x80\x01"},
	} {
		wantCommand(t, c.c)
		if s, e := command.Write(c.c); s != c.s || e != api.OK {
			t.Errorf("Write(%s) = %q, %d; want %q", show(c.c), s, e, c.s)
		}
	}
}

// TestP122HowLongATextMayBe: more bytes than a value may have are ErrText, whatever they are; fewer are ErrBad, as no command has so many.
func TestP122HowLongATextMayBe(t *testing.T) {
	for _, size := range []int{longest, longest + 1, 128, 1000, 1023, 1024, 1025, 1026, 2048, 4095, 4096, 4097, 1 << 20, 1 << 24} {
		want := api.ErrBad
		if size > 1024 {
			want = api.ErrText
		}
		for _, of := range []string{"\x00", "\x01", "\x02", "\x03", "\x06", "\x07", "\x7f", "\x80", "\xff", "é"} {
			s := strings.Repeat(of, size)[:size]
			if c, e := command.Read(s); !isZero(c) || e != want {
				t.Errorf("Read(%s) = %s, %d; want none, %d", brief(s), show(c), e, want)
			}
		}
		for _, good := range few() {
			text := textOf(good)
			if len(text) >= size {
				continue
			}
			for _, s := range []string{text + strings.Repeat("\x00", size-len(text)), strings.Repeat("\x00", size-len(text)) + text} {
				if c, e := command.Read(s); !isZero(c) || e != want {
					t.Errorf("Read(%s) = %s, %d; want none, %d", brief(s), show(c), e, want)
				}
			}
		}
	}
}

func TestP122ReadOfNone(t *testing.T) { wantNoText(t, "") }

func TestP122ReadOfCutTexts(t *testing.T) {
	for _, c := range many() {
		text := textOf(c)
		for at := range len(text) {
			wantNoText(t, text[:at])
		}
	}
	// Cut in front, what is left may be a command's: a body may be one's text.
	for _, c := range append(few(), assign(5, []int{1}, 0, "", textOf(final(3, 200)))) {
		text := textOf(c)
		for at := range len(text) {
			for end := at; end <= len(text); end++ {
				wantReadAsWords(t, text[at:end])
			}
		}
	}
}

func TestP122ReadOfTextsWithBytesBehind(t *testing.T) {
	for _, c := range many() {
		text := textOf(c)
		for _, behind := range []string{"\x00", "\x01", "\x7f", "\x80", "\xff", "\x00\x00", text, long(900)} {
			wantNoText(t, text+behind)
		}
	}
	for _, c := range few() {
		text := textOf(c)
		for b := range 256 {
			wantNoText(t, text+string([]byte{byte(b)}))
			wantReadAsWords(t, string([]byte{byte(b)})+text)
		}
		for _, d := range few() {
			wantNoText(t, text+textOf(d))
		}
	}
}

// inPlace is a text, with other bytes in the place of one of its parts.
func inPlace(parts []part, at int, other string) string {
	return joined(parts[:at]) + other + joined(parts[at+1:])
}

// longer are a number's bytes with more of them than it needs: the last one says that more follow, and these add nothing.
func longer(n uint64, more int) string {
	b := []byte(bytesOf(n))
	b[len(b)-1] += 128
	return string(b) + strings.Repeat("\x80", more-1) + "\x00"
}

func TestP122ReadOfNumbersInALongerForm(t *testing.T) {
	for _, c := range few() {
		parts := partsOf(c)
		all := ""
		for at, p := range parts {
			if p.isText {
				all += p.bytes
				continue
			}
			if s := inPlace(parts, at, bytesOf(p.n)); s != textOf(c) {
				t.Fatal(show(c), at, brief(s))
			}
			for more := 1; more <= 10; more++ {
				wantNoText(t, inPlace(parts, at, longer(p.n, more)))
			}
			all += longer(p.n, 1)
		}
		wantNoText(t, all)
	}
}

// tooGreat are numbers that no field has: those that lose bits in a byte, in 32, in 41 and in 63 of them are what the field had.
func tooGreat(n uint64) (l []string) {
	for _, more := range []uint64{1 << 31, 1 << 32, 1 << 39, 1 << 40, 1 << 41, 1 << 42, 1 << 48, 1 << 62, 1 << 63} {
		l = append(l, bytesOf(n+more))
	}
	// These have more than 64 bits.
	b := []byte(bytesOf(n + 1<<63))
	b[9] += 2
	l = append(l, string(b))
	b[9] += 126
	return append(l, string(b)+"\x01", strings.Repeat("\xff", 9)+"\x01", strings.Repeat("\xff", 9)+"\x7f", strings.Repeat("\xff", 20)+"\x01", bytesOf(math.MaxUint64), bytesOf(math.MaxInt64))
}

func TestP122ReadOfNumbersTooGreatForTheirField(t *testing.T) {
	for _, c := range few() {
		parts := partsOf(c)
		for at, p := range parts {
			if p.isText {
				continue
			}
			for _, great := range tooGreat(p.n) {
				wantNoText(t, inPlace(parts, at, great))
			}
			// A number may be greater by these and be one of that field: then it is read as that.
			for _, more := range []uint64{1, 2, 4, 64, 128, 256, 512, 1 << 16, 1 << 20, 1 << 24} {
				wantReadAsWords(t, inPlace(parts, at, bytesOf(p.n+more)))
			}
		}
	}
}

// TestP122ReadOfKindsThatThereAreNot has texts of all kinds, with other numbers in the place of the kind: some have as many fields as another kind.
func TestP122ReadOfKindsThatThereAreNot(t *testing.T) {
	for _, c := range few() {
		parts := partsOf(c)
		for kind := range 1024 {
			got, ok := wantReadAsWords(t, inPlace(parts, 0, bytesOf(uint64(kind))))
			if ok && (kind > 6 || int(got.Kind) != kind) {
				t.Error(kind, show(got))
			}
		}
		for kind := range 128 {
			wantReadAsWords(t, string([]byte{byte(kind)}))
		}
	}
}

// TestP122ReadOfFieldsThatMayNotBe has the fields at all edges: what is not written is not read.
func TestP122ReadOfFieldsThatMayNotBe(t *testing.T) {
	edges := []int{0, 1, 2, 3, 4, 5, 6, 7, 8, 9, 127, 128, 255, 256, 257, 260, lastId - 1, lastId, lastId + 1, 1 << 23, lastTime - 1, lastTime, lastTime + 1, 1 << 31, 1 << 32, 1 << 40, 1<<40 + 1}
	for _, a := range edges {
		for _, b := range edges {
			for _, text := range [][]part{
				numbers(2, a, b), numbers(3, a, b), numbers(3, 2, a, b),
				numbers(4, a, b, 0, 0), numbers(4, a, 0, b, 0), numbers(4, a, 0, 0, b), numbers(4, 0, a, b, 0), numbers(4, 0, 0, a, b), numbers(4, 0, a, 0, b),
				numbers(5, a, b, 0), numbers(5, a, 0, b), numbers(5, 0, a, b), numbers(6, a, b, 0), numbers(6, a, 0, b), numbers(6, 0, a, b),
				numbers(1, a, 1, b, 0, 0, 0), numbers(1, a, 1, 0, b, 0, 0), numbers(1, 0, 1, a, b, 0, 0), numbers(1, 0, 2, a, b, 0, 0, 0),
			} {
				wantReadAsWords(t, joined(text))
			}
		}
	}
}

// TestP122ReadOfFieldsThatAKindHasNot has as many numbers behind each kind as any kind may have.
func TestP122ReadOfFieldsThatAKindHasNot(t *testing.T) {
	for kind := range 9 {
		read := 0
		for many := range 8 {
			for _, n := range []int{0, 1, 2, 3} {
				if _, ok := wantReadAsWords(t, bytesOf(uint64(kind))+strings.Repeat(bytesOf(uint64(n)), many)); ok {
					read++
				}
			}
		}
		// Four ways to have no number behind a Nop; a list of one 1; times from 1 on.
		if want := []int{4, 0, 3, 1, 4, 4, 4, 0, 0}[kind]; read != want {
			t.Error(kind, read, want)
		}
	}
}

// TestP122ReadOfLists has lists that say how long they are, and have other elements.
func TestP122ReadOfLists(t *testing.T) {
	sizes := []uint64{0, 1, 2, 3, 4, 5, 6, 7, 8, 127, 128, 256, 257, 258, 260, 262, 1024, 4095, 4096, 4097, 1 << 32, 1<<32 + 2, 1 << 40, 1<<40 + 1, math.MaxInt64, math.MaxUint64}
	for _, of := range append(subsets(6), []int{0, 0}, []int{1, 0}, []int{6}, []int{0, 1, 2, 3, 4, 5, 6}, []int{3, 4}, make([]int, 300)) {
		for _, says := range sizes {
			s := "\x03" + bytesOf(says) + joined(numbers(of...))
			if _, ok := wantReadAsWords(t, s); ok != (says == uint64(len(of)) && rises(of, 5)) {
				t.Error(of, says, ok)
			}
			s = "\x01\x05" + bytesOf(says) + joined(numbers(of...)) + "\x01\x01k\x01b"
			wantReadAsWords(t, s)
			if says == uint64(len(of)) && rises(of, 3) {
				wantCommand(t, assign(5, of, 1, "k", "b"))
			}
		}
	}
}

// TestP122ReadOfKeysAndBodiesOfOtherLengths has all lengths near each other, and some that no key and no body has.
func TestP122ReadOfKeysAndBodiesOfOtherLengths(t *testing.T) {
	sizes := []int{0, 1, 2, 15, 16, 17, 18, 63, 64, 65, 66, 127, 128, 129, 255, 256, 257, 272, 320, 900}
	for _, says := range append(sizes, 4095, 4096, 4097, 1<<32, 1<<32+1, 1<<40, 1<<40+1, math.MaxInt) {
		for _, has := range sizes {
			head := "\x01\x05\x02\x00\x03\x01"
			if _, ok := wantReadAsWords(t, head+bytesOf(uint64(says))+long(has)+"\x01b"); ok != (says == has && has <= 16) {
				t.Error("key", says, has, ok)
			}
			if _, ok := wantReadAsWords(t, head+"\x01k"+bytesOf(uint64(says))+long(has)); ok != (says == has && has <= 64) {
				t.Error("body", says, has, ok)
			}
			if _, ok := wantReadAsWords(t, head+"\x10"+long(16)+bytesOf(uint64(says))+long(has)); ok != (says == has && has <= 64) {
				t.Error("body behind a key", says, has, ok)
			}
		}
	}
}

// TestP122AndP124OneByteChanged changes, leaves out and puts in a byte, wherever it is: what is read then is what is written so.
func TestP122AndP124OneByteChanged(t *testing.T) {
	read := 0
	count := func(s string) {
		if _, ok := wantReadAsWords(t, s); ok {
			read++
		}
	}
	for _, c := range few() {
		text := textOf(c)
		for at := range len(text) {
			count(text[:at] + text[at+1:])
			for b := range 256 {
				count(text[:at] + string([]byte{byte(b)}) + text[at+1:])
				count(text[:at] + string([]byte{byte(b)}) + text[at:])
			}
		}
	}
	if read < 10000 {
		t.Error(read)
	}
}

// TestP122AndP124AllShortTexts goes through all texts of up to seven of some bytes; what is read of them begins none of the others.
func TestP122AndP124AllShortTexts(t *testing.T) {
	letters := []byte{0, 1, 2, 3, 4, 5, 6, 7, 128}
	var texts []string
	var lengthen func(b []byte)
	lengthen = func(b []byte) {
		if _, ok := wantReadAsWords(t, string(b)); ok {
			texts = append(texts, string(b))
		}
		if len(b) == 6 && b[0] != 1 || len(b) == 7 || t.Failed() {
			return
		}
		for _, c := range letters {
			lengthen(append(slices.Clip(b), c))
		}
	}
	lengthen(nil)
	wantNoneBeginsAnother(t, texts)
	for _, kind := range kinds() {
		if !slices.ContainsFunc(texts, func(s string) bool { return s[0] == kind }) {
			t.Error(kind)
		}
	}
}

// TestP122AndP124AllTextsOfUpToThreeBytes: of three bytes are finals of small numbers, and changes to one node.
func TestP122AndP124AllTextsOfUpToThreeBytes(t *testing.T) {
	read := map[int]int{}
	count := func(s string) {
		if _, ok := wantReadAsWords(t, s); ok {
			read[len(s)]++
		}
	}
	for a := range 256 {
		count(string([]byte{byte(a)}))
		for b := range 256 {
			count(string([]byte{byte(a), byte(b)}))
			if a > 8 && a != 128 && a != 255 {
				continue
			}
			for c := range 256 {
				count(string([]byte{byte(a), byte(b), byte(c)}))
			}
		}
	}
	if read[1] != 1 || read[2] != 0 || read[3] != 128*127+6 {
		t.Error(read)
	}
}

func TestP124WhatIsWrittenIsRead(t *testing.T) {
	for _, c := range many() {
		text, e := command.Write(c)
		if e != api.OK {
			t.Fatal(show(c), e)
		}
		back, e := command.Read(text)
		if !same(back, c) || !command.Same(back, c) || e != api.OK {
			t.Fatal(show(c), show(back), e)
		}
	}
}

// TestP124AllCommandsOfSmallNumbers goes through all commits, all members and all groups there are, with small numbers elsewhere.
func TestP124AllCommandsOfSmallNumbers(t *testing.T) {
	texts := map[string]bool{}
	count := 0
	add := func(c api.Command) {
		wantCommand(t, c)
		texts[textOf(c)] = true
		count++
	}
	for id := range 5 {
		for topic := range 4 {
			for n := range 5 {
				for who := range 8 {
					add(commit(id, topic, who, n))
				}
				add(retain(id, topic, n))
				add(compact(id, topic, n))
			}
			for _, of := range subsets(4)[1:] {
				for _, key := range keys()[:5] {
					for _, body := range bodies()[:5] {
						add(assign(id, of, topic, key, body))
					}
				}
			}
		}
	}
	if len(texts) != count {
		t.Error(len(texts), count)
	}
}

func TestP124NoTextIsLong(t *testing.T) {
	greatest := 0
	for _, c := range append(many(), assign(lastId, []int{0, 1, 2, 3}, 3, long(16), long(64))) {
		text, _ := command.Write(c)
		greatest = max(greatest, len(text))
	}
	if greatest != longest || greatest > api.MaxValue {
		t.Error(greatest)
	}
}

// wantNoneBeginsAnother asks of texts that differ. What begins with a text stands right behind it, when they rise.
func wantNoneBeginsAnother(t *testing.T, texts []string) {
	t.Helper()
	slices.Sort(texts)
	for i, s := range texts[1:] {
		if strings.HasPrefix(s, texts[i]) {
			t.Fatalf("%s begins %s", brief(texts[i]), brief(s))
		}
	}
}

func TestP124NoBeginningOfATextIsAnotherOnes(t *testing.T) {
	var texts []string
	for _, c := range many() {
		text, e := command.Write(c)
		if e != api.OK {
			t.Fatal(show(c), e)
		}
		texts = append(texts, text)
	}
	slices.Sort(texts)
	wantNoneBeginsAnother(t, slices.Compact(texts))
}

// TestP124TextsOneBehindTheOther: as none begins another one, texts that stand one behind the other are parted in one way alone.
func TestP124TextsOneBehindTheOther(t *testing.T) {
	l := few()
	all := ""
	for _, c := range l {
		all += textOf(c)
	}
	for i, c := range l {
		found := 0
		for size := range len(all) + 1 {
			if got, e := command.Read(all[:size]); e == api.OK {
				found = size
				if !same(got, c) {
					t.Fatal(i, show(got), show(c))
				}
			}
		}
		if found != len(textOf(c)) {
			t.Fatal(i, found, show(c))
		}
		all = all[found:]
	}
}
