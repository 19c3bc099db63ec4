package record_test

import (
	"fmt"
	"math"
	"slices"
	"strconv"
	"strings"
	"testing"

	"towncrier/api"
	"towncrier/disk"
	"towncrier/record"
	"towncrier/wal"
)

const (
	first   = 8       // the ballot of the round 1 and the node 0
	last    = 8388613 // the one of the round MaxRound and the node 5
	longest = 1034    // bytes of the longest text: an acceptance of the last ballot, on a slot of two bytes
)

// kinds are all there are.
func kinds() []uint8 { return []uint8{api.RecPromise, api.RecAccept, api.RecDecide} }

// bytesOf tells the bytes of a number, of any size, by division, as the words of chapter 1 do.
func bytesOf(n uint64) string {
	if n < 128 {
		return string([]byte{byte(n)})
	}
	return string([]byte{byte(n%128 + 128)}) + bytesOf(n/128)
}

func bytesOfAll(l ...int) (s string) {
	for _, n := range l {
		s += bytesOf(uint64(n))
	}
	return s
}

// textOf is a record's text by the chapter's words, once more.
func textOf(r api.Record) string {
	switch r.Kind {
	case 1:
		return bytesOfAll(1, r.Group, r.Slot, r.Ballot)
	case 2:
		return bytesOfAll(2, r.Group, r.Slot, r.Ballot, len(r.Value)) + r.Value
	}
	return bytesOfAll(int(r.Kind), r.Group, r.Slot, len(r.Value)) + r.Value
}

// mayBe tells whether a record may be by the chapter's words, once more.
func mayBe(r api.Record) bool {
	if r.Group < 0 || r.Group > 3 || r.Slot < 1 || r.Slot > 200 {
		return false
	}
	isBallot := r.Ballot >= 8 && r.Ballot <= 8*1048576+5 && r.Ballot%8 <= 5
	switch r.Kind {
	case 1:
		return isBallot && r.Value == ""
	case 2:
		return isBallot && len(r.Value) <= 1024
	case 3:
		return r.Ballot == 0 && len(r.Value) <= 1024
	}
	return false
}

// meant tells which record a text is of, if it is of one: its first numbers end where a byte is below 128, and the record that they make is to be written as just that text.
func meant(s string) (api.Record, bool) {
	var n, end [5]int
	for i, at, by := 0, 0, 1; i < 5 && at < len(s) && at < 30; at++ {
		n[i] += int(s[at]) % 128 * by
		by *= 128
		end[i] = at + 1
		if s[at] < 128 {
			i, by = i+1, 1
		}
	}
	for _, r := range []api.Record{
		{Kind: 1, Group: n[1], Slot: n[2], Ballot: n[3]},
		{Kind: 2, Group: n[1], Slot: n[2], Ballot: n[3], Value: s[end[4]:]},
		{Kind: 3, Group: n[1], Slot: n[2], Value: s[end[3]:]},
	} {
		if int(r.Kind) == n[0] && mayBe(r) && textOf(r) == s {
			return r, true
		}
	}
	return api.Record{}, false
}

// wantRecord asks all calls of a record that may be. It and those below ask for t.Helper only where something is wrong: that takes longer than what is asked.
func wantRecord(t *testing.T, r api.Record) {
	text := textOf(r)
	if e := record.Check(r); e != api.OK {
		t.Helper()
		t.Errorf("Check(%s) = %d", show(r), e)
	}
	if s, e := record.Write(r); s != text || e != api.OK {
		t.Helper()
		t.Errorf("Write(%s) = %s, %d; want %s", show(r), brief(s), e, brief(text))
	}
	if back, e := record.Read(text); back != r || e != api.OK {
		t.Helper()
		t.Errorf("Read(%s) = %s, %d; want %s", brief(text), show(back), e, show(r))
	}
}

// wantNoRecord asks the calls of a record that may not be.
func wantNoRecord(t *testing.T, r api.Record) {
	if e := record.Check(r); e != api.ErrBad {
		t.Helper()
		t.Errorf("Check(%s) = %d; want ErrBad", show(r), e)
	}
	if s, e := record.Write(r); s != "" || e != api.ErrBad {
		t.Helper()
		t.Errorf("Write(%s) = %s, %d; want none, ErrBad", show(r), brief(s), e)
	}
}

// wantAsWords asks all calls of a record that may be or not.
func wantAsWords(t *testing.T, r api.Record) {
	if mayBe(r) {
		wantRecord(t, r)
	} else {
		wantNoRecord(t, r)
	}
}

// wantNoText asks of a text that is no record's.
func wantNoText(t *testing.T, s string) {
	if r, e := record.Read(s); r != (api.Record{}) || e != api.ErrBad {
		t.Helper()
		t.Errorf("Read(%s) = %s, %d; want none, ErrBad", brief(s), show(r), e)
	}
}

// wantReadAsWords asks of any text; where it is read, it is also to be written as just that.
func wantReadAsWords(t *testing.T, s string) (api.Record, bool) {
	r, ok := meant(s)
	if !ok {
		wantNoText(t, s)
		return r, false
	}
	wantRecord(t, r)
	if got, e := record.Read(s); got != r || e != api.OK {
		t.Helper()
		t.Errorf("Read(%s) = %s, %d; want %s", brief(s), show(got), e, show(r))
	}
	return r, true
}

func show(r api.Record) string {
	return fmt.Sprintf("kind %d, group %d, slot %d, ballot %d, %s", r.Kind, r.Group, r.Slot, r.Ballot, brief(r.Value))
}

func brief(s string) string {
	if len(s) > 20 {
		return strconv.Quote(s[:20]) + ".. of " + strconv.Itoa(len(s)) + " bytes"
	}
	return strconv.Quote(s)
}

func long(bytes int) string { return strings.Repeat("v", bytes) }

func groups() []int   { return []int{0, 1, 2, 3} }
func noGroups() []int { return append(noNumbers(), -1, 4, 5, 6, 127, 128, 255, 256, 257, 260) }
func slots() []int    { return []int{1, 2, 3, 126, 127, 128, 129, 198, 199, 200} }
func noSlots() []int  { return append(noNumbers(), -200, -1, 0, 201, 202, 255, 256, 257, 328, 456) }

// noNumbers are in no field of a record: those at which ints end, or lose bits, or are no more written.
func noNumbers() []int {
	return []int{math.MinInt, math.MinInt + 1, math.MinInt + 8, -1 << 40, math.MinInt32, 1 << 32, 1<<32 + 1, 1<<32 + 8, 1 << 40, 1<<40 + 1, 1<<40 + 8, math.MaxInt - 7, math.MaxInt}
}

// ballots are all of the first rounds, those at which the bytes grow by one, and the last ones.
func ballots() (l []int) {
	for _, from := range []int{8, 120, 128, 16376, 16384, 2097144, 2097152, last - 13, last - 5} {
		for node := range 6 {
			l = append(l, from+node)
		}
	}
	return l
}

// noBallots are numbers that are no ballots, but for 0.
func noBallots() []int {
	return append(noNumbers(), -last, -21, -8, -1, 1, 2, 5, 6, 7, 14, 15, 22, 23, 126, 127, 134, 135, 16382, 16390, 2097150, 2097159, last-7, last-6, last+1, last+2, last+3, last+8, 2*last)
}

// values are of none to 1,024 bytes; some have fewer runes than bytes, and some no runes at all; some are a record's text.
func values() []string {
	return []string{"", "x", "\x00", "\x01", "\xff", "\x80", "é", "hear ye", "\x03\x00\x01\x00", "\x01\x01\x02\x11", long(126), long(127), long(128), long(129), long(1023), long(1024),
		strings.Repeat("é", 512), strings.Repeat("\xff", 1024), strings.Repeat("\x00", 1024)}
}

// noValues are of more; the runes of some are few enough.
func noValues() []string {
	return []string{long(1025), long(1026), long(2048), long(4095), long(4096), long(4097), long(1 << 20),
		strings.Repeat("é", 513), strings.Repeat("é", 1024), strings.Repeat("\xff", 1025), strings.Repeat("\x00", 1025)}
}

// formsOf are records of a kind, at a place: with all ballots and values that it may have.
func formsOf(kind uint8, group, slot int) (l []api.Record) {
	r := api.Record{Kind: kind, Group: group, Slot: slot}
	bs, vs := ballots(), values()
	if kind == api.RecDecide {
		bs = []int{0}
	}
	if kind == api.RecPromise {
		vs = []string{""}
	}
	for _, r.Ballot = range bs {
		for _, r.Value = range vs {
			l = append(l, r)
		}
	}
	return l
}

// fewOf are some records of each kind, at a place.
func fewOf(group, slot int) []api.Record {
	return []api.Record{
		{Kind: api.RecPromise, Group: group, Slot: slot, Ballot: first},
		{Kind: api.RecPromise, Group: group, Slot: slot, Ballot: last},
		{Kind: api.RecAccept, Group: group, Slot: slot, Ballot: first},
		{Kind: api.RecAccept, Group: group, Slot: slot, Ballot: 21, Value: "news"},
		{Kind: api.RecAccept, Group: group, Slot: slot, Ballot: last, Value: long(1024)},
		{Kind: api.RecDecide, Group: group, Slot: slot},
		{Kind: api.RecDecide, Group: group, Slot: slot, Value: "news"},
		{Kind: api.RecDecide, Group: group, Slot: slot, Value: long(1024)},
	}
}

// recordsThatMayBe are of all kinds and edges.
func recordsThatMayBe() (l []api.Record) {
	for _, group := range groups() {
		for _, slot := range slots() {
			for _, kind := range kinds() {
				l = append(l, formsOf(kind, group, slot)...)
			}
		}
	}
	return l
}

// shortRecords have texts that are gone through byte by byte.
func shortRecords() (l []api.Record) {
	for _, place := range [][2]int{{0, 1}, {1, 127}, {2, 128}, {3, 200}} {
		for _, b := range []int{8, 13, 21, 120, 128, 16384, last} {
			l = append(l, api.Record{Kind: api.RecPromise, Group: place[0], Slot: place[1], Ballot: b})
			for _, value := range []string{"", "x", "ye", "\x00\x80\xff", "\x03\x00\x01\x00"} {
				l = append(l, api.Record{Kind: api.RecAccept, Group: place[0], Slot: place[1], Ballot: b, Value: value})
			}
		}
		for _, value := range []string{"", "x", "ye", "\x00\x80\xff", "\x03\x00\x01\x00"} {
			l = append(l, api.Record{Kind: api.RecDecide, Group: place[0], Slot: place[1], Value: value})
		}
	}
	return l
}

func TestChapterExamples(t *testing.T) {
	for _, c := range []struct {
		r api.Record
		s string
	}{
		{api.Record{Kind: api.RecPromise, Group: 1, Slot: 2, Ballot: 17}, "\x01\x01\x02\x11"},
		{api.Record{Kind: api.RecAccept, Group: 0, Slot: 200, Ballot: 8, Value: "ab"}, "\x02\x00\xc8\x01\x08\x02ab"},
		{api.Record{Kind: api.RecDecide, Group: 3, Slot: 1}, "\x03\x03\x01\x00"},
	} {
		if s, e := record.Write(c.r); s != c.s || e != api.OK {
			t.Errorf("Write(%s) = %q, %d; want %q", show(c.r), s, e, c.s)
		}
		if r, e := record.Read(c.s); r != c.r || e != api.OK {
			t.Errorf("Read(%q) = %s, %d; want %s", c.s, show(r), e, show(c.r))
		}
	}
	for _, s := range []string{"\x01\x01\x02\x11\x00", "\x01\x01\x02\x07", "\x03\x04\x01\x00"} {
		wantNoText(t, s)
	}
}

// TestP101TextsAsTheyStand has whole texts written out, so that the tests' own words are held against something too.
func TestP101TextsAsTheyStand(t *testing.T) {
	for _, c := range []struct {
		r api.Record
		s string
	}{
		{api.Record{Kind: 1, Group: 0, Slot: 1, Ballot: 8}, "\x01\x00\x01\x08"},
		{api.Record{Kind: 1, Group: 3, Slot: 127, Ballot: 125}, "\x01\x03\x7f\x7d"},
		{api.Record{Kind: 1, Group: 3, Slot: 128, Ballot: 128}, "\x01\x03\x80\x01\x80\x01"},
		{api.Record{Kind: 1, Group: 2, Slot: 200, Ballot: 8388613}, "\x01\x02\xc8\x01\x85\x80\x80\x04"},
		{api.Record{Kind: 2, Group: 1, Slot: 9, Ballot: 16384}, "\x02\x01\x09\x80\x80\x01\x00"},
		{api.Record{Kind: 2, Group: 1, Slot: 9, Ballot: 16381, Value: "\x00"}, "\x02\x01\x09\xfd\x7f\x01\x00"},
		{api.Record{Kind: 2, Group: 0, Slot: 1, Ballot: 8, Value: long(128)}, "\x02\x00\x01\x08\x80\x01" + long(128)},
		{api.Record{Kind: 3, Group: 0, Slot: 1, Value: "hear ye"}, "\x03\x00\x01\x07hear ye"},
		{api.Record{Kind: 3, Group: 3, Slot: 200, Value: long(1024)}, "\x03\x03\xc8\x01\x80\x08" + long(1024)},
	} {
		wantRecord(t, c.r)
		if s, e := record.Write(c.r); s != c.s || e != api.OK {
			t.Errorf("Write(%s) = %s, %d; want %s", show(c.r), brief(s), e, brief(c.s))
		}
	}
}

func TestP101Groups(t *testing.T) {
	for _, slot := range []int{1, 200} {
		for _, group := range groups() {
			for _, r := range fewOf(group, slot) {
				wantRecord(t, r)
			}
		}
		for _, group := range noGroups() {
			for _, r := range fewOf(group, slot) {
				wantNoRecord(t, r)
			}
		}
	}
}

func TestP101Slots(t *testing.T) {
	for _, group := range groups() {
		for slot := 1; slot <= 200; slot++ {
			for _, r := range fewOf(group, slot) {
				wantRecord(t, r)
			}
		}
		for _, slot := range noSlots() {
			for _, r := range fewOf(group, slot) {
				wantNoRecord(t, r)
			}
		}
	}
}

func TestP101Ballots(t *testing.T) {
	for _, kind := range []uint8{api.RecPromise, api.RecAccept} {
		for _, b := range ballots() {
			wantRecord(t, api.Record{Kind: kind, Group: 1, Slot: 2, Ballot: b})
		}
		for _, b := range append(noBallots(), 0) {
			wantNoRecord(t, api.Record{Kind: kind, Group: 1, Slot: 2, Ballot: b})
		}
	}
	for _, b := range append(noBallots(), 0) {
		wantNoRecord(t, api.Record{Kind: api.RecAccept, Group: 1, Slot: 2, Ballot: b, Value: "x"})
	}
}

func TestP101ADecisionHasNoBallot(t *testing.T) {
	for _, value := range []string{"", "x", long(1024)} {
		wantRecord(t, api.Record{Kind: api.RecDecide, Group: 1, Slot: 2, Value: value})
		for _, b := range append(noBallots(), ballots()...) {
			wantNoRecord(t, api.Record{Kind: api.RecDecide, Group: 1, Slot: 2, Ballot: b, Value: value})
		}
	}
}

func TestP101APromiseHasNoValue(t *testing.T) {
	for _, b := range []int{first, 21, last} {
		wantRecord(t, api.Record{Kind: api.RecPromise, Group: 1, Slot: 2, Ballot: b})
		for _, value := range append(values()[1:], noValues()...) {
			wantNoRecord(t, api.Record{Kind: api.RecPromise, Group: 1, Slot: 2, Ballot: b, Value: value})
		}
	}
}

func TestP101Values(t *testing.T) {
	for _, r := range []api.Record{{Kind: api.RecAccept, Slot: 1, Ballot: first}, {Kind: api.RecAccept, Group: 3, Slot: 200, Ballot: last}, {Kind: api.RecDecide, Slot: 1}, {Kind: api.RecDecide, Group: 3, Slot: 200}} {
		for _, r.Value = range values() {
			wantRecord(t, r)
		}
		for _, r.Value = range noValues() {
			wantNoRecord(t, r)
		}
	}
}

// TestP101Kinds asks of all numbers of kinds, with what each of the three kinds would have.
func TestP101Kinds(t *testing.T) {
	wantNoRecord(t, api.Record{})
	for _, r := range append(fewOf(0, 1), fewOf(3, 200)...) {
		wantRecord(t, r)
		for kind := range 256 {
			r.Kind = uint8(kind)
			wantAsWords(t, r)
			if kind == 0 || kind > 3 {
				wantNoRecord(t, r)
			}
			wantNoRecord(t, api.Record{Kind: r.Kind, Group: r.Group, Slot: r.Slot, Ballot: 7})
			wantNoRecord(t, api.Record{Kind: r.Kind})
		}
	}
}

// TestP101OneFieldWrong puts the least and the greatest number, and some between, into one field of a record that may be, and into several.
func TestP101OneFieldWrong(t *testing.T) {
	for _, good := range append(fewOf(0, 1), fewOf(3, 200)...) {
		for _, no := range append(noNumbers(), -1) {
			for fields := 1; fields < 8; fields++ {
				r := good
				if fields&1 != 0 {
					r.Group = no
				}
				if fields&2 != 0 {
					r.Slot = no
				}
				if fields&4 != 0 {
					r.Ballot = no
				}
				wantNoRecord(t, r)
				r.Value = long(1025)
				wantNoRecord(t, r)
				r.Kind = 255
				wantNoRecord(t, r)
			}
		}
	}
}

// TestP101AllSmallRecords goes through all fields at once, with what may be and what may not.
func TestP101AllSmallRecords(t *testing.T) {
	may := 0
	for kind := range 6 {
		for group := -2; group < 7; group++ {
			for _, slot := range []int{-1, 0, 1, 2, 127, 128, 199, 200, 201, 202} {
				for b := -2; b < 34; b++ {
					for _, value := range []string{"", "x", "ye", long(1024), long(1025)} {
						r := api.Record{Kind: uint8(kind), Group: group, Slot: slot, Ballot: b, Value: value}
						wantAsWords(t, r)
						if mayBe(r) {
							may++
						}
					}
				}
			}
		}
	}
	// Of each place: twenty ballots promised, and accepted with four values; and four values decided.
	if may != 4*6*(20+20*4+4) {
		t.Error(may)
	}
}

// TestP101ManyBallots goes through ballots of all rounds, one node's of each.
func TestP101ManyBallots(t *testing.T) {
	for round := 1; round <= api.MaxRound && !t.Failed(); round += 3 {
		r := api.Record{Kind: uint8(1 + round%2), Group: round / 2 % 4, Slot: 1 + round%200, Ballot: 8*round + round%6}
		wantRecord(t, r)
		r.Ballot = 8*round + 6 + round%2
		wantNoRecord(t, r)
	}
}

func TestP101ReadOfTheEmptyText(t *testing.T) {
	wantNoText(t, "")
}

func TestP101ReadOfCutTexts(t *testing.T) {
	l := shortRecords()
	for _, kind := range kinds() {
		l = append(l, formsOf(kind, 3, 200)...)
	}
	for _, r := range l {
		text := textOf(r)
		for at := range len(text) {
			wantNoText(t, text[:at])
			// Cut in front, what is left may be a record's: a value may be one's text.
			wantReadAsWords(t, text[at+1:])
		}
	}
}

func TestP101ReadOfTextsWithBytesBehind(t *testing.T) {
	for _, r := range append(shortRecords(), fewOf(3, 200)...) {
		text := textOf(r)
		for c := range 256 {
			wantNoText(t, text+string([]byte{byte(c)}))
		}
		for _, behind := range []string{"\x00\x00", text, textOf(fewOf(0, 1)[5]), long(1024), long(4096)} {
			wantNoText(t, text+behind)
			wantNoText(t, behind+text)
		}
	}
}

// parts are a text's numbers, one behind the other, and the bytes of its value.
func parts(r api.Record) (numbers []int, value string) {
	numbers = []int{int(r.Kind), r.Group, r.Slot}
	if r.Kind != api.RecDecide {
		numbers = append(numbers, r.Ballot)
	}
	if r.Kind != api.RecPromise {
		numbers = append(numbers, len(r.Value))
	}
	return numbers, r.Value
}

// inPlace is a text, with other bytes in the place of one of its numbers.
func inPlace(r api.Record, at int, other string) (s string) {
	numbers, value := parts(r)
	for i, n := range numbers {
		if i == at {
			s += other
		} else {
			s += bytesOf(uint64(n))
		}
	}
	return s + value
}

// longer are a number's bytes with more of them than it needs: the last one says that more follow, and these add nothing.
func longer(n, more int) string {
	b := []byte(bytesOf(uint64(n)))
	b[len(b)-1] += 128
	return string(b) + strings.Repeat("\x80", more-1) + "\x00"
}

func TestP101ReadOfNumbersWithMoreBytesThanTheyNeed(t *testing.T) {
	for _, r := range append(shortRecords(), fewOf(2, 200)...) {
		numbers, value := parts(r)
		all := ""
		for at, n := range numbers {
			if s := inPlace(r, at, bytesOf(uint64(n))); s != textOf(r) {
				t.Fatal(show(r), at, brief(s))
			}
			for more := 1; more <= 10; more++ {
				wantNoText(t, inPlace(r, at, longer(n, more)))
			}
			all += longer(n, 1)
		}
		wantNoText(t, all+value)
	}
}

// tooGreat are numbers that no field has: those that lose bits in a byte, in 32, in 41 and in 63 of them are what the field had.
func tooGreat(n int) (l []string) {
	for _, more := range []uint64{256, 512, 1 << 16, 1 << 31, 1 << 32, 1 << 39, 1 << 40, 1 << 41, 1 << 42, 1 << 48, 1 << 62, 1 << 63} {
		l = append(l, bytesOf(uint64(n)+more))
	}
	// These have more than 64 bits.
	b := []byte(bytesOf(uint64(n) + 1<<63))
	b[9] += 2
	l = append(l, string(b))
	b[9] += 126
	return append(l, string(b)+"\x01", strings.Repeat("\xff", 9)+"\x01", strings.Repeat("\xff", 9)+"\x7f", strings.Repeat("\xff", 20)+"\x01", bytesOf(math.MaxUint64), bytesOf(math.MaxInt64))
}

func TestP101ReadOfNumbersTooGreatForTheirField(t *testing.T) {
	for _, r := range append(shortRecords(), fewOf(2, 200)...) {
		numbers, _ := parts(r)
		for at, n := range numbers {
			// A ballot may be greater by the first three, and be one: then it is read as that one.
			for i, great := range tooGreat(n) {
				s := inPlace(r, at, great)
				if numbers[0] != 3 && at == 3 && i < 3 {
					wantReadAsWords(t, s)
				} else {
					wantNoText(t, s)
				}
			}
		}
	}
}

func TestP101ReadOfFieldsThatMayNotBe(t *testing.T) {
	for _, r := range append(fewOf(0, 1), fewOf(3, 200)...) {
		for _, kind := range []int{0, 4, 5, 127, 128, 129, 130, 131, 255, 256, 257, 258, 259, 513, 1 << 32, 1<<32 + 1, 1 << 40} {
			wantNoText(t, inPlace(r, 0, bytesOf(uint64(kind))))
		}
		for _, group := range []int{4, 5, 127, 128, 255, 256, 257, 1 << 32, 1 << 40} {
			wantNoText(t, inPlace(r, 1, bytesOf(uint64(group))))
		}
		for _, slot := range []int{0, 201, 202, 255, 256, 257, 1 << 32, 1<<32 + 1, 1 << 40} {
			wantNoText(t, inPlace(r, 2, bytesOf(uint64(slot))))
		}
		if r.Kind == api.RecDecide {
			continue
		}
		for _, b := range append(noBallots(), 0) {
			if b >= 0 {
				wantNoText(t, inPlace(r, 3, bytesOf(uint64(b))))
			}
		}
	}
}

// TestP101ReadOfFieldsThatAKindHasNot gives a promise a value, be it empty or not, and a decision a ballot.
func TestP101ReadOfFieldsThatAKindHasNot(t *testing.T) {
	for _, b := range append([]int{0}, ballots()...) {
		for _, value := range []string{"", "x", long(1024)} {
			text := bytesOf(uint64(len(value))) + value
			wantNoText(t, bytesOfAll(1, 1, 2, b)+text)
			wantNoText(t, bytesOfAll(3, 1, 2, b)+text)
			wantNoText(t, bytesOfAll(0, 1, 2, b)+text)
			wantNoText(t, bytesOfAll(4, 1, 2, b)+text)
		}
		wantNoText(t, bytesOfAll(2, 1, 2, b))
		wantNoText(t, bytesOfAll(0, 1, 2, b))
		wantNoText(t, bytesOfAll(4, 1, 2, b))
	}
	wantNoText(t, bytesOfAll(1, 1, 2))
	wantNoText(t, bytesOfAll(3, 1, 2))
	wantNoText(t, bytesOfAll(0, 1, 2))
}

// TestP101ReadOfAValueShorterOrLongerThanItsLength has all lengths near each other, and some that no value has.
func TestP101ReadOfAValueShorterOrLongerThanItsLength(t *testing.T) {
	sizes := []int{0, 1, 2, 3, 126, 127, 128, 129, 255, 256, 257, 1022, 1023, 1024, 1025, 1026, 4095, 4096, 4097, 1 << 16}
	for _, head := range []string{bytesOfAll(2, 0, 1, 8), bytesOfAll(2, 3, 200, last), bytesOfAll(3, 0, 1), bytesOfAll(3, 3, 200)} {
		for _, says := range append(sizes, 1<<32, 1<<32+1, 1<<40, 1<<40+1, math.MaxInt) {
			for _, has := range sizes {
				s := head + bytesOf(uint64(says)) + long(has)
				if r, ok := wantReadAsWords(t, s); ok != (says == has && has <= 1024) {
					t.Error(brief(s), says, has, show(r), ok)
				}
			}
		}
	}
}

func TestP101ReadOfLongTexts(t *testing.T) {
	for _, size := range []int{longest - 1, longest, longest + 1, 1039, 1040, 1041, 4096, 1 << 20, 1 << 24} {
		for _, c := range []string{"\x00", "\x01", "\x02", "\x03", "\x08", "\x7f", "\x80", "\xff"} {
			wantNoText(t, strings.Repeat(c, size))
		}
		for _, r := range fewOf(1, 150) {
			text := textOf(r)
			if len(text) < size {
				wantNoText(t, text+strings.Repeat("\x00", size-len(text)))
			}
		}
	}
}

// TestP101AndP102OneByteChanged changes, leaves out and puts in a byte, wherever it is: what is read then is what is written so.
func TestP101AndP102OneByteChanged(t *testing.T) {
	read := 0
	count := func(s string) {
		if _, ok := wantReadAsWords(t, s); ok {
			read++
		}
	}
	for _, r := range shortRecords() {
		text := textOf(r)
		for at := range len(text) {
			count(text[:at] + text[at+1:])
			for c := range 256 {
				count(text[:at] + string([]byte{byte(c)}) + text[at+1:])
				count(text[:at] + string([]byte{byte(c)}) + text[at:])
			}
		}
	}
	if read < 10000 {
		t.Error(read)
	}
}

// TestP101AndP102AllShortTexts goes through all texts of up to six of some bytes; what is read of them begins none of the others.
func TestP101AndP102AllShortTexts(t *testing.T) {
	letters := []byte{0, 1, 2, 3, 4, 8, 13, 14, 128, 200, 201, 255}
	var texts []string
	var lengthen func(b []byte)
	lengthen = func(b []byte) {
		if _, ok := wantReadAsWords(t, string(b)); ok {
			texts = append(texts, string(b))
		}
		if len(b) == 6 || t.Failed() {
			return
		}
		for _, c := range letters {
			lengthen(append(slices.Clip(b), c))
		}
	}
	lengthen(nil)
	wantNoneBeginsAnother(t, texts)
	for _, kind := range "\x01\x02\x03" {
		if !slices.ContainsFunc(texts, func(s string) bool { return s[0] == byte(kind) }) {
			t.Error(kind)
		}
	}
}

// TestP101AndP102AllTextsOfUpToFourBytes: no record has less than four; of these all are gone through whose first two may be a kind and a group, or nearly.
func TestP101AndP102AllTextsOfUpToFourBytes(t *testing.T) {
	for a := range 256 {
		wantNoText(t, string([]byte{byte(a)}))
		for b := range 256 {
			wantNoText(t, string([]byte{byte(a), byte(b)}))
			for _, c := range []byte{0, 1, 8, 127, 128, 255} {
				wantNoText(t, string([]byte{byte(a), byte(b), c}))
			}
		}
	}
	read := 0
	for a := range 6 {
		for b := range 7 {
			for c := range 256 {
				for d := range 256 {
					if _, ok := wantReadAsWords(t, string([]byte{byte(a), byte(b), byte(c), byte(d)})); ok {
						read++
					}
				}
			}
		}
	}
	// Of 127 slots of each of four groups: ninety ballots promised, and the empty value decided.
	if read != 4*127*(15*6+1) {
		t.Error(read)
	}
}

// A call keeps nothing of the one ahead: what it answers hangs on its argument alone.
func TestP101CallsKeepNothing(t *testing.T) {
	for range 3 {
		for _, r := range fewOf(3, 200) {
			wantRecord(t, r)
			wantNoRecord(t, api.Record{Kind: r.Kind, Group: 4, Slot: 200, Ballot: r.Ballot, Value: r.Value})
			wantRecord(t, r)
			wantNoText(t, textOf(r)[:3])
			wantRecord(t, api.Record{Kind: api.RecDecide, Slot: 1})
		}
	}
}

func TestP102WhatIsWrittenIsRead(t *testing.T) {
	for _, r := range recordsThatMayBe() {
		text, e := record.Write(r)
		if e != api.OK {
			t.Fatal(show(r), e)
		}
		if back, e := record.Read(text); back != r || e != api.OK {
			t.Fatal(show(r), show(back), e)
		}
	}
}

func TestP102NoTextIsLong(t *testing.T) {
	greatest := 0
	for _, r := range recordsThatMayBe() {
		text, _ := record.Write(r)
		greatest = max(greatest, len(text))
	}
	if greatest != longest || greatest > 1040 {
		t.Error(greatest)
	}
}

// wantNoneBeginsAnother asks of texts that differ. What begins with a text stands right behind it, when they rise.
func wantNoneBeginsAnother(t *testing.T, texts []string) {
	t.Helper()
	slices.Sort(texts)
	for i, s := range texts[1:] {
		if strings.HasPrefix(s, texts[i]) {
			t.Fatalf("%s begins %s", brief(texts[i]), brief(s))
		}
	}
}

func TestP102NoBeginningOfATextIsAnotherOnes(t *testing.T) {
	var texts []string
	for _, r := range append(recordsThatMayBe(), shortRecords()...) {
		text, e := record.Write(r)
		if e != api.OK {
			t.Fatal(show(r), e)
		}
		texts = append(texts, text)
	}
	slices.Sort(texts)
	wantNoneBeginsAnother(t, slices.Compact(texts))
}

// TestP102TextsOneBehindTheOther: as none begins another one, texts that stand one behind the other are parted in one way alone.
func TestP102TextsOneBehindTheOther(t *testing.T) {
	l := shortRecords()
	all := ""
	for _, r := range l {
		all += textOf(r)
	}
	for i, r := range l {
		found := 0
		for size := range min(len(all), 1040) + 1 {
			if got, e := record.Read(all[:size]); e == api.OK {
				found = size
				if got != r {
					t.Fatal(i, show(got), show(r))
				}
			}
		}
		if found != len(textOf(r)) {
			t.Fatal(i, found, show(r))
		}
		all = all[found:]
	}
}

// TestW2RecordsOutliveACrash lets records wait on a disk that fails, wherever and however torn: what is read then are the first ones, each as it was written, and all that lasted.
func TestW2RecordsOutliveACrash(t *testing.T) {
	l := append(shortRecords()[:12], fewOf(3, 200)...)
	var texts []string
	for _, r := range l {
		text, e := record.Write(r)
		if e != api.OK {
			t.Fatal(show(r), e)
		}
		texts = append(texts, text)
	}
	lasts := 7
	d, _ := wal.Add(api.Disk{}, texts[:lasts])
	d, _ = disk.Sync(d)
	d, e := wal.Add(d, texts[lasts:])
	if e != api.OK {
		t.Fatal(e)
	}
	for keep := range len(l) - lasts + 1 {
		for _, torn := range []int{0, 1, 2, 3, 5, 1000} {
			wantFirstOnes(t, d, keep, torn, l, lasts+keep)
		}
	}
}

// wantFirstOnes asks what is read of a disk behind a crash. A record that is kept whole may be one more than was asked for.
func wantFirstOnes(t *testing.T, d api.Disk, keep, torn int, l []api.Record, least int) {
	t.Helper()
	d, e := disk.Crash(d, keep, torn)
	if e != api.OK {
		t.Fatal(keep, torn, e)
	}
	_, texts, e := wal.Open(d)
	if e != api.OK || len(texts) < least || len(texts) > least+1 {
		t.Fatal(keep, torn, len(texts), e)
	}
	for i, s := range texts {
		if r, e := record.Read(s); r != l[i] || e != api.OK {
			t.Fatal(keep, torn, i, show(r), e)
		}
	}
}

func ExampleWrite() {
	s, _ := record.Write(api.Record{Kind: api.RecAccept, Group: 1, Slot: 2, Ballot: 17, Value: "ye"})
	fmt.Println([]byte(s))
	_, e := record.Write(api.Record{Kind: api.RecDecide, Group: 1, Slot: 2, Ballot: 17, Value: "ye"})
	fmt.Println(e == api.ErrBad)
	// Output:
	// [2 1 2 17 2 121 101]
	// true
}

func ExampleRead() {
	r, _ := record.Read("\x03\x01\x02\x02ye")
	fmt.Println(r.Kind == api.RecDecide, r.Group, r.Slot, r.Value)
	_, e := record.Read("\x03\x01\x02\x03ye")
	fmt.Println(e == api.ErrBad)
	// Output:
	// true 1 2 ye
	// true
}
