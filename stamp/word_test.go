package stamp_test

import (
	"math"
	"math/bits"
	"slices"

	"towncrier/api"
)

// The chapter's words, once more: nothing here asks the package.

const (
	lastTime   = 1073741824 // 2^30
	lastId     = 6291455    // 6 * 2^20 - 1
	lastNumber = 1048575    // 2^20 - 1
)

func at(time, id int) api.Stamp { return api.Stamp{Time: time, Id: id} }

// stamps are made of times and ids, by twos.
func stamps(numbers ...int) (l []api.Stamp) {
	for i := 0; i < len(numbers); i += 2 {
		l = append(l, at(numbers[i], numbers[i+1]))
	}
	return l
}

// ahead takes a stamp for one long number, the time in its front half and the id in its back half: one is below another if something must be borrowed where that is taken from it.
func ahead(a, b api.Stamp) bool {
	_, borrow := bits.Sub64(unsigned(a.Id), unsigned(b.Id), 0)
	_, borrow = bits.Sub64(unsigned(a.Time), unsigned(b.Time), borrow)
	return borrow == 1
}

// unsigned is a number's place among all, from the least int on.
func unsigned(n int) uint64 { return uint64(n) ^ 1<<63 }

// rising tells whether of any two stamps of a list the first one is ahead.
func rising(l []api.Stamp) bool {
	for i, b := range l {
		for _, a := range l[:i] {
			if !ahead(a, b) {
				return false
			}
		}
	}
	return true
}

// anyTimes stand at both ends of those that may be, within, and far off.
func anyTimes() []int {
	return []int{math.MinInt, math.MinInt + 1, -1 << 40, -lastTime, -2, -1, 0, 1, 2, 3, 4, 1000, 1 << 20, lastTime - 1, lastTime, lastTime + 1, 1 << 40, math.MaxInt - 1, math.MaxInt}
}

// anyIds are such of ids; some of those that may not be have the last bits of one that may be.
func anyIds() []int {
	return []int{math.MinInt, math.MinInt + 1, -1 << 40, -lastId, -1 << 20, -5, -1, 0, 1, 8, 9, lastNumber, lastNumber + 1, 5 << 20, lastId - 1, lastId, lastId + 1, 1<<32 + 5, 1 << 40, math.MaxInt - 1, math.MaxInt}
}

// anyStamps are all of these times and ids, in the order of all stamps: each has both in that order.
func anyStamps() (l []api.Stamp) {
	for _, time := range anyTimes() {
		for _, id := range anyIds() {
			l = append(l, at(time, id))
		}
	}
	return l
}

// mayBe tells whether a stamp may be.
func mayBe(s api.Stamp) bool {
	return s.Time >= 0 && s.Time <= lastTime && s.Id >= 0 && s.Id <= lastId
}

// changed is a list in new memory in which two stamps were changed about.
func changed(l []api.Stamp, i, k int) []api.Stamp {
	l = slices.Clone(l)
	l[i], l[k] = l[k], l[i]
	return l
}

// with is a list in new memory that has a stamp at a place.
func with(l []api.Stamp, i int, s api.Stamp) []api.Stamp {
	l = slices.Clone(l)
	l[i] = s
	return l
}

// brief keeps what is told of a list short.
func brief(l []api.Stamp) []api.Stamp { return l[:min(len(l), 12)] }

// dice throws the same numbers in each run.
type dice uint64

func (d *dice) below(n int) int {
	*d = *d*6364136223846793005 + 1442695040888963407
	return int(uint64(*d)>>33) % n
}

func (d *dice) anyInt() int {
	*d = *d*6364136223846793005 + 1442695040888963407
	front := uint64(*d) >> 32
	*d = *d*6364136223846793005 + 1442695040888963407
	return int(front<<32 | uint64(*d)>>32)
}

// stamp is close to others, or anywhere among those that may be, or of any ints.
func (d *dice) stamp() api.Stamp {
	switch d.below(3) {
	case 0:
		return at(d.below(4), d.below(4))
	case 1:
		return at(d.below(lastTime+1), d.below(lastId+1))
	}
	return at(d.anyInt(), d.anyInt())
}
