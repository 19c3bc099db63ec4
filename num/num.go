// Package num is layer 1: numbers, texts and lists as bytes.
package num

import "towncrier/api"

const (
	bitsEach = 7
	low      = 1<<bitsEach - 1 // the bits of a number that one byte holds
	more     = 1 << bitsEach   // is added where another byte follows
	maxSize  = 6               // bytes of MaxNum, which has 41 bits
)

// Put is a number's bytes.
func Put(n int) ([]byte, api.Errno) {
	if !mayBeWritten(n) {
		return nil, api.ErrArg
	}
	return appendNumber(nil, n), api.OK
}

// Get is the number with whose bytes b begins, and how many these are.
func Get(b []byte) (n, size int, e api.Errno) {
	for size < len(b) && size < maxSize {
		part := int(b[size])
		n |= (part & low) << (bitsEach * size)
		size++
		if part&more != 0 {
			continue
		}
		// A last byte of 0 behind others adds nothing: fewer would have done.
		if n > api.MaxNum || part == 0 && size > 1 {
			break
		}
		return n, size, api.OK
	}
	return 0, 0, api.ErrBad
}

// Text is a text's bytes.
func Text(s string) ([]byte, api.Errno) {
	if len(s) > api.MaxText {
		return nil, api.ErrText
	}
	return append(appendNumber(nil, len(s)), s...), api.OK
}

// GetText is the text with whose bytes b begins, and how many these are.
func GetText(b []byte) (s string, size int, e api.Errno) {
	long, size, e := Get(b)
	if e != api.OK || long > api.MaxText || long > len(b)-size {
		return "", 0, api.ErrBad
	}
	return string(b[size : size+long]), size + long, api.OK
}

// Ints is the bytes of a list of numbers.
func Ints(l []int) ([]byte, api.Errno) {
	if len(l) > api.MaxText {
		return nil, api.ErrMany
	}
	b := appendNumber(nil, len(l))
	for _, n := range l {
		if !mayBeWritten(n) {
			return nil, api.ErrArg
		}
		b = appendNumber(b, n)
	}
	return b, api.OK
}

// GetInts is the list of at most most numbers with whose bytes b begins, and how many these are.
func GetInts(b []byte, most int) (l []int, size int, e api.Errno) {
	if most < 0 || most > api.MaxText {
		return nil, 0, api.ErrArg
	}
	many, size, e := Get(b)
	if e != api.OK || many > most {
		return nil, 0, api.ErrBad
	}
	for range many {
		n, step, wrong := Get(b[size:])
		if wrong != api.OK {
			return nil, 0, api.ErrBad
		}
		l = append(l, n)
		size += step
	}
	return l, size, api.OK
}

func mayBeWritten(n int) bool {
	return n >= 0 && n <= api.MaxNum
}

// appendNumber needs n to be one that may be written: a negative one would end as a byte that is not its own.
func appendNumber(b []byte, n int) []byte {
	for ; n > low; n >>= bitsEach {
		b = append(b, byte(n&low|more))
	}
	return append(b, byte(n))
}
