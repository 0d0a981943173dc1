package rex

import "math/bits"

// Set is a set of bytes, a bit each.
type Set [4]uint64

// span is the bytes from low to high.
type span struct{ low, high byte }

// Has tells whether b is in s.
func (s Set) Has(b byte) bool {
	return s[b/64]>>(b%64)&1 == 1
}

// With tells s, and the bytes from low to high.
func (s Set) With(low, high byte) Set {
	// A byte would wrap behind 255, and never end.
	for b := int(low); b <= int(high); b++ {
		s[b/64] |= 1 << (b % 64)
	}
	return s
}

// Many tells how many bytes are in s.
func (s Set) Many() int {
	many := 0
	for _, word := range s {
		many += bits.OnesCount64(word)
	}
	return many
}

func setOf(spans ...span) Set {
	var s Set
	for _, one := range spans {
		s = s.With(one.low, one.high)
	}
	return s
}

func single(b byte) Set {
	return setOf(span{b, b})
}

// anyByte is what `.` is: all bytes but a line's end.
func anyByte() Set {
	return single('\n').others()
}

func (s Set) others() Set {
	for i := range s {
		s[i] = ^s[i]
	}
	return s
}

func (s Set) union(other Set) Set {
	for i := range s {
		s[i] |= other[i]
	}
	return s
}

// spans tells the runs of bytes that are in s, from the least on.
func (s Set) spans() []span {
	var l []span
	for b := 0; b < 256; b++ {
		if !s.Has(byte(b)) {
			continue
		}
		low := b
		for b < 255 && s.Has(byte(b+1)) {
			b++
		}
		l = append(l, span{byte(low), byte(b)})
	}
	return l
}
