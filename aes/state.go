package aes

import "donjon/galois"

// A state is four columns of four bytes, one behind the other.
type state [16]byte

// plus is s and the round key added bit by bit.
func (s state) plus(key state) state {
	for i, x := range key {
		s[i] ^= x
	}
	return s
}

// moved is s with each row's bytes as many columns to the left as the row's number says.
func (s state) moved() state {
	var to state
	for i := range to {
		to[i] = s[source(i)]
	}
	return to
}

// movedBack is the state whose rows, moved, make s.
func (s state) movedBack() state {
	var to state
	for i, x := range s {
		to[source(i)] = x
	}
	return to
}

// source is the place of the byte that comes to the place i when the rows are moved.
func source(i int) int {
	// A column to the left is four places ahead of it; what leaves at one end comes in at the other.
	return (i + 4*(i%4)) % 16
}

// mixed is s with each column mixed.
func (s state) mixed() state {
	for q := 0; q < len(s); q += 4 {
		column := galois.Mix([4]byte(s[q:]))
		copy(s[q:], column[:])
	}
	return s
}

// unmixed is the state whose columns, mixed, make s.
func (s state) unmixed() state {
	for q := 0; q < len(s); q += 4 {
		column := galois.Unmix([4]byte(s[q:]))
		copy(s[q:], column[:])
	}
	return s
}
