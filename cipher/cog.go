package cipher

// cog is a key at work on numbers below a size. It keeps the number that undoes Mul.
type cog struct {
	Key
	size, undo int
}

// newCog returns the key at work.
func newCog(k Key, size int) cog {
	undo := 1
	// The size is a prime number, so this power of Mul times Mul itself is 1 modulo the size.
	for range size - 2 {
		undo = undo * k.Mul % size
	}
	return cog{k, size, undo}
}

// code returns the code of the plain number with the index.
func (c cog) code(plain, index int) int { return (c.Mul*plain + c.Add + index*c.Step) % c.size }

// plain returns the plain number that has the code with the index.
func (c cog) plain(code, index int) int {
	n := (code - c.Add - index*c.Step) * c.undo % c.size
	if n < 0 {
		n += c.size
	}
	return n
}

// way is a way in which a key changes a number with an index: it codes it, or decodes it.
type way struct{ change func(c cog, n, index int) int }
