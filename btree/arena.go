package btree

// arena holds things in cells, which are known by their indices. It knows nothing
// of what they are.
type arena[T any] struct {
	cells []T
	free  []int
}

// put lays a thing into a cell that holds none, if there is one.
func (a *arena[T]) put(x T) int {
	if last := len(a.free) - 1; last >= 0 {
		i := a.free[last]
		a.free = a.free[:last]
		a.cells[i] = x
		return i
	}
	a.cells = append(a.cells, x)
	return len(a.cells) - 1
}

// at returns what is in a cell; it stays there until the next put.
func (a *arena[T]) at(i int) *T { return &a.cells[i] }

// drop empties a cell.
func (a *arena[T]) drop(i int) {
	var none T
	a.cells[i] = none
	a.free = append(a.free, i)
}

// duplicate returns an arena with the same cells; what is in them is copied by a
// function.
func (a *arena[T]) duplicate(one func(T) T) arena[T] {
	c := arena[T]{free: append([]int(nil), a.free...)}
	for _, x := range a.cells {
		c.cells = append(c.cells, one(x))
	}
	return c
}
