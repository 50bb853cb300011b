package parse

import "usufruct/api"

// read is what a row of the grammar has read: a tree, unless what stands there is wrong. Then the reader stays
// at the first token with which no right text goes on, so that its place can be told.
type read[T any] struct {
	tree T
	ok   bool
}

// right is a tree that was read.
func right[T any](tree T) read[T] {
	return read[T]{tree, true}
}

// ahead is x, if the sign s stands behind it; that is gone past.
func (x read[T]) ahead(r *reader, s string) read[T] {
	if x.ok && r.skip(s) {
		return x
	}
	return read[T]{}
}

// made is what make makes of x, if that is right.
func made[A, B any](x read[A], make func(A) B) read[B] {
	if !x.ok {
		return read[B]{}
	}
	return right(make(x.tree))
}

// several reads the row as often as another one of it begins.
func several[T any](begins func() bool, row func() read[T]) read[[]T] {
	var l []T
	for begins() {
		x := row()
		if !x.ok {
			return read[[]T]{}
		}
		l = append(l, x.tree)
	}
	return right(l)
}

// parted reads the row once at least, with the sign s between two.
func parted[T any](r *reader, s string, row func() read[T]) read[[]T] {
	first := row()
	if !first.ok {
		return read[[]T]{}
	}
	rest := several(func() bool { return r.skip(s) }, row)
	return made(rest, func(l []T) []T { return append([]T{first.tree}, l...) })
}

// atom reads what stands for itself: a token that leaf makes a tree of, or the row in brackets.
func atom[T any](r *reader, leaf func(api.Token) read[T], row func() read[T]) read[T] {
	if x := leaf(r.peek()); x.ok {
		r.next++
		return x
	}
	if !r.skip("(") {
		return read[T]{}
	}
	return row().ahead(r, ")")
}

// atoms reads as many of these as stand there.
func atoms[T any](r *reader, leaf func(api.Token) read[T], row func() read[T]) read[[]T] {
	begins := func() bool { return leaf(r.peek()).ok || r.at("(") }
	return several(begins, func() read[T] { return atom(r, leaf, row) })
}
