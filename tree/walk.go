package tree

import "usufruct/api"

// walk is a value's way down a tree: where it is (nil at its end), and the arm to which it came.
type walk struct {
	t  *api.Tree
	v  *api.Val
	n  int
	ok bool
}

// run goes on to the end. A tree that was handed in may stand in itself: who comes to a node once more, goes round for ever, and comes to no arm.
func (w *walk) run() {
	var mark *api.Tree
	steps, lap := 0, 1
	for w.t != nil && w.t != mark {
		if steps == lap {
			mark, steps, lap = w.t, 0, 2*lap
		}
		steps++
		step(w.t.Kind)(w)
	}
}

// step is what is done at a node of a kind.
func step(kind uint8) func(*walk) {
	switch kind {
	case api.TrArm:
		return (*walk).arm
	case api.TrLook:
		return (*walk).look
	}
	return (*walk).none
}

func (w *walk) arm() {
	w.n, w.ok = w.t.N, true
	w.t = nil
}

func (w *walk) none() {
	w.t = nil
}

// look goes on by what stands at the node's place.
func (w *walk) look() {
	t := w.t
	w.t = nil
	v, ok := At(*w.v, t.Path)
	if !ok {
		return
	}
	if a := ofVal(&v); a != (answer{}) {
		for i := range t.Cases {
			if ofCase(&t.Cases[i]) == a {
				w.t = &t.Cases[i].T
				return
			}
		}
	}
	if len(t.Else) > 0 {
		w.t = &t.Else[0]
	}
}
