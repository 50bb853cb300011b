package parse

import "usufruct/api"

// pat reads a pattern.
func (r *reader) pat() read[api.Pat] {
	c := r.take(api.TkCon)
	if !c.ok {
		return atom(r, patLeaf, r.pat)
	}
	return made(atoms(r, patLeaf, r.pat), func(l []api.Pat) api.Pat {
		return api.Pat{Kind: api.PtCon, S: c.tree.Text, At: c.tree.At, L: l}
	})
}

// patLeaf is the pattern that t is by itself.
func patLeaf(t api.Token) read[api.Pat] {
	switch t.Kind {
	case api.TkName:
		return right(api.Pat{Kind: api.PtName, S: t.Text, At: t.At})
	case api.TkInt:
		return right(api.Pat{Kind: api.PtInt, N: t.N, At: t.At})
	case api.TkStr:
		return right(api.Pat{Kind: api.PtStr, S: t.Text, At: t.At})
	case api.TkCon:
		return right(api.Pat{Kind: api.PtCon, S: t.Text, At: t.At})
	}
	if sign(t) == "_" {
		return right(api.Pat{Kind: api.PtAny, At: t.At})
	}
	return read[api.Pat]{}
}
