package parse

import "usufruct/api"

// ty reads a type.
func (r *reader) ty() read[api.Ty] {
	from := r.tyAhead()
	t := r.peek()
	m := arrow(t)
	if !from.ok || m == 0 {
		return from
	}
	r.next++
	return made(r.ty(), func(to api.Ty) api.Ty {
		return api.Ty{Kind: api.TyFun, M: m, At: t.At, L: []api.Ty{from.tree, to}}
	})
}

// tyAhead reads what may stand ahead of an arrow.
func (r *reader) tyAhead() read[api.Ty] {
	c := r.take(api.TkCon)
	if !c.ok {
		return r.tyAtom()
	}
	return made(atoms(r, tyLeaf, r.ty), func(l []api.Ty) api.Ty {
		return api.Ty{Kind: api.TyCon, S: c.tree.Text, At: c.tree.At, L: l}
	})
}

func (r *reader) tyAtom() read[api.Ty] {
	return atom(r, tyLeaf, r.ty)
}

// tyLeaf is the type that t is by itself.
func tyLeaf(t api.Token) read[api.Ty] {
	switch t.Kind {
	case api.TkName:
		return right(api.Ty{Kind: api.TyName, S: t.Text, At: t.At})
	case api.TkCon:
		return right(api.Ty{Kind: api.TyCon, S: t.Text, At: t.At})
	}
	return read[api.Ty]{}
}

// arrow is the multiplicity of the arrow t, 0 if it is none.
func arrow(t api.Token) api.Mult {
	switch sign(t) {
	case "-1>":
		return api.One
	case "-?>":
		return api.Affine
	case "-*>":
		return api.Many
	}
	return 0
}
