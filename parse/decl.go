package parse

import "usufruct/api"

// text reads declarations up to the end.
func (r *reader) text() read[[]api.Decl] {
	return several(r.more, r.decl)
}

func (r *reader) decl() read[api.Decl] {
	if r.skip("data") {
		return r.data()
	}
	return made(r.bind(), func(b bound) api.Decl {
		return api.Decl{Kind: api.DcLet, Name: b.name.Text, At: b.name.At, Rec: b.rec, E: b.e}
	})
}

// data reads what stands behind the word data: C { x } = con { | con }.
func (r *reader) data() read[api.Decl] {
	name := r.take(api.TkCon)
	if !name.ok {
		return read[api.Decl]{}
	}
	params := r.names().ahead(r, "=")
	if !params.ok {
		return read[api.Decl]{}
	}
	return made(parted(r, "|", r.con), func(l []api.ConDecl) api.Decl {
		d := api.Decl{Kind: api.DcData, Name: name.tree.Text, At: name.tree.At, Cons: l}
		for _, x := range params.tree {
			d.Params = append(d.Params, x.Text)
		}
		return d
	})
}

// con reads C { field }.
func (r *reader) con() read[api.ConDecl] {
	c := r.take(api.TkCon)
	if !c.ok {
		return read[api.ConDecl]{}
	}
	begins := func() bool { return often(r.peek()) != 0 }
	return made(several(begins, r.field), func(l []api.Field) api.ConDecl {
		return api.ConDecl{Name: c.tree.Text, At: c.tree.At, Fields: l}
	})
}

// field reads how often it may be used, and its type.
func (r *reader) field() read[api.Field] {
	m := often(r.peek())
	r.next++
	return made(r.tyAtom(), func(t api.Ty) api.Field { return api.Field{M: m, T: t} })
}

// often is the multiplicity that t tells of a field, 0 if none.
func often(t api.Token) api.Mult {
	switch {
	case t.Kind == api.TkInt && t.N == 1:
		return api.One
	case sign(t) == "?":
		return api.Affine
	case sign(t) == "*":
		return api.Many
	}
	return 0
}
