package parse

import (
	"slices"

	"usufruct/api"
)

// expr reads an expression.
func (r *reader) expr() read[api.Expr] {
	at := r.peek().At
	switch {
	case r.skip(`\`):
		return r.lam()
	case r.at("let"):
		return r.let(at)
	case r.skip("case"):
		return r.cased(at)
	}
	return r.comparison()
}

// lam reads what stands behind \: x { x } -> e.
func (r *reader) lam() read[api.Expr] {
	if !r.is(api.TkName) {
		return read[api.Expr]{}
	}
	return r.function("->")
}

// function reads { x }, the sign s and e, which is of these names.
func (r *reader) function(s string) read[api.Expr] {
	names := r.names().ahead(r, s)
	if !names.ok {
		return read[api.Expr]{}
	}
	return made(r.expr(), func(e api.Expr) api.Expr {
		for _, x := range slices.Backward(names.tree) {
			e = api.Expr{Kind: api.ExLam, S: x.Text, At: x.At, L: []api.Expr{e}}
		}
		return e
	})
}

// bound is what let tells: a name, whether it stands in what it is, and that.
type bound struct {
	name api.Token
	rec  bool
	e    api.Expr
}

// bind reads let [ rec ] x { x } = e.
func (r *reader) bind() read[bound] {
	if !r.skip("let") {
		return read[bound]{}
	}
	rec := r.skip("rec")
	name := r.take(api.TkName)
	if !name.ok {
		return read[bound]{}
	}
	return made(r.function("="), func(e api.Expr) bound {
		return bound{name: name.tree, rec: rec, e: e}
	})
}

// let reads what let tells, in and e; let is at that place.
func (r *reader) let(at api.Pos) read[api.Expr] {
	b := r.bind().ahead(r, "in")
	if !b.ok {
		return read[api.Expr]{}
	}
	kind := uint8(api.ExLet)
	if b.tree.rec {
		kind = api.ExRec
	}
	return made(r.expr(), func(e api.Expr) api.Expr {
		return api.Expr{Kind: kind, S: b.tree.name.Text, At: at, L: []api.Expr{b.tree.e, e}}
	})
}

// cased reads what stands behind the word case, which is at that place: e of { arm { ; arm } }.
func (r *reader) cased(at api.Pos) read[api.Expr] {
	of := r.expr().ahead(r, "of").ahead(r, "{")
	if !of.ok {
		return read[api.Expr]{}
	}
	return made(parted(r, ";", r.arm).ahead(r, "}"), func(l []api.Arm) api.Expr {
		return api.Expr{Kind: api.ExCase, At: at, L: []api.Expr{of.tree}, Arms: l}
	})
}

func (r *reader) arm() read[api.Arm] {
	p := r.pat().ahead(r, "->")
	if !p.ok {
		return read[api.Arm]{}
	}
	return made(r.expr(), func(e api.Expr) api.Arm { return api.Arm{P: p.tree, E: e} })
}

// comparison reads a chain, or two that are compared.
func (r *reader) comparison() read[api.Expr] {
	x := r.chain()
	if x.ok && r.at("<", "==") {
		return r.behind(x.tree, r.chain)
	}
	return x
}

// chain reads sums with ++ between.
func (r *reader) chain() read[api.Expr] {
	return r.fromLeft(r.sum, "++")
}

func (r *reader) sum() read[api.Expr] {
	return r.fromLeft(r.product, "+", "-")
}

func (r *reader) product() read[api.Expr] {
	return r.fromLeft(r.application, "*", "/", "%")
}

// fromLeft reads the row once at least, with one of the signs between two.
func (r *reader) fromLeft(row func() read[api.Expr], signs ...string) read[api.Expr] {
	x := row()
	for x.ok && r.at(signs...) {
		x = r.behind(x.tree, row)
	}
	return x
}

// behind reads the sign that stands behind x, and the row.
func (r *reader) behind(x api.Expr, row func() read[api.Expr]) read[api.Expr] {
	t := r.peek()
	r.next++
	return made(row(), func(y api.Expr) api.Expr {
		return api.Expr{Kind: api.ExPrim, S: t.Text, At: t.At, L: []api.Expr{x, y}}
	})
}

// application reads a constructor, a primitive or a function, and all that it is of.
func (r *reader) application() read[api.Expr] {
	if c := r.take(api.TkCon); c.ok {
		return r.headed(api.ExCon, c.tree)
	}
	if p := r.take(api.TkPrim); p.ok {
		return r.headed(api.ExPrim, p.tree)
	}
	f := atom(r, exprLeaf, r.expr)
	if !f.ok {
		return f
	}
	return made(atoms(r, exprLeaf, r.expr), func(l []api.Expr) api.Expr {
		x := f.tree
		for _, y := range l {
			x = api.Expr{Kind: api.ExApp, At: x.At, L: []api.Expr{x, y}}
		}
		return x
	})
}

// headed reads the kids of an expression of that kind, whose own token is t.
func (r *reader) headed(kind uint8, t api.Token) read[api.Expr] {
	return made(atoms(r, exprLeaf, r.expr), func(l []api.Expr) api.Expr {
		return api.Expr{Kind: kind, S: t.Text, At: t.At, L: l}
	})
}

// exprLeaf is the expression that t is by itself.
func exprLeaf(t api.Token) read[api.Expr] {
	switch t.Kind {
	case api.TkName:
		return right(api.Expr{Kind: api.ExName, S: t.Text, At: t.At})
	case api.TkCon:
		return right(api.Expr{Kind: api.ExCon, S: t.Text, At: t.At})
	case api.TkInt:
		return right(api.Expr{Kind: api.ExInt, N: t.N, At: t.At})
	case api.TkStr:
		return right(api.Expr{Kind: api.ExStr, S: t.Text, At: t.At})
	}
	return read[api.Expr]{}
}
