package data

import (
	"slices"

	"usufruct/api"
)

// step is a type that is still to be gone to, and where it goes.
type step struct {
	from *api.Ty
	to   *api.Type
}

// list is where a list begins, and how long it is.
type list struct {
	from *api.Ty
	n    int
}

// ty is the type that is written as t, and how many nodes it has, or that they are too many.
// What is still to be gone to is kept, as a type that is handed in may be deeper than calls go.
func (c *checker) ty(params []string, t api.Ty) (api.Type, int) {
	var made api.Type
	nodes := 0
	seen := map[list]struct{}{}
	todo := []step{{&t, &made}}
	for len(todo) > 0 {
		s := todo[len(todo)-1]
		todo = todo[:len(todo)-1]
		nodes++
		x, takes := c.node(params, s.from)
		if !c.tell(len(s.from.L) != takes, api.ErrArity, s.from.At) {
			return api.Type{}, 0
		}
		*s.to = x
		if takes == 0 || nodes > api.MaxType && wasSeen(seen, s.from.L) {
			continue
		}
		s.to.L = make([]api.Type, takes)
		for i := takes - 1; i >= 0; i-- {
			todo = append(todo, step{&s.from.L[i], &s.to.L[i]})
		}
	}
	return made, nodes
}

// wasSeen says whether l was asked for ahead. One list may stand in very many places, in itself too, so that only this makes an end; what is wrong in it was told the first time.
func wasSeen(seen map[list]struct{}, l []api.Ty) bool {
	key := list{&l[0], len(l)}
	_, ok := seen[key]
	seen[key] = struct{}{}
	return ok
}

// node is the type that is written as t, but for those within, and how many there must be.
func (c *checker) node(params []string, t *api.Ty) (api.Type, int) {
	switch t.Kind {
	case api.TyName:
		n := slices.Index(params, t.S)
		c.tell(n < 0, api.ErrUnknown, t.At)
		return param(n), 0
	case api.TyCon:
		x, takes, ok := c.named(t.S)
		c.tell(!ok, api.ErrUnknown, t.At)
		return x, takes
	case api.TyFun:
		c.tell(len(t.L) != 2 || !isMult(t.M), api.ErrArg, t.At)
		return api.Type{Kind: api.TFun, M: api.Mu{C: t.M}}, 2
	}
	c.tell(true, api.ErrArg, t.At)
	return api.Type{}, 0
}

// named is the type of that name, how many types it takes, and whether there is one.
func (c *checker) named(name string) (api.Type, int, bool) {
	switch name {
	case "Int":
		return of(api.TInt, 0), 0, true
	case "Str":
		return of(api.TStr, 0), 0, true
	case "Io":
		return of(api.TIo, 0), 0, true
	case "File":
		return of(api.TFile, 0), 0, true
	case "Arr":
		return of(api.TArr, 0), 1, true
	}
	for n, d := range c.s.Datas {
		if d.Name == name {
			return of(api.TData, n), d.Params, true
		}
	}
	return api.Type{}, 0, false
}

func (c *checker) isType(name string) bool {
	_, _, ok := c.named(name)
	return ok
}
