package data

import "usufruct/api"

// checker makes a signature of declarations.
type checker struct {
	s api.Sig
	// tell is told an error, if it is wrong there; of all that are told the first one stays. It says whether there is none yet.
	tell func(wrong bool, e api.Errno, at api.Pos) bool
}

// heads lays the data types of l without their constructors, as these may use names ahead of their declarations.
func (c *checker) heads(l []api.Decl) bool {
	for _, d := range l {
		if d.Kind == api.DcLet {
			continue
		}
		c.tell(d.Kind != api.DcData, api.ErrArg, d.At)
		c.tell(len(c.s.Datas) >= api.MaxDatas, api.ErrLong, d.At)
		c.tell(c.isType(d.Name), api.ErrTwice, d.At)
		c.tell(len(d.Params) > api.MaxParams, api.ErrLong, d.At)
		if !c.tell(hasTwice(d.Params), api.ErrTwice, d.At) {
			return false
		}
		lay(&c.s, d.Name, len(d.Params))
	}
	return true
}

// bodies lays the constructors of l, whose data types are n and those behind it.
func (c *checker) bodies(n int, l []api.Decl) bool {
	for _, d := range l {
		if d.Kind == api.DcLet {
			continue
		}
		if !c.tell(len(d.Cons) == 0, api.ErrArg, d.At) {
			return false
		}
		for _, x := range d.Cons {
			if !c.con(n, d.Params, x) {
				return false
			}
		}
		n++
	}
	return true
}

// con lays the constructor x of the data type n.
func (c *checker) con(n int, params []string, x api.ConDecl) bool {
	c.tell(len(c.s.Cons) >= api.MaxCons, api.ErrLong, x.At)
	c.tell(hasCon(c.s.Cons, x.Name), api.ErrTwice, x.At)
	if !c.tell(len(x.Fields) > api.MaxFields, api.ErrLong, x.At) {
		return false
	}
	var fields []field
	for _, f := range x.Fields {
		c.tell(!isMult(f.M), api.ErrArg, x.At)
		t, nodes := c.ty(params, f.T)
		if !c.tell(nodes > api.MaxType, api.ErrLong, x.At) {
			return false
		}
		fields = append(fields, field{f.M, t})
	}
	layCon(&c.s, n, con(x.Name, fields...))
	return true
}

func hasTwice(l []string) bool {
	seen := map[string]struct{}{}
	for _, s := range l {
		if _, ok := seen[s]; ok {
			return true
		}
		seen[s] = struct{}{}
	}
	return false
}
