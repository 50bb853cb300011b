package data

import "usufruct/api"

// Given is the signature of the given data types (P13.1).
func Given() api.Sig {
	var s api.Sig
	lay(&s, "Bool", 0, con("False"), con("True"))
	lay(&s, "Unit", 0, con("Unit"))
	lay(&s, "Pair", 2, con("Pair", once(param(0)), once(param(1))))
	lay(&s, "List", 1, con("Nil"), con("Cons", once(param(0)), once(of(api.TData, api.DtList, param(0)))))
	lay(&s, "Opened", 0, con("Yes", once(of(api.TFile, 0)), once(of(api.TIo, 0))), con("No", once(of(api.TIo, 0))))
	lay(&s, "Read", 0, con("Line", often(of(api.TStr, 0)), once(of(api.TFile, 0))),
		con("End", once(of(api.TFile, 0))), con("Torn", once(of(api.TFile, 0))))
	lay(&s, "Got", 1, con("Got", once(of(api.TArr, 0, param(0))), often(param(0))))
	lay(&s, "Sized", 1, con("Sized", once(of(api.TArr, 0, param(0))), often(of(api.TInt, 0))))
	lay(&s, "Wrote", 0, con("Done", once(of(api.TFile, 0))), con("Fail", once(of(api.TFile, 0))))
	return s
}

// lay puts a data type behind those of s, and its constructors behind theirs.
func lay(s *api.Sig, name string, params int, cons ...api.Con) {
	d := len(s.Datas)
	s.Datas = append(s.Datas, api.Data{Name: name, Params: params})
	for _, c := range cons {
		layCon(s, d, c)
	}
}

// layCon puts c behind the constructors of s, as one of the data type d.
func layCon(s *api.Sig, d int, c api.Con) {
	c.Data = d
	s.Datas[d].Cons = append(s.Datas[d].Cons, len(s.Cons))
	s.Cons = append(s.Cons, c)
}

// field is a field's multiplicity and type.
type field struct {
	m api.Mult
	t api.Type
}

func once(t api.Type) field  { return field{api.One, t} }
func often(t api.Type) field { return field{api.Many, t} }

func con(name string, fields ...field) api.Con {
	c := api.Con{Name: name}
	for _, f := range fields {
		c.Mults = append(c.Mults, f.m)
		c.Fields = append(c.Fields, f.t)
	}
	return c
}

func param(n int) api.Type { return of(api.TVar, n) }

func of(kind uint8, n int, within ...api.Type) api.Type {
	return api.Type{Kind: kind, N: n, L: within}
}
