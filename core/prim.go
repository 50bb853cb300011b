package core

import "usufruct/api"

// prim is a primitive or sign, and how many it takes.
type prim struct {
	word  string
	takes int
}

// prims is all of them, by their numbers; at 0 stands none, without a word.
var prims = [...]prim{
	api.PrOpen:  {"open", 2},
	api.PrRead:  {"read", 1},
	api.PrWrite: {"write", 2},
	api.PrClose: {"close", 1},
	api.PrArray: {"array", 2},
	api.PrGet:   {"get", 2},
	api.PrSet:   {"set", 3},
	api.PrSize:  {"size", 1},
	api.PrFail:  {"fail", 1},
	api.PrLen:   {"len", 1},
	api.PrAdd:   {"+", 2},
	api.PrSub:   {"-", 2},
	api.PrMul:   {"*", 2},
	api.PrDiv:   {"/", 2},
	api.PrMod:   {"%", 2},
	api.PrLess:  {"<", 2},
	api.PrSame:  {"==", 2},
	api.PrCat:   {"++", 2},
}
