package ty

import (
	"strconv"
	"strings"

	"usufruct/api"
	"usufruct/mult"
)

// spot is where a type stands, as brackets hang on it.
type spot int

const (
	alone  spot = iota
	ahead       // as the first type of a function
	behind      // behind Arr or a data type
)

// part is what is still to be written: s, and t behind it, if there is one.
type part struct {
	s  string
	t  *api.Type
	in spot
}

// writer writes a type. What is still to be written is a list, its last part first, as a type that is handed in may be deeper than calls go.
type writer struct {
	out   strings.Builder
	names []string
	todo  []part
}

// Text is t as it is written, with names for the data types (P6.4).
func Text(t api.Type, names []string) string {
	w := &writer{names: names}
	w.later(part{t: &t})
	for len(w.todo) > 0 {
		p := w.todo[len(w.todo)-1]
		w.todo = w.todo[:len(w.todo)-1]
		w.out.WriteString(p.s)
		if p.t != nil {
			w.put(p.t, p.in)
		}
	}
	return w.out.String()
}

// put writes t's beginning, and leaves the rest to later.
func (w *writer) put(t *api.Type, in spot) {
	if bracketed(t, in) {
		w.out.WriteString("(")
		w.later(part{s: ")"})
	}
	w.writing(t.Kind)(t)
}

// writing is how a type of that kind is written; what is of no kind is written as nothing.
func (w *writer) writing(kind uint8) func(*api.Type) {
	switch kind {
	case api.TVar:
		return w.variable
	case api.TArr:
		return w.array
	case api.TFun:
		return w.function
	case api.TData:
		return w.data
	}
	return w.word
}

func (w *writer) variable(t *api.Type) {
	w.out.WriteString("a" + strconv.Itoa(t.N))
}

func (w *writer) word(t *api.Type) {
	switch t.Kind {
	case api.TInt:
		w.out.WriteString("Int")
	case api.TStr:
		w.out.WriteString("Str")
	case api.TIo:
		w.out.WriteString("Io")
	case api.TFile:
		w.out.WriteString("File")
	}
}

func (w *writer) array(t *api.Type) {
	w.out.WriteString("Arr")
	w.arguments(t.L)
}

func (w *writer) data(t *api.Type) {
	if t.N >= 0 && t.N < len(w.names) {
		w.out.WriteString(w.names[t.N])
	} else {
		w.out.WriteString("#" + strconv.Itoa(t.N))
	}
	w.arguments(t.L)
}

func (w *writer) function(t *api.Type) {
	arrow := part{s: " -" + muText(t.M) + "> "}
	// What is no type may have too few within.
	if len(t.L) > 1 {
		arrow.t = &t.L[1]
	}
	w.later(arrow)
	if len(t.L) > 0 {
		w.later(part{t: &t.L[0], in: ahead})
	}
}

func (w *writer) arguments(l []api.Type) {
	for i := len(l) - 1; i >= 0; i-- {
		w.later(part{s: " ", t: &l[i], in: behind})
	}
}

// later leaves p to be written ahead of what was left so far.
func (w *writer) later(p part) {
	w.todo = append(w.todo, p)
}

func bracketed(t *api.Type, in spot) bool {
	switch in {
	case ahead:
		return t.Kind == api.TFun
	case behind:
		return t.Kind == api.TFun || t.Kind == api.TArr || t.Kind == api.TData && len(t.L) > 0
	}
	return false
}

func muText(m api.Mu) string {
	if m.C == 0 {
		return "m" + strconv.Itoa(m.V)
	}
	return mult.Text(m.C)
}
