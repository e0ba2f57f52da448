package interp

import (
	"isagoge/api"
	"isagoge/bitset"
)

type element int

type set = bitset.Set[element]

// A world is an interpretation as sets of elements.
type world struct {
	all   set
	names []set
	// ends has, for each role and each element, the elements at the other ends
	// of the role's pairs that begin with it.
	ends [][]set
	inds []element
}

func worldOf(i api.Interp) *world {
	w := &world{all: bitset.Below(element(i.Size))}
	for _, list := range i.Concepts {
		var s set
		for _, x := range list {
			s = s.With(element(x))
		}
		w.names = append(w.names, s)
	}
	for _, pairs := range i.Roles {
		forth, back := make([]set, i.Size), make([]set, i.Size)
		for _, p := range pairs {
			x, y := element(p[0]), element(p[1])
			forth[x] = forth[x].With(y)
			back[y] = back[y].With(x)
		}
		w.ends = append(w.ends, forth, back)
	}
	for _, x := range i.Inds {
		w.inds = append(w.inds, element(x))
	}
	return w
}

// elements returns the elements of a valid concept.
func (w *world) elements(c api.Concept) set {
	evaluations := [...]func(*world, api.Concept) set{
		api.CName: (*world).named,
		api.CTop:  (*world).everything,
		api.CBot:  (*world).nothing,
		api.CNot:  (*world).others,
		api.CAnd:  (*world).both,
		api.COr:   (*world).either,
		api.CSome: (*world).withSome,
		api.CAll:  (*world).withAll,
	}
	return evaluations[c.Op](w, c)
}

func (w *world) named(c api.Concept) set {
	return w.names[c.N]
}

func (w *world) everything(api.Concept) set {
	return w.all
}

func (w *world) nothing(api.Concept) set {
	return set{}
}

func (w *world) others(c api.Concept) set {
	return w.all.Minus(w.elements(c.Args[0]))
}

func (w *world) both(c api.Concept) set {
	return w.elements(c.Args[0]).And(w.elements(c.Args[1]))
}

func (w *world) either(c api.Concept) set {
	return w.elements(c.Args[0]).Or(w.elements(c.Args[1]))
}

func (w *world) withSome(c api.Concept) set {
	return w.whose(c, set.Meets)
}

func (w *world) withAll(c api.Concept) set {
	return w.whose(c, set.Within)
}

// whose returns the elements for which the other ends of their pairs of the
// role of c are related to the elements of the concept below c.
func (w *world) whose(c api.Concept, related func(ends, below set) bool) set {
	below := w.elements(c.Args[0])
	var s set
	for x, ends := range w.ends[c.N] {
		if related(ends, below) {
			s = s.With(element(x))
		}
	}
	return s
}
