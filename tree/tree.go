// Package tree has what several layers do with concepts as trees.
package tree

import (
	"isagoge/api"
)

// Copy returns a concept equal to c that shares no memory with it.
func Copy(c api.Concept) api.Concept {
	d := api.Concept{Op: c.Op, N: c.N}
	for _, arg := range c.Args {
		d.Args = append(d.Args, Copy(arg))
	}
	return d
}
