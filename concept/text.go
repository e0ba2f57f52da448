package concept

import (
	"isagoge/api"
	"isagoge/tree"
)

// String returns the string of c.
func String(n api.Names, c api.Concept) (string, api.Errno) {
	if e := Check(n, c); e != api.OK {
		return "", e
	}
	return tree.String(n, c), api.OK
}
