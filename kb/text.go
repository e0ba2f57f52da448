package kb

import (
	"strings"

	"isagoge/api"
)

// String returns the string of b.
func String(b api.Base) (string, api.Errno) {
	if e := Check(b); e != api.OK {
		return "", e
	}
	var w strings.Builder
	declare(&w, "concept", b.Names.Concepts)
	declare(&w, "role", b.Names.Roles)
	declare(&w, "ind", b.Names.Inds)
	for _, x := range statements(b) {
		w.WriteString(x.line(b.Names) + "\n")
	}
	return w.String(), api.OK
}

func declare(w *strings.Builder, kind string, names []string) {
	for _, name := range names {
		w.WriteString(kind + " " + name + "\n")
	}
}
