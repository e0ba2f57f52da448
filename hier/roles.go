package hier

import (
	"slices"

	"isagoge/api"
)

func isRole(b api.Base, r int) bool {
	return 0 <= r && r < 2*len(b.Names.Roles)
}

func inverse(r int) int {
	return r ^ 1
}

// above returns the roles that r is below, in increasing order.
func above(b api.Base, r int) []int {
	var found []int
	work := []int{r}
next:
	for len(work) > 0 {
		role := work[0]
		work = work[1:]
		for _, known := range found {
			if known == role {
				continue next
			}
		}
		found = append(found, role)
		for _, x := range b.Roles {
			if x.Sub == role {
				work = append(work, x.Super)
			}
			if inverse(x.Sub) == role {
				work = append(work, inverse(x.Super))
			}
		}
	}
	slices.Sort(found)
	return found
}
