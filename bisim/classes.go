package bisim

import "isagoge/api"

// endsOf returns, for each role and each element of i, the elements at the
// other ends of the role's pairs that begin with it.
func endsOf(i api.Interp) [][][]int {
	var ends [][][]int
	for _, pairs := range i.Roles {
		forth, back := make([][]int, i.Size), make([][]int, i.Size)
		for _, p := range pairs {
			forth[p[0]] = append(forth[p[0]], p[1])
			back[p[1]] = append(back[p[1]], p[0])
		}
		ends = append(ends, forth, back)
	}
	return ends
}

// reached reports of each element of i whether it is reachable from some of
// the given ones.
func reached(i api.Interp, from []int) []bool {
	ends := endsOf(i)
	met := make([]bool, i.Size)
	var visit func(x int)
	visit = func(x int) {
		if met[x] {
			return
		}
		met[x] = true
		for role := range ends {
			for _, y := range ends[role][x] {
				visit(y)
			}
		}
	}
	for _, x := range from {
		visit(x)
	}
	return met
}

// classesOf returns the number of the class of each element of i.
func classesOf(i api.Interp) []int {
	rounds := roundsOf(i, endsOf(i))
	return rounds[len(rounds)-1]
}

// roundsOf refines the classes of the elements of i until nothing changes, and
// returns all steps. In the first one the concept names tell elements apart;
// in each other one, also the classes of the step before at the other ends of
// their pairs.
func roundsOf(i api.Interp, ends [][][]int) [][]int {
	class, count := numbered(signaturesByName(i))
	rounds := [][]int{class}
	for {
		finer, more := numbered(signaturesByEnds(class, ends))
		if more == count {
			return rounds
		}
		class, count = finer, more
		rounds = append(rounds, class)
	}
}

// numbered numbers signatures in the order in which they first occur, and
// returns the number of each one, and how many there are.
func numbered(signatures []string) ([]int, int) {
	numbers := map[string]int{}
	var list []int
	for _, s := range signatures {
		if _, known := numbers[s]; !known {
			numbers[s] = len(numbers)
		}
		list = append(list, numbers[s])
	}
	return list, len(numbers)
}

// signaturesByName returns, for each element of i, the numbers of the concept
// names that it belongs to.
func signaturesByName(i api.Interp) []string {
	signatures := make([]string, i.Size)
	for name, list := range i.Concepts {
		for _, x := range list {
			signatures[x] += string(rune(name))
		}
	}
	return signatures
}

// signaturesByEnds returns, for each element, its class, and for each role the
// set of the classes at the other ends, a bit for each class.
func signaturesByEnds(class []int, ends [][][]int) []string {
	const wordSize = 8
	width := (len(class) + wordSize - 1) / wordSize
	var signatures []string
	for x := range class {
		key := []byte(string(rune(class[x])))
		for role := range ends {
			met := make([]byte, width)
			for _, y := range ends[role][x] {
				met[class[y]/wordSize] |= 1 << (class[y] % wordSize)
			}
			key = append(key, met...)
		}
		signatures = append(signatures, string(key))
	}
	return signatures
}
