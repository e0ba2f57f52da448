package task_test

import (
	"fmt"
	"strings"
	"testing"

	"isagoge/api"
	"isagoge/task"
)

// classified returns the classification after comparing it with the verdicts of
// Entails, and checking that it is an order.
func classified(t *testing.T, b api.Base, steps int) ([][]bool, bool) {
	t.Helper()
	label := fmt.Sprint(text(b), steps, " steps")
	matrix, known, e := task.Classify(b, steps)
	if e != api.OK {
		t.Errorf("%.700s: error %d", label, e)
	}
	count := len(b.Names.Concepts)
	allKnown := true
	want := make([][]bool, count)
	for sub := range count {
		for super := range count {
			v := asked(t, b, inclusion(name(sub), name(super)), steps)
			allKnown = allKnown && v.Known
			want[sub] = append(want[sub], v.Holds)
		}
	}
	if known != allKnown {
		t.Errorf("%.700s: known: %v", label, known)
	}
	if !known {
		want = nil
	}
	if shown(matrix) != shown(want) {
		t.Errorf("%.700s: %v, not %v", label, matrix, want)
	}
	for sub := range matrix {
		if !matrix[sub][sub] {
			t.Errorf("%.700s: not reflexive", label)
		}
		for between := range matrix {
			for super := range matrix {
				if matrix[sub][between] && matrix[between][super] && !matrix[sub][super] {
					t.Errorf("%.700s: not transitive", label)
				}
			}
		}
	}
	return matrix, known
}

// rows returns a matrix as the rows of its bits.
func rows(matrix [][]bool) string {
	var l []string
	for _, row := range matrix {
		s := ""
		for _, bit := range row {
			s += map[bool]string{false: "0", true: "1"}[bit]
		}
		l = append(l, s)
	}
	return strings.Join(l, " ")
}

// P9.4, P9.6: small knowledge bases.
func TestClassify(t *testing.T) {
	for _, c := range []struct{ lines, want string }{
		{"", ""},
		{"role r;ind a;top < bot", ""},
		{"concept A", "1"},
		{"concept A;A < bot", "1"},
		{"concept A;concept B", "10 01"},
		{"concept A;concept B;A < B", "11 01"},
		{"concept A;concept B;B < A", "10 11"},
		{"concept A;concept B;A < B;B < A", "11 11"},
		{"concept A;concept B;A < bot", "11 01"},
		{"concept A;concept B;top < B", "11 01"},
		{"concept A;concept B;ind a;a : (A and not A)", "11 11"},
		{"concept A;concept B;concept C;A < B;B < C", "111 011 001"},
		{"concept C;concept B;concept A;A < B;B < C", "100 110 111"},
		{"concept A;concept B;concept C;(A or B) < C", "101 011 001"},
		{"concept A;concept B;concept C;A < (B or C);B < C", "101 011 001"},
		{"concept A;concept B;concept C;role r;A < some r B;some r top < C", "101 010 001"},
		{"concept A;concept B;concept C;role r;role s;role r < s-;A < some r all s B", "110 010 001"},
		{"concept A;concept B;concept C;role r;A < all r bot;A < some r B;C < A", "111 010 111"},
		{"concept x0;concept x1;ind x2;x1 < x0;x2 : not x1", "10 11"},
		{"concept A;concept B;concept C;ind a;a : A;a : bot", "111 111 111"},
	} {
		b := parsed(c.lines)
		matrix, known := classified(t, b, api.MaxSteps)
		if rows(matrix) != c.want || !known {
			t.Errorf("%s: %s, known: %v", c.lines, rows(matrix), known)
		}
	}
}

// P9.4: as many names as possible, in a chain.
func TestClassifyManyNames(t *testing.T) {
	lines := listed("concept", "A", 0, 16)
	var want []string
	for k := range 16 {
		if k < 15 {
			lines += fmt.Sprintf("A%d < A%d;", k, k+1)
		}
		want = append(want, strings.Repeat("0", k)+strings.Repeat("1", 16-k))
	}
	matrix, known := classified(t, parsed(lines), api.MaxSteps)
	if rows(matrix) != strings.Join(want, " ") || !known {
		t.Errorf("%s, known: %v", rows(matrix), known)
	}
	matrix, known = classified(t, parsed(lines+"A15 < A0"), api.MaxSteps)
	if strings.Contains(rows(matrix), "0") || !known {
		t.Errorf("%s, known: %v", rows(matrix), known)
	}
}

// P9.4: a verdict that is not known makes the matrix empty: most of them, those
// of the first or the last name with others, or those of a name with itself.
func TestClassifyUnknown(t *testing.T) {
	forward, backward, chain := "role r", "", "X11 < some r some r some r bot"
	for k := range 12 {
		forward = fmt.Sprintf("%s;concept X%d", forward, k)
		backward = fmt.Sprintf("concept X%d;%s", k, backward)
		if k < 11 {
			chain += fmt.Sprintf(";X%d < %sX%d", k, strings.Repeat("some r ", 18), k+1)
		}
	}
	for _, lines := range []string{coloring(8, 9), forward + ";" + chain, backward + "role r;" + chain} {
		matrix, known, e := task.Classify(parsed(lines), api.MaxSteps)
		if len(matrix) > 0 || known || e != api.OK {
			t.Errorf("%s: %v, known: %v, error %d", lines, matrix, known, e)
		}
	}
	easy := strings.Replace(chain, "some r some r some r bot", "bot", 1)
	matrix, known := classified(t, parsed(forward+";"+easy), api.MaxSteps)
	if strings.Contains(rows(matrix), "0") || !known {
		t.Errorf("%s, known: %v", rows(matrix), known)
	}
	for _, lines := range []string{"concept A", "concept A;concept B", "concept A;concept B;A < B"} {
		if _, known := classified(t, parsed(lines), 0); known {
			t.Errorf("%s: known without steps", lines)
		}
	}
	for _, lines := range []string{"", "role r;ind a;top < bot"} {
		if _, known := classified(t, parsed(lines), 0); !known {
			t.Errorf("%s: not known", lines)
		}
	}
}

// P9.4: few steps, with which some verdicts are known, or all of them.
func TestClassifySteps(t *testing.T) {
	for _, lines := range []string{"concept A;concept B;concept C;A < B", coloring(3, 4), "concept A;concept B;role r;A < some r some r- B;B < all r A"} {
		before := false
		for steps := 0; steps <= api.MaxSteps; steps += 1 + 2*steps {
			_, known := classified(t, parsed(lines), steps)
			if before && !known {
				t.Errorf("%s: not known with %d steps", lines, steps)
			}
			before = known
		}
		if !before {
			t.Errorf("%s: not known", lines)
		}
	}
}

// P9.4: the errors, in their order; without concept names there is no test that
// could be too large.
func TestClassifyErrors(t *testing.T) {
	ten := listed("ind", "i", 0, 10)
	large := []api.Base{
		parsed("concept A;" + ten), parsed("concept A;concept B;" + ten), sized(60, 0, 0, 0), sized(0, 0, 0, 60), sized(15, 15, 15, 15),
		parsed("concept A;ind a" + strings.Repeat(";a : not not not not not not not A", 49) + ";a : not not not not A"),
	}
	for _, b := range large {
		for _, steps := range []int{0, 1, api.MaxSteps} {
			matrix, known, e := task.Classify(b, steps)
			expect(t, text(b), fmt.Sprint(matrix, known), e, "[] false", api.ErrLarge)
		}
	}
	for _, b := range append(large, based(""), parsed("")) {
		for _, steps := range farNumbers() {
			matrix, known, e := task.Classify(b, steps)
			expect(t, text(b), fmt.Sprint(matrix, known), e, "[] false", api.ErrArg)
		}
	}
	for _, b := range wrongBases() {
		for _, steps := range append(farNumbers(), 0, 1, api.MaxSteps) {
			matrix, known, e := task.Classify(b, steps)
			expect(t, shown(b), fmt.Sprint(matrix, known), e, "[] false", api.ErrBase)
		}
	}
	for _, lines := range []string{ten, "role r;" + ten + strings.Repeat(";(i0, i1) : r", 60), ten + strings.Repeat(";i9 : bot", 60)} {
		for _, steps := range []int{0, 1, api.MaxSteps} {
			matrix, known, e := task.Classify(parsed(lines), steps)
			expect(t, lines, fmt.Sprint(matrix, known), e, "[] true", api.OK)
		}
	}
	classified(t, sized(59, 0, 0, 0), api.MaxSteps)
	classified(t, parsed("concept A;"+listed("ind", "i", 0, 9)), api.MaxSteps)
	classified(t, parsed("concept A;ind a"+strings.Repeat(";a : not not not not not not not A", 49)+";a : not not not A"), api.MaxSteps)
}
