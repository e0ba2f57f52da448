package scan_test

import (
	"slices"
	"strings"
	"testing"

	"isagoge/scan"
)

func TestTokens(t *testing.T) {
	const marks = "()-<:,"
	for _, c := range []struct {
		s, marks, want string
		ok             bool
	}{
		{"", marks, "", true},
		{"   ", marks, "", true},
		{"A", "", "A", true},
		{" A  B1 c_ ", marks, "A B1 c_", true},
		{"(a,b1):r", marks, "( a , b1 ) : r", true},
		{"some r-(A or not B)<C", marks, "some r - ( A or not B ) < C", true},
		{"--<<", marks, "- - < <", true},
		{"concept A", marks, "concept A", true},
		{"A<B", "()-", "", false},
		{"A-B", "", "", false},
		{"A B!", marks, "", false},
		{"1A", marks, "", false},
		{"A 1", marks, "", false},
		{"_", marks, "", false},
		{"A\tB", marks, "", false},
		{"A\n", marks, "", false},
		{"A\x00", marks, "", false},
		{"A\xff", marks, "", false},
		{"Aé", marks, "", false},
	} {
		got, ok := scan.Tokens(c.s, c.marks)
		if ok != c.ok || !slices.Equal(got, strings.Fields(c.want)) {
			t.Errorf("%q with the marks %q: %q %v", c.s, c.marks, got, ok)
		}
	}
}

func TestIsName(t *testing.T) {
	for _, s := range strings.Fields("A z Top tops A1 a_ x_9_Y an rolex " + strings.Repeat("a", 1000)) {
		if !scan.IsName(s) {
			t.Errorf("%.20q is no name", s)
		}
	}
	no := []string{"", " ", "A ", " A", "A B", "1", "1A", "_A", "A-", "-", "(", "<", ":", ",", "A\n", "A\xff", "é"}
	for _, s := range append(no, strings.Fields("top bot not and or some all concept role ind")...) {
		if scan.IsName(s) {
			t.Errorf("%q is a name", s)
		}
	}
}
