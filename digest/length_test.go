package digest

import "testing"

// P3.5: texts of so many bytes are too great to be cut in a test, so their lengths alone are.
func TestLengthsOfManyDigits(t *testing.T) {
	for _, x := range []struct {
		text   string
		length int
		found  bool
	}{
		{"0:a", 0, true},
		{"999999999:a", 999999999, true},
		{"1000000000:a", 1000000000, true},
		{"9999999999:a", 9999999999, true},
		{"10000000000:a", 0, false},
		{"99999999999:a", 0, false},
		{"00000000000:a", 0, false},
		{"9999999999", 0, false},
		{"18446744073709551617:a", 0, false},
	} {
		rest := ""
		if x.found {
			rest = "a"
		}
		length, behind, found := cutLength(x.text)
		if length != x.length || behind != rest || found != x.found {
			t.Errorf("cutLength(%q) is %d, %q, %v", x.text, length, behind, found)
		}
	}
}
