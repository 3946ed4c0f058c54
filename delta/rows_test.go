package delta

import (
	"cmp"
	"slices"
	"testing"
)

// meet is what two rows have at each place, the first n places alone.
func meet(a, b []int, n int) [][2]int {
	var l [][2]int
	if n == 0 {
		return l
	}
	for x, y := range together(a, b, cmp.Compare[int]) {
		l = append(l, [2]int{x, y})
		if len(l) == n {
			break
		}
	}
	return l
}

// The rows are told by the sets of bits of two numbers.
func TestTwoRowsTogether(t *testing.T) {
	for bits := range 1 << 10 {
		var a, b []int
		var want [][2]int
		for i := range 5 {
			left, right := bits>>i&1*(i+1), bits>>(i+5)&1*(i+1)
			if left > 0 {
				a = append(a, left)
			}
			if right > 0 {
				b = append(b, right)
			}
			if left > 0 || right > 0 {
				want = append(want, [2]int{left, right})
			}
		}
		for n := range len(want) + 1 {
			if got := meet(a, b, n); !slices.Equal(got, want[:n]) {
				t.Fatalf("%v and %v, left behind %d: %v, not %v", a, b, n, got, want[:n])
			}
		}
	}
}

func TestTwoRowsAgain(t *testing.T) {
	both := together([]string{"a", "c"}, []string{"b", "c"}, cmp.Compare[string])
	for range 3 {
		told := ""
		for x, y := range both {
			told += "(" + x + "," + y + ")"
		}
		if told != "(a,)(,b)(c,c)" {
			t.Fatal(told)
		}
	}
}
