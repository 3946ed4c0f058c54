package delta

import (
	"iter"

	"strata/api"
	"strata/path"
)

// together goes through two rows in which all rises by order, and hands out what they have at each place; the zero value, where one of them has nothing.
func together[E any](a, b []E, order func(x, y E) int) iter.Seq2[E, E] {
	return func(yield func(E, E) bool) {
		for i, k := 0, 0; i < len(a) || k < len(b); {
			var x, y E
			next := nearer(a[i:], b[k:], order)
			if next <= 0 {
				x = a[i]
				i++
			}
			if next >= 0 {
				y = b[k]
				k++
			}
			if !yield(x, y) {
				return
			}
		}
	}
}

// nearer is below 0, if the row a comes first, above 0, if b does, and 0, if both do; at most one of the two is empty.
func nearer[E any](a, b []E, order func(x, y E) int) int {
	if len(b) == 0 {
		return -1
	}
	if len(a) == 0 {
		return 1
	}
	return order(a[0], b[0])
}

// unlike is the delta of two trees. An entry of no kind stands for nothing.
func unlike(a, b []api.Entry) []api.Change {
	var l []api.Change
	top := "" // the last path that is gone: what lies below it comes next, and goes with it
	for was, is := range together(a, b, byPath) {
		if was.Kind != api.KNone && !sameSort(was, is) && (top == "" || !path.Below(top, was.Path)) {
			top = was.Path
			l = append(l, api.Change{Path: top, Gone: true})
		}
		if is.Kind != api.KNone && is != was {
			l = append(l, api.Change{Path: is.Path, Entry: is})
		}
	}
	return l
}

func byPath(x, y api.Entry) int { return path.Compare(x.Path, y.Path) }

// sameSort tells whether both are directories, or neither is; nothing is of no sort.
func sameSort(x, y api.Entry) bool {
	return y.Kind != api.KNone && (x.Kind == api.KDir) == (y.Kind == api.KDir)
}
