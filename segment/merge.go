package segment

// Merge goes through two rising lists side by side.
func Merge[A, B any](a []A, b []B, left func(A) string, right func(B) string, each func(key string, x *A, y *B)) {
	if left == nil || right == nil || each == nil {
		return
	}
	i, j := 0, 0
	for i < len(a) && j < len(b) {
		x, y := a[i], b[j] // new in each round, for each may keep them, and write there
		p, q := left(x), right(y)
		switch {
		case p < q:
			each(p, &x, nil)
			i++
		case q < p:
			each(q, nil, &y)
			j++
		default:
			each(p, &x, &y)
			i++
			j++
		}
	}
	for _, x := range a[i:] {
		each(left(x), &x, nil)
	}
	for _, y := range b[j:] {
		each(right(y), nil, &y)
	}
}
