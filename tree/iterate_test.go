package tree_test

import (
	"slices"
	"sync"
	"testing"
)

// R8, P15.3: Each may be left anywhere, and gone over again.
func TestEachIsLeft(t *testing.T) {
	u := built(t, 2, many(300, 2))
	all, each := eachOf(u), u.Each()
	for stop := range len(all) + 1 {
		var got []placed
		for n, e := range each {
			if len(got) == stop {
				break
			}
			got = append(got, placed{n, e})
		}
		if !slices.Equal(got, all[:stop]) {
			t.Fatalf("left behind %d: %v", stop, got)
		}
	}
}

// R8, P15.6: so may Forms, on every level.
func TestFormsAreLeft(t *testing.T) {
	u := built(t, 2, many(300, 2))
	forms := u.Forms()
	all := slices.Collect(forms)
	for stop := range len(all) + 1 {
		var got []string
		for f := range forms {
			if len(got) == stop {
				break
			}
			got = append(got, f)
		}
		if !slices.Equal(got, all[:stop]) {
			t.Fatalf("left behind %d: %q", stop, got)
		}
	}
}

// R8: a round may be on within another one, of Each and of Forms, and With be called meanwhile.
func TestRoundsWithinRounds(t *testing.T) {
	u := built(t, 2, many(30, 2))
	each, forms := u.Each(), u.Forms()
	all, texts := eachOf(u), slices.Collect(forms)
	var outer []placed
	for n, e := range each {
		outer = append(outer, placed{n, e})
		laid(t, u, n, nil)
		var inner []placed
		for n, e := range each {
			inner = append(inner, placed{n, e})
		}
		if !slices.Equal(inner, all) {
			t.Fatalf("an inner round: %v", inner)
		}
	}
	var outerTexts []string
	for f := range forms {
		outerTexts = append(outerTexts, f)
		if inner := slices.Collect(forms); !slices.Equal(inner, texts) {
			t.Fatalf("an inner round: %q", inner)
		}
	}
	if !slices.Equal(outer, all) || !slices.Equal(outerTexts, texts) {
		t.Errorf("%v, %q", outer, outerTexts)
	}
}

// R2: a tree never changes, so that several may ask it at one time.
func TestSeveralAsk(t *testing.T) {
	l := many(3000, 4)
	u := built(t, 4, l)
	root, forms := u.Root(), slices.Collect(u.Forms())
	var wait sync.WaitGroup
	for i := range 8 {
		wait.Go(func() {
			v, _ := u.With(i, nil)
			d, _ := u.Differ(v)
			if len(d) > 1 || u.Len() != 3000 || u.Root() != root || !slices.Equal(slices.Collect(u.Forms()), forms) {
				t.Errorf("%v, %d", d, u.Len())
			}
		})
	}
	wait.Wait()
}
