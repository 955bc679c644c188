package ident_test

import (
	"slices"
	"testing"

	"watersmeet/api"
	"watersmeet/ident"
	"watersmeet/sample"
	"watersmeet/shape"
	"watersmeet/tree"
)

// P17.3: what is told of right queries is right, and makes the same bag.

// keeps fails unless x, as the Root of q, is right and makes these bags of the data.
func keeps(t *testing.T, q api.Query, x api.Tree, data []api.Data, bags [][]api.Row) {
	t.Helper()
	if fault := sample.Fault(api.Query{Cols: q.Cols, Root: x}, data, bags); fault != "" {
		t.Fatalf("%s of %s: %s", shown(x), shown(q.Root), fault)
	}
}

// shown tells the text of a tree.
func shown(x api.Tree) string {
	text, _ := shape.Print(x)
	return text
}

// Each change, of each two Kinds for which it may be done, at the whole tree.
func TestDoKeepsTheBag(t *testing.T) {
	dice := sample.New(1)
	done := map[[3]int]int{}
	for range 30000 {
		q := dice.Query(4)
		var data []api.Data
		var bags [][]api.Row
		for _, how := range hows {
			x, ok := ident.Do(how, q.Root)
			if !ok {
				continue
			}
			if data == nil {
				data, bags = dice.Bags(q, 4, 5)
			}
			keeps(t, q, x, data, bags)
			if len(slices.Concat(bags...)) > 0 {
				// The operators as the chapter names them: the one that stands above is b in Rotate and Swap.
				kinds := [3]int{how, q.Root.Kind}
				switch how {
				case ident.Rotate, ident.Swap:
					kinds = [3]int{how, q.Root.Kids[0].Kind, q.Root.Kind}
				case ident.Back, ident.Exchange:
					kinds[2] = q.Root.Kids[1].Kind
				}
				done[kinds]++
			}
		}
	}
	for _, how := range hows {
		for a := range 6 {
			for b := range 6 {
				if how == ident.Turn && b > 0 {
					continue
				}
				if n := done[[3]int{how, a, b}]; (n > 10) != slowMay(how, a, b) {
					t.Errorf("%d of %d and %d was done %d times", how, a, b, n)
				}
			}
		}
	}
}

// All that Ways tells, and what changes lead to from there on.
func TestWaysKeepTheBag(t *testing.T) {
	dice := sample.New(2)
	steps := 0
	for range 2500 {
		q := dice.Query(7)
		data, bags := dice.Bags(q, 3, 4)
		x := q.Root
		for range 8 {
			l := ident.Ways(x)
			if len(l) == 0 {
				break
			}
			for _, way := range l {
				keeps(t, q, way, data, bags)
				steps++
			}
			x = l[dice.Below(len(l))]
		}
	}
	if steps < 20000 {
		t.Errorf("%d steps alone", steps)
	}
}

// All trees to which changes lead, one after the other, of small queries.
func TestAllKeepTheBag(t *testing.T) {
	dice := sample.New(3)
	most := 0
	for range 1000 {
		q := dice.Query(5)
		data, bags := dice.Bags(q, 2, 4)
		seen := map[string]bool{shown(q.Root): true}
		work := []api.Tree{q.Root}
		for len(work) > 0 && len(seen) < 500 {
			x := work[0]
			work = work[1:]
			keeps(t, q, x, data, bags)
			for _, way := range ident.Ways(x) {
				if text := shown(way); !seen[text] {
					seen[text] = true
					work = append(work, way)
				}
			}
		}
		most = max(most, len(seen))
	}
	if most < 60 {
		t.Errorf("%d trees alone", most)
	}
}

// Of a right query each change has one that leads back.
func TestThereAndBack(t *testing.T) {
	back := map[int]int{ident.Turn: ident.Turn, ident.Rotate: ident.Back, ident.Back: ident.Rotate, ident.Swap: ident.Swap, ident.Exchange: ident.Exchange}
	dice := sample.New(4)
	done := map[int]int{}
	for range 30000 {
		q := dice.Query(5)
		for _, part := range sample.Within(&q.Root) {
			for how, other := range back {
				x, ok := ident.Do(how, *part)
				if !ok {
					continue
				}
				done[how]++
				if got, ok := ident.Do(other, x); !ok || !tree.Same(got, *part) {
					t.Fatalf("%s by %d: %s, and then %s, %t", shown(*part), how, shown(x), shown(got), ok)
				}
			}
		}
	}
	for how := range back {
		if done[how] < 150 {
			t.Errorf("%d was done %d times alone", how, done[how])
		}
	}
}

// Of three tables, each joined with the next one, changes lead to all eight trees that have no join of the first and the last one alone.
func TestAllOfThreeTables(t *testing.T) {
	seen := map[string]bool{}
	work := []api.Tree{sample.Parse("((0⋈[=0.0,1.0]1)⋈[=1.0,2.0]2)")}
	for len(work) > 0 {
		x := work[0]
		work = work[1:]
		if !seen[shown(x)] {
			seen[shown(x)] = true
			work = append(work, ident.Ways(x)...)
		}
	}
	if len(seen) != 8 {
		t.Error(seen)
	}
}
