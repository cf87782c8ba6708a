package tests

import (
	"fmt"
	"slices"
	"strings"
	"testing"

	"loop.example/g00184/impl"
)

// dot reads "1.9": R and N.
func dot(text string) impl.Dot {
	r, n, _ := strings.Cut(text, ".")
	return impl.Dot{R: numberOf(r), N: numberOf(n)}
}

// dots reads Dots parted by blanks or commas.
func dots(text string) []impl.Dot {
	var out []impl.Dot
	for _, w := range strings.FieldsFunc(text, func(c rune) bool { return c == ' ' || c == ',' }) {
		out = append(out, dot(w))
	}
	return out
}

// item reads "1.1:2.1,3.1": D and its Deps, as they stand.
func item(text string) impl.Item {
	d, deps, _ := strings.Cut(text, ":")
	return impl.Item{D: dot(d), Deps: dots(deps)}
}

// graph reads an item a word, as they stand.
func graph(text string) impl.Graph {
	var g impl.Graph
	for _, w := range strings.Fields(text) {
		g.Items = append(g.Items, item(w))
	}
	return g
}

// dotNo is the i-th of more Dots than a graph takes, ascending, of several replicas.
func dotNo(i int) impl.Dot { return impl.Dot{R: 1 + i/20, N: 1 + i%20*52} }

// dotNos are ascending when the numbers are.
func dotNos(numbers ...int) []impl.Dot {
	var out []impl.Dot
	for _, i := range numbers {
		out = append(out, dotNo(i))
	}
	return out
}

// numbersFrom are those from a number on, and ahead of another one.
func numbersFrom(from int, to int) []int {
	var out []int
	for i := from; i < to; i++ {
		out = append(out, i)
	}
	return out
}

// manyItems are n, each with the Deps that are told of it.
func manyItems(n int, deps func(i int) []int) impl.Graph {
	var g impl.Graph
	for i := range n {
		g.Items = append(g.Items, impl.Item{D: dotNo(i), Deps: dotNos(deps(i)...)})
	}
	return g
}

func slowDotLess(a impl.Dot, b impl.Dot) bool {
	if a.R == b.R {
		return a.N < b.N
	}
	return a.R < b.R
}

func slowDotsOk(list []impl.Dot, most int) bool {
	right := len(list) <= most
	for i, a := range list {
		right = right && a.R > 0 && a.R < 8 && a.N > 0 && a.N < 1000
		for _, b := range list[i+1:] {
			right = right && slowDotLess(a, b)
		}
	}
	return right
}

func slowGraphOk(g impl.Graph) bool {
	var all []impl.Dot
	right := true
	for _, it := range g.Items {
		all = append(all, it.D)
		right = right && slowDotsOk(it.Deps, 60) && !slices.Contains(it.Deps, it.D)
	}
	return right && slowDotsOk(all, 100)
}

// slowReach tells what is reached from each item by Deps, over one or more.
func slowReach(g impl.Graph) map[impl.Dot]map[impl.Dot]bool {
	deps := map[impl.Dot][]impl.Dot{}
	for _, it := range g.Items {
		deps[it.D] = it.Deps
	}
	out := map[impl.Dot]map[impl.Dot]bool{}
	for _, it := range g.Items {
		met := map[impl.Dot]bool{}
		var visit func(d impl.Dot)
		visit = func(d impl.Dot) {
			for _, next := range deps[d] {
				if !met[next] {
					met[next] = true
					visit(next)
				}
			}
		}
		visit(it.D)
		out[it.D] = met
	}
	return out
}

func slowWhole(g impl.Graph) []impl.Dot {
	reach := slowReach(g)
	var out []impl.Dot
	for _, it := range g.Items {
		whole := true
		for d := range reach[it.D] {
			whole = whole && reach[d] != nil
		}
		if whole {
			out = append(out, it.D)
		}
	}
	return out
}

// slowGroups tells of each whole Dot its Group.
func slowGroups(g impl.Graph) map[impl.Dot][]impl.Dot {
	reach := slowReach(g)
	out := map[impl.Dot][]impl.Dot{}
	for _, d := range slowWhole(g) {
		for _, it := range g.Items {
			if it.D == d || reach[d][it.D] && reach[it.D][d] {
				out[d] = append(out[d], it.D)
			}
		}
	}
	return out
}

// slowOrder goes by the chapter's words: each time all Groups are asked, and the least that may come is taken.
func slowOrder(g impl.Graph) []impl.Dot {
	groups := slowGroups(g)
	deps := map[impl.Dot][]impl.Dot{}
	for _, it := range g.Items {
		deps[it.D] = it.Deps
	}
	there := map[impl.Dot]bool{}
	var out []impl.Dot
	for {
		var best []impl.Dot
		for d, group := range groups {
			may := !there[d]
			for _, member := range group {
				for _, dep := range deps[member] {
					may = may && (there[dep] || slices.Contains(group, dep))
				}
			}
			if may && (best == nil || slowDotLess(group[0], best[0])) {
				best = group
			}
		}
		if best == nil {
			return out
		}
		for _, d := range best {
			there[d] = true
		}
		out = append(out, best...)
	}
}

// dotsToAsk are those of a graph, those that are named in it alone, and some more.
func dotsToAsk(g impl.Graph) []impl.Dot {
	out := dots("1.1 7.999 0.0 8.1 1.1000 -1.-1")
	for _, it := range g.Items {
		out = append(append(out, it.D), it.Deps...)
	}
	slices.SortFunc(out, func(a impl.Dot, b impl.Dot) int {
		if slowDotLess(a, b) {
			return -1
		}
		return 1
	})
	return slices.Compact(out)
}

// mustBeOrdered asks all of a right graph that can be asked of it.
func mustBeOrdered(t *testing.T, what string, g impl.Graph) {
	t.Helper()
	if !impl.GraphOk(g) || !slowGraphOk(g) {
		t.Fatalf("%s: not right: %v", what, g)
	}
	whole, order, groups := impl.Whole(g), impl.OrderOf(g), slowGroups(g)
	if want := slowWhole(g); !slices.Equal(whole, want) {
		t.Errorf("%s: Whole of %v: %v, not %v", what, g, whole, want)
	}
	for _, d := range dotsToAsk(g) {
		if l := impl.Group(g, d); !slices.Equal(l, groups[d]) {
			t.Errorf("%s: Group of %v in %v: %v, not %v", what, d, g, l, groups[d])
		}
	}
	if want := slowOrder(g); !slices.Equal(order, want) {
		t.Errorf("%s: OrderOf %v: %v, not %v", what, g, order, want)
	}
	mustComeBehindDeps(t, what, g)
}

// mustComeBehindDeps asks for the promise alone: each whole one once, behind
// all its Deps that are not of its Group, and a Group all at once, ascending.
func mustComeBehindDeps(t *testing.T, what string, g impl.Graph) {
	t.Helper()
	order := impl.OrderOf(g)
	place := map[impl.Dot]int{}
	for i, d := range order {
		place[d] = i
	}
	if len(place) != len(order) || len(order) != len(impl.Whole(g)) {
		t.Errorf("%s: OrderOf %v has not each whole one once: %v", what, g, order)
	}
	for _, d := range impl.Whole(g) {
		group := impl.Group(g, d)
		first, there := place[group[0]]
		if !there || first+len(group) > len(order) || !slices.Equal(order[first:first+len(group)], group) {
			t.Errorf("%s: OrderOf %v has %v not at once: %v", what, g, group, order)
			continue
		}
		for _, dep := range depsOf(g, d) {
			if at, there := place[dep]; !there || !slices.Contains(group, dep) && at >= first {
				t.Errorf("%s: OrderOf %v: %v not behind %v: %v", what, g, d, dep, order)
			}
		}
	}
}

func depsOf(g impl.Graph, d impl.Dot) []impl.Dot {
	for _, it := range g.Items {
		if it.D == d {
			return it.Deps
		}
	}
	return nil
}

// mustBeNoGraph asks all of a graph that is not right.
func mustBeNoGraph(t *testing.T, what string, g impl.Graph) {
	t.Helper()
	if impl.GraphOk(g) || slowGraphOk(g) {
		t.Errorf("%s: right: %v", what, g)
	}
	if l := impl.Whole(g); len(l) != 0 {
		t.Errorf("%s: Whole of %v: %v", what, g, l)
	}
	if l := impl.OrderOf(g); len(l) != 0 {
		t.Errorf("%s: OrderOf %v: %v", what, g, l)
	}
	for _, d := range dotsToAsk(g) {
		if l := impl.Group(g, d); len(l) != 0 {
			t.Errorf("%s: Group of %v in %v: %v", what, d, g, l)
		}
	}
	for _, text := range []string{"1.1", "1.7", "7.999", "4.444:1.1,5.5", "7.998:7.999"} {
		mustNotPutItem(t, what, g, item(text))
	}
	for i, it := range g.Items {
		if i < 5 || i > len(g.Items)-3 {
			mustNotPutItem(t, what, g, it)
		}
	}
}

func mustBeAsTold(t *testing.T, what string, g impl.Graph) {
	t.Helper()
	if slowGraphOk(g) {
		mustBeOrdered(t, what, g)
	} else {
		mustBeNoGraph(t, what, g)
	}
}

func mustPutItem(t *testing.T, what string, g impl.Graph, it impl.Item) impl.Graph {
	t.Helper()
	want := impl.Graph{}
	done := false
	for _, x := range g.Items {
		if !done && slowDotLess(it.D, x.D) {
			want.Items, done = append(want.Items, it), true
		}
		want.Items = append(want.Items, x)
	}
	if !done {
		want.Items = append(want.Items, it)
	}
	before := wholeCopy(g)
	got, ok := impl.GraphPut(g, it)
	if !ok || !same(got, want) || !impl.GraphOk(got) {
		t.Errorf("%s: GraphPut of %v into %v: %v %v", what, it, g, got, ok)
	}
	if !same(wholeCopy(g), before) {
		t.Errorf("%s: GraphPut wrote into %v", what, g)
	}
	return got
}

func mustNotPutItem(t *testing.T, what string, g impl.Graph, it impl.Item) {
	t.Helper()
	got, ok := impl.GraphPut(g, it)
	if ok || !same(got, g) {
		t.Errorf("%s: GraphPut of %v into %v: %v %v, not as it was", what, it, g, got, ok)
	}
}

// mustCome asks for an order that is told by hand, its Groups parted by bars.
func mustCome(t *testing.T, text string, want string) {
	t.Helper()
	g := graph(text)
	var order []impl.Dot
	for _, part := range strings.Split(want, "|") {
		group := dots(part)
		order = append(order, group...)
		for _, d := range group {
			if l := impl.Group(g, d); !slices.Equal(l, group) {
				t.Errorf("Group of %v in %q: %v, not %v", d, text, l, group)
			}
		}
	}
	if l := impl.OrderOf(g); !slices.Equal(l, order) {
		t.Errorf("OrderOf %q: %v, not %v", text, l, order)
	}
	for _, it := range g.Items {
		whole := slices.Contains(order, it.D)
		if slices.Contains(impl.Whole(g), it.D) != whole || (len(impl.Group(g, it.D)) > 0) != whole {
			t.Errorf("%v in %q: whole is not %v", it.D, text, whole)
		}
	}
	mustBeOrdered(t, fmt.Sprintf("%q", text), g)
}
