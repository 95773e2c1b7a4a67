package graph_test

import (
	"math"
	"math/rand"
	"slices"
	"testing"
	"time"

	"rescript/api"
	"rescript/canon"
	"rescript/graph"
	"rescript/names"
	"rescript/parse"
)

// edge tells whether one comes right behind another one: whether its row has it.
func edge(deps [][]int, one, other int) bool { return slices.Contains(deps[one], other) }

// may tells whether one may come: whether all behind which it comes are there.
func may(deps [][]int, there map[int]bool, one int) bool {
	for other := range deps {
		if edge(deps, one, other) && !there[other] {
			return false
		}
	}
	return true
}

// ordered is what the chapter's words tell of an order: again and again the least one that isn't there, and may come.
func ordered(deps [][]int) []int {
	var out []int
	there := map[int]bool{}
	for {
		next := -1
		for i := len(deps) - 1; i >= 0; i-- {
			if !there[i] && may(deps, there, i) {
				next = i
			}
		}
		if next < 0 {
			return out
		}
		there[next] = true
		out = append(out, next)
	}
}

// closed tells of all pairs whether the first one comes behind the other one, by however many others.
func closed(deps [][]int) [][]bool {
	out := make([][]bool, len(deps))
	for i := range deps {
		out[i] = make([]bool, len(deps))
		for j := range deps {
			out[i][j] = edge(deps, i, j)
		}
	}
	for k := range deps {
		for i := range deps {
			for j := range deps {
				out[i][j] = out[i][j] || out[i][k] && out[k][j]
			}
		}
	}
	return out
}

// waved is what the chapter's words tell of waves.
func waved(deps [][]int) [][]int {
	var out [][]int
	there := map[int]bool{}
	for {
		var wave []int
		for i := range deps {
			if !there[i] && may(deps, there, i) {
				wave = append(wave, i)
			}
		}
		if wave == nil {
			return out
		}
		for _, i := range wave {
			there[i] = true
		}
		out = append(out, wave)
	}
}

// longest is how many come one behind the other at most, the last one of them one that comes, of graphs that are small.
func longest(deps [][]int) int {
	var of func(i int) int
	of = func(i int) int {
		most := 0
		for j := range deps {
			if edge(deps, i, j) {
				most = max(most, of(j))
			}
		}
		return most + 1
	}
	most := 0
	for _, i := range ordered(deps) {
		most = max(most, of(i))
	}
	return most
}

// reduced is what the chapter's words tell of rows without what follows from others.
func reduced(deps [][]int) [][]int {
	behind := closed(deps)
	out := make([][]int, len(deps))
	for i, row := range deps {
		var own []int
		for _, d := range row {
			if d >= 0 && d < len(deps) && !slices.Contains(own, d) {
				own = append(own, d)
			}
		}
		for _, d := range own {
			follows := false
			for _, other := range own {
				follows = follows || other != d && behind[other][d]
			}
			if !follows {
				out[i] = append(out[i], d)
			}
		}
	}
	return out
}

// same tells whether rows are alike.
func same(a, b [][]int) bool {
	return slices.EqualFunc(a, b, func(a, b []int) bool { return slices.Equal(a, b) })
}

// copied is rows of their own, each with its room.
func copied(deps [][]int) [][]int {
	out := make([][]int, len(deps))
	for i, row := range deps {
		out[i] = slices.Clone(row)
	}
	return out
}

// holdRows holds one answer of rows, and that it is the caller's: no two rows of it share anything.
func holdRows(t *testing.T, what string, deps, got, want [][]int) {
	t.Helper()
	if !same(got, want) {
		t.Fatalf("%s(%v): %v, not %v", what, deps, got, want)
	}
	for i, row := range got {
		_ = append(row, -7)
		for j := range row {
			row[j] = -7
		}
		for j := i + 1; j < len(got); j++ {
			if !slices.Equal(got[j], want[j]) {
				t.Fatalf("%s(%v): rows share memory", what, deps)
			}
		}
	}
	_ = append(got, []int{-7})
}

// holdRow holds one answer of places, and that it is the caller's.
func holdRow(t *testing.T, what string, deps [][]int, i int, got, want []int) {
	t.Helper()
	if !slices.Equal(got, want) {
		t.Fatalf("%s(%v) of %d: %v, not %v", what, deps, i, got, want)
	}
	for j := range got {
		got[j] = -7
	}
	_ = append(got, -7)
}

// holdPlaces holds what is told of each place, and of what is none.
func holdPlaces(t *testing.T, deps [][]int, behind [][]bool) { // P26.2
	t.Helper()
	for i := -2; i < len(deps)+2; i++ {
		var before, after []int
		for j := range deps {
			if i >= 0 && i < len(deps) && behind[i][j] {
				before = append(before, j)
			}
			if i >= 0 && i < len(deps) && edge(deps, j, i) {
				after = append(after, j)
			}
		}
		holdRow(t, "Before", deps, i, graph.Before(deps, i), before)
		holdRow(t, "Behind", deps, i, graph.Behind(deps, i), after)
	}
}

// holdReady holds which may come, of which some are there.
func holdReady(t *testing.T, deps [][]int, there []bool) { // P26.3
	t.Helper()
	was := slices.Clone(there)
	set := map[int]bool{}
	for i, ok := range there {
		set[i] = ok
	}
	var want []int
	for i := range deps {
		if !set[i] && may(deps, set, i) {
			want = append(want, i)
		}
	}
	holdRow(t, "Ready", deps, len(there), graph.Ready(deps, there), want)
	if !slices.Equal(there, was) {
		t.Fatalf("Ready(%v): written to %v", deps, was)
	}
}

// hold holds all that is told of rows against the chapter's words, and what follows.
func hold(t *testing.T, deps [][]int) {
	t.Helper()
	was := copied(deps)
	behind := closed(deps)
	want := ordered(deps)
	order, all := graph.Order(deps)
	if all != (len(want) == len(deps)) {
		t.Fatalf("Order(%v): %v", deps, all)
	}
	holdRow(t, "Order", deps, 0, order, want)
	var round []int
	for i := range deps {
		if !slices.Contains(want, i) {
			round = append(round, i)
		}
	}
	holdRow(t, "Round", deps, 0, graph.Round(deps), round)
	holdPlaces(t, deps, behind)
	holdRows(t, "Waves", deps, graph.Waves(deps), waved(deps))
	if got, want := graph.Longest(deps), longest(deps); got != want {
		t.Fatalf("Longest(%v): %d, not %d", deps, got, want)
	}
	holdRows(t, "Reduce", deps, graph.Reduce(deps), reduced(deps))
	holdReady(t, deps, nil)
	holdFollowing(t, deps, behind)
	if !same(deps, was) {
		t.Fatalf("written to: %v, not %v", deps, was)
	}
}

// holdFollowing holds what follows.
func holdFollowing(t *testing.T, deps [][]int, behind [][]bool) { // P26.4
	t.Helper()
	order, all := graph.Order(deps)
	for at, i := range order {
		for j := range deps {
			if edge(deps, i, j) && !slices.Contains(order[:at], j) {
				t.Fatalf("Order(%v): %v: %d isn't behind %d", deps, order, i, j)
			}
		}
	}
	selves := false
	for i := range deps {
		selves = selves || behind[i][i]
	}
	if all == selves {
		t.Fatalf("Order(%v): %v, %v", deps, order, all)
	}
	for _, i := range graph.Round(deps) {
		waits := behind[i][i]
		for _, j := range graph.Before(deps, i) {
			waits = waits || behind[j][j]
		}
		if !waits {
			t.Fatalf("Round(%v): %d", deps, i)
		}
	}
	waves := graph.Waves(deps)
	came := slices.Sorted(slices.Values(slices.Concat(waves...)))
	if !slices.Equal(came, slices.Sorted(slices.Values(order))) || len(waves) != graph.Longest(deps) {
		t.Fatalf("Waves(%v): %v", deps, waves)
	}
	if selves {
		return
	}
	less := graph.Reduce(deps)
	if again, _ := graph.Order(less); !slices.Equal(again, order) {
		t.Fatalf("Order of Reduce(%v): %v, not %v", deps, again, order)
	}
	for i := range deps {
		if !slices.Equal(graph.Before(less, i), graph.Before(deps, i)) {
			t.Fatalf("Before of Reduce(%v): of %d", deps, i)
		}
	}
}

func TestOrder(t *testing.T) { // P26.1, the example
	for _, c := range []struct {
		deps         [][]int
		order, round []int
	}{
		{nil, nil, nil},
		{[][]int{}, nil, nil},
		{[][]int{nil}, []int{0}, nil},
		{[][]int{{1}, {0}}, nil, []int{0, 1}},
		{[][]int{{0}}, nil, []int{0}},
		{[][]int{{}, {}, {}}, []int{0, 1, 2}, nil},
		{[][]int{{1}, {2}, {}}, []int{2, 1, 0}, nil},
		{[][]int{{2}, {}, {}}, []int{1, 2, 0}, nil},
		// The least one that may come comes at once, ahead of greater ones that might have come long ago.
		{[][]int{{3}, {0}, {1}, {}, {}}, []int{3, 0, 1, 2, 4}, nil},
		{[][]int{{4}, {4}, {}, {2}, {3}, {}}, []int{2, 3, 4, 0, 1, 5}, nil},
		{[][]int{{1}, {1}, {}}, []int{2}, []int{0, 1}},
		{[][]int{{}, {2}, {1}, {1}, {0}}, []int{0, 4}, []int{1, 2, 3}},
		// What is no place is left out, and what stands there twice is there once.
		{[][]int{{-1, 2, 7, math.MaxInt, math.MinInt}, {0, 0, 0}}, []int{0, 1}, nil},
		{[][]int{{1, 1, 2, 2}, {}, {1, 1}}, []int{1, 2, 0}, nil},
		{[][]int{{1, 1}, {0, 0}}, nil, []int{0, 1}},
	} {
		order, all := graph.Order(c.deps)
		if !slices.Equal(order, c.order) || all != (c.round == nil) {
			t.Errorf("Order(%v): %v, %v", c.deps, order, all)
		}
		if round := graph.Round(c.deps); !slices.Equal(round, c.round) {
			t.Errorf("Round(%v): %v", c.deps, round)
		}
		hold(t, c.deps)
	}
}

func TestPlaces(t *testing.T) { // P26.2
	deps := [][]int{{1, 1, -1}, {2, 9}, {}, {3}, {3, 0}, {6}, {5}}
	for _, c := range []struct {
		i              int
		before, behind []int
	}{
		{0, []int{1, 2}, []int{4}},
		{1, []int{2}, []int{0}},
		{2, nil, []int{1}},
		{3, []int{3}, []int{3, 4}},
		{4, []int{0, 1, 2, 3}, nil},
		{5, []int{5, 6}, []int{6}},
		{6, []int{5, 6}, []int{5}},
		{7, nil, nil},
		{9, nil, nil},
		{-1, nil, nil},
		{math.MaxInt, nil, nil},
		{math.MinInt, nil, nil},
	} {
		if got := graph.Before(deps, c.i); !slices.Equal(got, c.before) {
			t.Errorf("Before(%d): %v, not %v", c.i, got, c.before)
		}
		if got := graph.Behind(deps, c.i); !slices.Equal(got, c.behind) {
			t.Errorf("Behind(%d): %v, not %v", c.i, got, c.behind)
		}
	}
	if graph.Before(nil, 0) != nil || graph.Behind(nil, 0) != nil {
		t.Error("of nothing")
	}
	hold(t, deps)
}

func TestReady(t *testing.T) { // P26.3
	deps := [][]int{{}, {0}, {0, 1, 7}, {3}, {2, 2}}
	for _, c := range []struct {
		there []bool
		want  []int
	}{
		{nil, []int{0}},
		{[]bool{}, []int{0}},
		{[]bool{false, false, false, false, false}, []int{0}},
		{[]bool{true}, []int{1}},
		{[]bool{true, true}, []int{2}},
		{[]bool{false, true}, []int{0}},
		{[]bool{true, true, true}, []int{4}},
		{[]bool{false, false, true}, []int{0, 4}},
		{[]bool{true, true, true, true, true}, nil},
		{[]bool{true, true, true, false, true}, nil},
		{[]bool{true, false, false, true, false, true, true, true}, []int{1}},
		{[]bool{false, false, false, false, false, true, true, true}, []int{0}},
	} {
		if got := graph.Ready(deps, c.there); !slices.Equal(got, c.want) {
			t.Errorf("Ready(%v): %v, not %v", c.there, got, c.want)
		}
		holdReady(t, deps, c.there)
	}
	if got := graph.Ready(nil, []bool{true, false}); len(got) != 0 {
		t.Errorf("Ready of nothing: %v", got)
	}
	// Which are there may be any: not only those that may have come.
	for n := range 1 << 5 {
		for size := range 8 {
			var there []bool
			for i := range size {
				there = append(there, n>>i&1 == 1)
			}
			holdReady(t, deps, there)
			holdReady(t, [][]int{{1}, {0}, {}, {2, 4}, {1, 3}}, there)
		}
	}
}

func TestWaves(t *testing.T) { // P26.3, P26.5
	for _, c := range []struct {
		deps, waves [][]int
	}{
		{nil, nil},
		{[][]int{{}}, [][]int{{0}}},
		{[][]int{{0}}, nil},
		{[][]int{{}, {}, {}}, [][]int{{0, 1, 2}}},
		{[][]int{{1}, {2}, {}}, [][]int{{2}, {1}, {0}}},
		{[][]int{{}, {0}, {0, 1}, {0}, {}}, [][]int{{0, 4}, {1, 3}, {2}}},
		{[][]int{{1}, {}, {0}, {1}, {2, 1}}, [][]int{{1}, {0, 3}, {2}, {4}}},
		{[][]int{{1}, {0}, {}, {2}, {1, 2}}, [][]int{{2}, {3}}},
		{[][]int{{-1, 1, 1}, {7}}, [][]int{{1}, {0}}},
	} {
		if got := graph.Waves(c.deps); !same(got, c.waves) {
			t.Errorf("Waves(%v): %v, not %v", c.deps, got, c.waves)
		}
		if got := graph.Longest(c.deps); got != len(c.waves) {
			t.Errorf("Longest(%v): %d", c.deps, got)
		}
		hold(t, c.deps)
	}
}

func TestReduce(t *testing.T) { // P26.6
	for _, c := range []struct {
		deps, want [][]int
	}{
		{nil, nil},
		{[][]int{nil}, [][]int{{}}},
		{[][]int{{}, {0}, {0, 1}}, [][]int{{}, {0}, {1}}},
		{[][]int{{}, {0}, {1, 0}}, [][]int{{}, {0}, {1}}},
		{[][]int{{}, {0}, {1}, {0, 1, 2}}, [][]int{{}, {0}, {1}, {2}}},
		{[][]int{{}, {0}, {1}, {0, 2}}, [][]int{{}, {0}, {1}, {2}}},
		{[][]int{{}, {}, {1, 0, 1, 0}}, [][]int{{}, {}, {1, 0}}},
		{[][]int{{}, {}, {1, 0}, {1, 2, 0, -4, 4}}, [][]int{{}, {}, {1, 0}, {2}}},
		{[][]int{{-1, 1, 5}, {}}, [][]int{{1}, {}}},
		// One that waits for itself alone stays, since no other one has it ahead.
		{[][]int{{0}}, [][]int{{0}}},
		{[][]int{{0, 0}}, [][]int{{0}}},
		{[][]int{{0}, {0}}, [][]int{{0}, {0}}},
		{[][]int{{0}, {}, {1, 0}}, [][]int{{0}, {}, {1, 0}}},
		// Behind itself and another one: the other one follows from itself.
		{[][]int{{}, {0, 1}}, [][]int{{}, {1}}},
		{[][]int{{}, {1, 0}}, [][]int{{}, {1}}},
		// Two that wait for one another follow from one another, and both go.
		{[][]int{{1}, {0}}, [][]int{{1}, {0}}},
		{[][]int{{1}, {0}, {0, 1}}, [][]int{{1}, {0}, nil}},
		{[][]int{{1}, {0}, {0, 1, 3}, {}}, [][]int{{1}, {0}, {3}, {}}},
		{[][]int{{0, 1}, {0, 1}}, [][]int{nil, nil}},
		{[][]int{{1}, {2}, {0}, {0, 2}, {1, 3}}, [][]int{{1}, {2}, {0}, nil, {3}}},
	} {
		if got := graph.Reduce(c.deps); !same(got, c.want) {
			t.Errorf("Reduce(%v): %v, not %v", c.deps, got, c.want)
		}
		hold(t, c.deps)
	}
}

func TestFew(t *testing.T) { // P26.1 to P26.6: all rows of few places
	for size := range 4 {
		for n := range 1 << (size * size) {
			deps := rows(n, size, false)
			hold(t, deps)
			hold(t, rows(n, size, true))
			for there := range 1 << size {
				holdReady(t, deps, []bool{there&1 != 0, there&2 != 0, there&4 != 0, true}[:size])
			}
		}
	}
	for n := range 1 << 16 {
		hold(t, rows(n, 4, n%3 == 0))
	}
}

// rows is the rows of so many places that a number's bits tell, each rising, or falling.
func rows(n, size int, falling bool) [][]int {
	deps := make([][]int, size)
	for i := range deps {
		for j := range size {
			if n>>(i*size+j)&1 == 1 {
				deps[i] = append(deps[i], j)
			}
		}
		if falling {
			slices.Reverse(deps[i])
		}
	}
	return deps
}

// made is rows that bytes tell: with what is no place, and with what stands there twice.
func made(b []byte) [][]int {
	var out [][]int
	for len(b) > 0 {
		size := min(int(b[0])%5, len(b)-1)
		row := make([]int, 0, size+3)
		for _, c := range b[1 : 1+size] {
			row = append(row, int(c)-2)
		}
		// What lies behind a row's end is neither read nor written to.
		copy(row[len(row):cap(row)], []int{0, 1, 2})
		out = append(out, row)
		b = b[1+size:]
	}
	return out
}

// holdMade holds rows, and what lies behind their ends.
func holdMade(t *testing.T, deps [][]int) {
	t.Helper()
	hold(t, deps)
	for _, row := range deps {
		if behind := row[len(row):cap(row)]; cap(row) < len(row)+3 || !slices.Equal(behind[:3], []int{0, 1, 2}) {
			t.Fatalf("written behind the end of %v: %v", row, behind)
		}
	}
	more := append(slices.Clone(deps), []int{0}, []int{1})
	holdRows(t, "Waves", deps, graph.Waves(more[:len(deps)]), waved(deps))
	holdRows(t, "Reduce", deps, graph.Reduce(more[:len(deps)]), reduced(deps))
	if more[len(deps)][0] != 0 || more[len(deps)+1][0] != 1 {
		t.Fatalf("written behind the end of %v", deps)
	}
}

func TestMade(t *testing.T) { // P26.1 to P26.6
	chance := rand.New(rand.NewSource(30))
	for range 10000 {
		b := make([]byte, chance.Intn(50))
		few := 1 + chance.Intn(16)
		for i := range b {
			b[i] = byte(chance.Intn(few))
		}
		deps := made(b)
		holdMade(t, deps)
		var there []bool
		for range chance.Intn(len(deps) + 3) {
			there = append(there, chance.Intn(2) == 0)
		}
		holdReady(t, deps, there)
	}
	for range 3000 { // each behind lesser ones, by another numbering: nobody waits for itself
		size := chance.Intn(12)
		as := chance.Perm(size)
		deps := make([][]int, size)
		for i := range deps {
			for range chance.Intn(5) {
				if i > 0 {
					deps[as[i]] = append(deps[as[i]], as[chance.Intn(i)])
				}
			}
		}
		if _, all := graph.Order(deps); !all {
			t.Fatalf("Order(%v): not all", deps)
		}
		hold(t, deps)
	}
}

func TestMany(t *testing.T) { // P1: as many as may be, and more
	began := time.Now()
	const size = 200000
	chain, fan, ring := make([][]int, size), make([][]int, size), make([][]int, size)
	for i := range size {
		chain[i] = []int{i + 1} // the last one is behind what is no place
		ring[i] = []int{(i + 1) % size}
		if i > 0 {
			fan[0] = append(fan[0], i)
		}
	}
	if l, all := graph.Order(chain); !all || l[0] != size-1 || l[size-1] != 0 {
		t.Error("Order of a chain")
	}
	if graph.Longest(chain) != size || len(graph.Waves(chain)) != size || len(graph.Before(chain, 0)) != size-1 {
		t.Error("Longest, Waves or Before of a chain")
	}
	if l := graph.Reduce(chain); !slices.Equal(l[5], []int{6}) || len(l[size-1]) != 0 {
		t.Error("Reduce of a chain")
	}
	if l, all := graph.Order(fan); !all || l[size-1] != 0 || graph.Longest(fan) != 2 || len(graph.Waves(fan)[0]) != size-1 {
		t.Error("Order, Longest or Waves of a fan")
	}
	if l := graph.Reduce(fan); len(l[0]) != size-1 {
		t.Error("Reduce of a fan")
	}
	if l, all := graph.Order(ring); all || len(l) != 0 || len(graph.Round(ring)) != size || len(graph.Before(ring, 7)) != size || len(graph.Waves(ring)) != 0 {
		t.Error("Order, Round, Before or Waves of a ring")
	}
	deep := make([][]int, api.MaxSteps)
	for i := range deep {
		for j := i - 1; j >= 0 && len(deep[i]) < api.MaxList; j-- {
			deep[i] = append(deep[i], j)
		}
	}
	for i, row := range graph.Reduce(deep) {
		if i > 0 && !slices.Equal(row, []int{i - 1}) {
			t.Fatalf("Reduce of as many as may be: %v at %d", row, i)
		}
	}
	if graph.Longest(deep) != api.MaxSteps {
		t.Error("Longest of as many as may be")
	}
	if took := time.Since(began); took > 30*time.Second {
		t.Errorf("took %v", took)
	}
}

func TestOther(t *testing.T) { // P26.4: of many places, held against the chapter's words
	chance := rand.New(rand.NewSource(31))
	for range 30 {
		size := 30 + chance.Intn(30)
		deps := make([][]int, size)
		for i := range deps {
			for range chance.Intn(3) {
				deps[i] = append(deps[i], min(i-1, chance.Intn(size)+i-size/2))
			}
		}
		hold(t, deps)
		deps[chance.Intn(size)] = []int{chance.Intn(size), chance.Intn(size)}
		hold(t, deps)
	}
}

func TestTexts(t *testing.T) { // E1: of a definition, and of what is read of its text, alike is told
	chance := rand.New(rand.NewSource(32))
	for range 500 {
		d := api.Def{Name: "x"}
		for range chance.Intn(8) {
			s := api.Step{Name: string(rune('a' + chance.Intn(6))), Action: "do"}
			for range chance.Intn(4) {
				s.After = append(s.After, string(rune('a'+chance.Intn(7))))
			}
			d.Steps = append(d.Steps, s)
		}
		text, f := canon.Print(d)
		if f.Errno != api.OK {
			t.Fatalf("Print(%v): %v", d, f)
		}
		read, f := parse.Def(text)
		if f.Errno != api.OK {
			t.Fatalf("Def(%q): %v", text, f)
		}
		got, want := names.Refs(read), names.Refs(d)
		order, all := graph.Order(got)
		its, ok := graph.Order(want)
		if all != ok || !slices.Equal(order, its) || !slices.Equal(graph.Round(got), graph.Round(want)) {
			t.Fatalf("Order of %q: %v, not %v", text, order, its)
		}
		hold(t, got)
	}
}

func FuzzOrder(f *testing.F) { // P1
	f.Add([]byte{})
	f.Add([]byte{2, 3, 4, 1, 2, 0, 3, 1, 1, 5})
	f.Fuzz(func(t *testing.T, b []byte) {
		if len(b) > 60 {
			return
		}
		deps := made(b)
		holdMade(t, deps)
		var there []bool
		for _, c := range b {
			there = append(there, c&1 == 1)
		}
		holdReady(t, deps, there)
	})
}
