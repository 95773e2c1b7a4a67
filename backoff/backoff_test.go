package backoff_test

import (
	"math"
	"math/big"
	"math/rand"
	"slices"
	"testing"
	"time"

	"rescript/api"
	"rescript/backoff"
	"rescript/bounds"
	"rescript/canon"
	"rescript/lint"
	"rescript/parse"
)

// counted is a number as it counts: what is meant instead of 0, then 0 instead of what is below 0, then most of what is above.
func counted(n, instead, most int) int {
	switch {
	case n == 0:
		return instead
	case n < 0:
		return 0
	case n > most:
		return most
	}
	return n
}

// most is how many tries there are, by the chapter's words.
func most(r api.Retry) int { return counted(r.Most, 1, 10) }

// limit is how many ticks a try may last, by the chapter's words.
func limit(s api.Step) int { return counted(s.Limit, 100, 10000) }

// waited is what is waited behind a try, by the chapter's words, in numbers of any size.
func waited(r api.Retry, try int) int {
	if try < 1 {
		return 0
	}
	first := big.NewInt(int64(counted(r.First, 0, math.MaxInt)))
	factor := big.NewInt(int64(counted(r.Factor, 1, math.MaxInt)))
	greatest := big.NewInt(1000)
	// What is waited is one of three from the twentieth try on: 0, First, or the greatest.
	for range min(try, 20) - 1 {
		first.Mul(first, factor)
	}
	if first.Cmp(greatest) > 0 {
		return 1000
	}
	return int(first.Int64())
}

// span is how many ticks a step may take, by the chapter's words.
func span(s api.Step) int {
	sum := 0
	for try := 1; try <= most(s.Retry); try++ {
		sum += limit(s)
		if try > 1 {
			sum += waited(s.Retry, try-1)
		}
	}
	return sum
}

// plan is when a step's tries begin and end, by the chapter's words.
func plan(s api.Step, now int64) []backoff.Window {
	const edge = 1 << 40
	switch {
	case now < -edge:
		now = -edge
	case now > edge:
		now = edge
	}
	out := make([]backoff.Window, most(s.Retry))
	for i := range out {
		out[i].Try = i + 1
		out[i].From = now
		if i > 0 {
			out[i].From = out[i-1].To + int64(waited(s.Retry, i))
		}
		out[i].To = out[i].From + int64(limit(s))
	}
	return out
}

// edges is numbers at which something may change.
var edges = []int{
	math.MinInt, math.MinInt + 1, math.MinInt32, -1 << 32, -11, -2, -1, 0, 1, 2, 3, 9, 10, 11, 12, 31, 32, 100, 333, 499, 500, 501,
	999, 1000, 1001, 9999, 10000, 10001, 1 << 31, 1<<32 - 1, 1 << 32, 1<<32 + 1, math.MaxInt/2 + 1, math.MaxInt - 1, math.MaxInt,
}

// holdRetry holds what is waited, and how often, against the chapter's words, and what follows.
func holdRetry(t *testing.T, r api.Retry) {
	t.Helper()
	var want []int
	sum := 0
	for try := 1; try < most(r); try++ {
		want = append(want, waited(r, try))
		sum += waited(r, try)
	}
	for range 2 {
		got := backoff.Waits(r)
		if !slices.Equal(got, want) {
			t.Fatalf("Waits(%v): %v, not %v", r, got, want)
		}
		holdWaits(t, r, got)
		for i := range got { // what is answered may be written to
			got[i] = -7
		}
		_ = append(got, -7)
	}
	if got := backoff.Total(r); got != sum {
		t.Fatalf("Total(%v): %d, not %d", r, got, sum)
	}
	for _, try := range edges {
		holdTry(t, r, try)
	}
	for try := -2; try <= 25; try++ {
		holdTry(t, r, try)
	}
}

// holdTry holds what comes behind one try against the chapter's words.
func holdTry(t *testing.T, r api.Retry, try int) {
	t.Helper()
	if got, want := backoff.Wait(r, try), waited(r, try); got != want {
		t.Fatalf("Wait(%v, %d): %d, not %d", r, try, got, want)
	}
	if got, want := backoff.More(r, try), try >= 1 && try <= most(r)-1; got != want {
		t.Fatalf("More(%v, %d): %t", r, try, got)
	}
}

// holdWaits holds what follows from waits.
func holdWaits(t *testing.T, r api.Retry, got []int) { // P29.3
	t.Helper()
	if most(r) > 0 && len(got) != most(r)-1 || most(r) == 0 && len(got) > 0 {
		t.Fatalf("Waits(%v): %d of them", r, len(got))
	}
	for i, wait := range got {
		if wait < 0 || wait > 1000 {
			t.Fatalf("Waits(%v): %v", r, got)
		}
		if i > 0 && counted(r.Factor, 1, math.MaxInt) >= 1 && wait < got[i-1] {
			t.Fatalf("Waits(%v): %v, less behind a later try", r, got)
		}
	}
}

// holdStep holds how long a step takes, and when its tries are, against the chapter's words, and what follows.
func holdStep(t *testing.T, s api.Step, now int64) {
	t.Helper()
	if got, want := backoff.Span(s), span(s); got != want {
		t.Fatalf("Span(%v): %d, not %d", s, got, want)
	}
	want := plan(s, now)
	for range 2 {
		got := backoff.Plan(s, now)
		if !slices.Equal(got, want) {
			t.Fatalf("Plan(%v, %d): %v, not %v", s, now, got, want)
		}
		if n := len(got); n > 0 && got[n-1].To-got[0].From != int64(backoff.Span(s)) { // P29.3
			t.Fatalf("Plan(%v, %d): %v, and Span %d", s, now, got, backoff.Span(s))
		}
		for i, one := range got { // P29.3, held against the other calls
			if i > 0 && one.From-got[i-1].To != int64(backoff.Wait(s.Retry, i)) {
				t.Fatalf("Plan(%v, %d): %v", s, now, got)
			}
		}
		for i := range got { // what is answered may be written to
			got[i] = backoff.Window{Try: -7}
		}
		_ = append(got, backoff.Window{})
	}
}

func TestWait(t *testing.T) { // P29.1
	for _, c := range []struct {
		r    api.Retry
		want []int // from the first try on
	}{
		{api.Retry{Most: 4, First: 5, Factor: 3}, []int{5, 15, 45, 135, 405, 1000, 1000}}, // the example, and beyond its Most
		{api.Retry{}, []int{0, 0, 0}},
		{api.Retry{First: 7}, []int{7, 7, 7}},
		{api.Retry{First: 7, Factor: 1}, []int{7, 7, 7}},
		{api.Retry{First: 7, Factor: -1}, []int{7, 0, 0, 0}},
		{api.Retry{First: 7, Factor: math.MinInt}, []int{7, 0, 0}},
		{api.Retry{First: -7, Factor: 2}, []int{0, 0, 0}},
		{api.Retry{First: -7, Factor: -2}, []int{0, 0, 0}},
		{api.Retry{First: 0, Factor: 10}, []int{0, 0, 0}},
		{api.Retry{First: 1, Factor: 2}, []int{1, 2, 4, 8, 16, 32, 64, 128, 256, 512, 1000, 1000}},
		{api.Retry{First: 1, Factor: 10}, []int{1, 10, 100, 1000, 1000}},
		{api.Retry{First: 999, Factor: 1}, []int{999, 999}},
		{api.Retry{First: 1000, Factor: 1}, []int{1000, 1000}},
		{api.Retry{First: 1001, Factor: 1}, []int{1000, 1000}},
		{api.Retry{First: 1001, Factor: -1}, []int{1000, 0, 0}},
		{api.Retry{First: math.MaxInt, Factor: math.MaxInt}, []int{1000, 1000}},
		{api.Retry{First: 1, Factor: math.MaxInt}, []int{1, 1000, 1000}},
		{api.Retry{First: 2, Factor: math.MaxInt/2 + 1}, []int{2, 1000, 1000}}, // a number that would go round
		{api.Retry{First: 1, Factor: 999}, []int{1, 999, 1000}},
		{api.Retry{First: 1, Factor: 1000}, []int{1, 1000, 1000}},
		{api.Retry{First: 1, Factor: 1001}, []int{1, 1000, 1000}},
		{api.Retry{First: 500, Factor: 2}, []int{500, 1000, 1000}},
		{api.Retry{First: 333, Factor: 3}, []int{333, 999, 1000}},
	} {
		for i, want := range c.want {
			if got := backoff.Wait(c.r, i+1); got != want {
				t.Errorf("Wait(%v, %d): %d, not %d", c.r, i+1, got, want)
			}
		}
		last := c.want[len(c.want)-1]
		for _, try := range []int{len(c.want) + 1, 1 << 32, math.MaxInt - 1, math.MaxInt} { // it ends, however late the try is
			if got := backoff.Wait(c.r, try); got != last {
				t.Errorf("Wait(%v, %d): %d, not %d", c.r, try, got, last)
			}
		}
		for _, try := range []int{0, -1, -2, math.MinInt} {
			if got := backoff.Wait(c.r, try); got != 0 {
				t.Errorf("Wait(%v, %d): %d", c.r, try, got)
			}
		}
	}
}

func TestWaits(t *testing.T) { // P29.1
	for _, c := range []struct {
		r     api.Retry
		want  []int
		total int
	}{
		{api.Retry{Most: 4, First: 5, Factor: 3}, []int{5, 15, 45}, 65},
		{api.Retry{}, nil, 0},
		{api.Retry{First: 5, Factor: 3}, nil, 0},
		{api.Retry{Most: 1, First: 5, Factor: 3}, nil, 0},
		{api.Retry{Most: 2, First: 5, Factor: 3}, []int{5}, 5},
		{api.Retry{Most: -1, First: 5, Factor: 3}, nil, 0},
		{api.Retry{Most: math.MinInt, First: 5, Factor: 3}, nil, 0},
		{api.Retry{Most: 3, First: 5}, []int{5, 5}, 10},
		{api.Retry{Most: 3, First: 5, Factor: -1}, []int{5, 0}, 5},
		{api.Retry{Most: 3, First: -5, Factor: 2}, []int{0, 0}, 0},
		{api.Retry{Most: 3}, []int{0, 0}, 0},
		{api.Retry{Most: 9, First: 1, Factor: 2}, []int{1, 2, 4, 8, 16, 32, 64, 128}, 255},
		{api.Retry{Most: 10, First: 1, Factor: 2}, []int{1, 2, 4, 8, 16, 32, 64, 128, 256}, 511},
		{api.Retry{Most: 11, First: 1, Factor: 2}, []int{1, 2, 4, 8, 16, 32, 64, 128, 256}, 511},
		{api.Retry{Most: math.MaxInt, First: 1000, Factor: 10}, []int{1000, 1000, 1000, 1000, 1000, 1000, 1000, 1000, 1000}, 9000},
		{api.Retry{Most: 5, First: 100, Factor: 3}, []int{100, 300, 900, 1000}, 2300},
	} {
		if got := backoff.Waits(c.r); !slices.Equal(got, c.want) {
			t.Errorf("Waits(%v): %v, not %v", c.r, got, c.want)
		}
		if got := backoff.Total(c.r); got != c.total {
			t.Errorf("Total(%v): %d, not %d", c.r, got, c.total)
		}
		holdRetry(t, c.r)
	}
}

func TestMore(t *testing.T) { // P29.1
	for _, c := range []struct {
		most, last int // the last try behind which there is another one
	}{
		{math.MinInt, 0}, {-1, 0}, {0, 0}, {1, 0}, {2, 1}, {3, 2}, {9, 8}, {10, 9}, {11, 9}, {12, 9}, {math.MaxInt, 9},
	} {
		r := api.Retry{Most: c.most}
		for try := -5; try <= 20; try++ {
			if got, want := backoff.More(r, try), try >= 1 && try <= c.last; got != want {
				t.Errorf("More(%v, %d): %t", r, try, got)
			}
		}
		for _, try := range []int{math.MinInt, math.MinInt + 1, math.MaxInt - 1, math.MaxInt} {
			if backoff.More(r, try) {
				t.Errorf("More(%v, %d)", r, try)
			}
		}
	}
}

func TestRetries(t *testing.T) { // P29.1, P29.3: all numbers' edges together
	for _, first := range edges {
		for _, factor := range edges {
			for _, most := range []int{math.MinInt, -1, 0, 1, 2, 9, 10, 11, math.MaxInt} {
				holdRetry(t, api.Retry{Most: most, First: first, Factor: factor})
			}
		}
	}
	for first := range 40 {
		for factor := range 13 {
			for most := range 12 {
				holdRetry(t, api.Retry{Most: most, First: first, Factor: factor - 1})
			}
		}
	}
}

func TestSpan(t *testing.T) { // P29.2
	for _, c := range []struct {
		s    api.Step
		want int
	}{
		{api.Step{}, 100},
		{api.Step{Limit: 7}, 7},
		{api.Step{Limit: -1}, 0},
		{api.Step{Limit: math.MinInt}, 0},
		{api.Step{Limit: 10000}, 10000},
		{api.Step{Limit: 10001}, 10000},
		{api.Step{Limit: math.MaxInt}, 10000},
		{api.Step{Limit: 7, Retry: api.Retry{Most: 4, First: 5, Factor: 3}}, 28 + 65},
		{api.Step{Retry: api.Retry{Most: 4, First: 5, Factor: 3}}, 400 + 65},
		{api.Step{Limit: -7, Retry: api.Retry{Most: 4, First: 5, Factor: 3}}, 65},
		{api.Step{Limit: 7, Retry: api.Retry{Most: -1, First: 5, Factor: 3}}, 0},
		{api.Step{Limit: 7, Retry: api.Retry{Most: 1, First: 5, Factor: 3}}, 7},
		{api.Step{Limit: 7, Retry: api.Retry{Most: 3, First: 5}}, 31},
		{api.Step{Limit: 7, Retry: api.Retry{Most: 3, First: 5, Factor: -1}}, 26},
		{api.Step{Limit: 10000, Retry: api.Retry{Most: 10, First: 1000, Factor: 10}}, 109000},
		{api.Step{Limit: math.MaxInt, Retry: api.Retry{Most: math.MaxInt, First: math.MaxInt, Factor: math.MaxInt}}, 109000},
		{api.Step{Name: "a", Action: "do", Undo: "un", After: []string{"b"}, Limit: 1}, 1},
	} {
		if got := backoff.Span(c.s); got != c.want {
			t.Errorf("Span(%v): %d, not %d", c.s, got, c.want)
		}
		holdStep(t, c.s, 0)
	}
}

func TestPlan(t *testing.T) { // P29.4
	const edge = 1 << 40
	four := api.Step{Limit: 10, Retry: api.Retry{Most: 4, First: 5, Factor: 3}}
	for _, c := range []struct {
		s    api.Step
		now  int64
		want []backoff.Window
	}{
		{api.Step{}, 0, []backoff.Window{{1, 0, 100}}},
		{api.Step{Limit: 7}, 3, []backoff.Window{{1, 3, 10}}},
		{api.Step{Limit: -7}, 3, []backoff.Window{{1, 3, 3}}},
		{api.Step{Limit: 10001}, 3, []backoff.Window{{1, 3, 10003}}},
		{four, 0, []backoff.Window{{1, 0, 10}, {2, 15, 25}, {3, 40, 50}, {4, 95, 105}}},
		{four, -20, []backoff.Window{{1, -20, -10}, {2, -5, 5}, {3, 20, 30}, {4, 75, 85}}},
		{api.Step{Limit: 10, Retry: api.Retry{Most: 3}}, 1, []backoff.Window{{1, 1, 11}, {2, 11, 21}, {3, 21, 31}}},
		{api.Step{Limit: 10, Retry: api.Retry{Most: 3, First: 2, Factor: -1}}, 1, []backoff.Window{{1, 1, 11}, {2, 13, 23}, {3, 23, 33}}},
		{api.Step{Limit: -1, Retry: api.Retry{Most: 3, First: 2}}, 1, []backoff.Window{{1, 1, 1}, {2, 3, 3}, {3, 5, 5}}},
		{api.Step{Limit: 10, Retry: api.Retry{Most: -1, First: 2}}, 1, nil},
		{api.Step{Limit: 1, Retry: api.Retry{Most: 11}}, 0, []backoff.Window{{1, 0, 1}, {2, 1, 2}, {3, 2, 3}, {4, 3, 4}, {5, 4, 5}, {6, 5, 6}, {7, 6, 7}, {8, 7, 8}, {9, 8, 9}, {10, 9, 10}}},
		{api.Step{Limit: 1}, edge - 1, []backoff.Window{{1, edge - 1, edge}}},
		{api.Step{Limit: 1}, edge, []backoff.Window{{1, edge, edge + 1}}},
		{api.Step{Limit: 1}, edge + 1, []backoff.Window{{1, edge, edge + 1}}},
		{api.Step{Limit: 1}, math.MaxInt64, []backoff.Window{{1, edge, edge + 1}}},
		{api.Step{Limit: 1}, -edge + 1, []backoff.Window{{1, -edge + 1, -edge + 2}}},
		{api.Step{Limit: 1}, -edge, []backoff.Window{{1, -edge, -edge + 1}}},
		{api.Step{Limit: 1}, -edge - 1, []backoff.Window{{1, -edge, -edge + 1}}},
		{api.Step{Limit: 1}, math.MinInt64, []backoff.Window{{1, -edge, -edge + 1}}},
	} {
		if got := backoff.Plan(c.s, c.now); !slices.Equal(got, c.want) {
			t.Errorf("Plan(%v, %d): %v, not %v", c.s, c.now, got, c.want)
		}
		holdStep(t, c.s, c.now)
	}
}

// nows is ticks at which something may change.
var nows = []int64{
	math.MinInt64, math.MinInt64 + 1, -1<<40 - 1, -1 << 40, -1<<40 + 1, -1, 0, 1, 1<<40 - 10001, 1<<40 - 1, 1 << 40, 1<<40 + 1, math.MaxInt64 - 1, math.MaxInt64,
}

func TestSteps(t *testing.T) { // P29.2 to P29.4: all numbers' edges together
	for _, first := range []int{math.MinInt, -1, 0, 1, 5, 999, 1000, 1001, math.MaxInt} {
		for _, factor := range []int{math.MinInt, -1, 0, 1, 2, 3, 10, 11, math.MaxInt} {
			for _, most := range []int{math.MinInt, -1, 0, 1, 2, 9, 10, 11, math.MaxInt} {
				for _, limit := range []int{math.MinInt, -1, 0, 1, 100, 9999, 10000, 10001, math.MaxInt} {
					s := api.Step{Retry: api.Retry{Most: most, First: first, Factor: factor}, Limit: limit}
					holdStep(t, s, nows[(first^factor^most^limit)&0xFFFF%len(nows)])
				}
			}
		}
	}
	for _, now := range nows {
		for _, limit := range edges {
			holdStep(t, api.Step{Retry: api.Retry{Most: 3, First: 2, Factor: 2}, Limit: limit}, now)
		}
	}
}

func TestMeant(t *testing.T) { // P29.1, P29.2, P29.4: what is meant may be told, too: the same comes of it
	for _, most := range []int{-1, 0, 1, 3, 11} {
		for _, factor := range []int{-1, 0, 1, 2} {
			for _, limit := range []int{-1, 0, 1, 100} {
				s := api.Step{Name: "a", Retry: api.Retry{Most: most, First: 3, Factor: factor}, Limit: limit}
				told := bounds.Real(s)
				if backoff.Span(s) != backoff.Span(told) || !slices.Equal(backoff.Plan(s, 5), backoff.Plan(told, 5)) {
					t.Errorf("%v, and %v", s, told)
				}
				if !slices.Equal(backoff.Waits(s.Retry), backoff.Waits(told.Retry)) {
					t.Errorf("%v, and %v", s.Retry, told.Retry)
				}
			}
		}
	}
}

func TestHandedIn(t *testing.T) { // P3, P1: a step stays as it is, whatever else it has
	after := []string{"b", "c", "d"}
	kids := []api.Node{{Kind: 2}, {Kind: 1, Text: "x"}}
	kids[0].Kids = kids // within itself
	s := api.Step{Name: "a", Action: "do", Undo: "un", After: after[:1], Limit: 4, Retry: api.Retry{Most: 2, First: 3}, Note: kids[0]}
	for range 2 {
		if got := backoff.Span(s); got != 11 {
			t.Errorf("Span: %d", got)
		}
		if got := backoff.Plan(s, 1); !slices.Equal(got, []backoff.Window{{1, 1, 5}, {2, 8, 12}}) {
			t.Errorf("Plan: %v", got)
		}
	}
	if !slices.Equal(after, []string{"b", "c", "d"}) || kids[1].Text != "x" || len(s.After) != 1 || s.Limit != 4 || s.Retry != (api.Retry{Most: 2, First: 3}) {
		t.Errorf("written to: %v", after)
	}
}

func TestClean(t *testing.T) { // E5: a step of a clean definition takes some time, but not for ever, and its text tells the same
	chance := rand.New(rand.NewSource(29))
	clean := 0
	for range 3000 {
		s := api.Step{Name: "a", Action: "do", Retry: api.Retry{Most: chance.Intn(13) - 1, First: chance.Intn(1003) - 1, Factor: chance.Intn(13) - 1}, Limit: chance.Intn(10003) - 1}
		d := api.Def{Name: "x", Steps: []api.Step{s}}
		holdRetry(t, s.Retry)
		holdStep(t, s, chance.Int63()-1<<62)
		if !lint.Clean(d) {
			continue
		}
		clean++
		n := backoff.Span(s)
		if n < 1 || n > 109000 || len(backoff.Plan(s, 0)) < 1 {
			t.Fatalf("Span(%v): %d", s, n)
		}
		text, f := canon.Print(d)
		read, g := parse.Def(text)
		if f.Errno != api.OK || g.Errno != api.OK || !slices.Equal(backoff.Plan(read.Steps[0], 9), backoff.Plan(s, 9)) {
			t.Fatalf("Plan of %q: %v, %v", text, f, g)
		}
	}
	if clean < 1000 {
		t.Errorf("%d that are clean", clean)
	}
}

func TestSoon(t *testing.T) { // P1: each call ends soon, whatever the numbers are
	began := time.Now()
	for i := range 20000 {
		n := math.MaxInt - i
		for _, r := range []api.Retry{{Most: n, First: n, Factor: n}, {Most: n, First: 1, Factor: 1}, {Most: n, First: 1, Factor: 2}, {Most: n, First: 7, Factor: -n}, {Most: n, Factor: n}} {
			if got := backoff.Wait(r, n); got != waited(r, n) {
				t.Fatalf("Wait(%v, %d): %d", r, n, got)
			}
			if got := len(backoff.Waits(r)); got != 9 {
				t.Fatalf("Waits(%v): %d of them", r, got)
			}
		}
	}
	if took := time.Since(began); took > 20*time.Second {
		t.Errorf("took %v", took)
	}
}

func TestTries(t *testing.T) { // P29.4: each try of a plan, and no other one, by its number
	all := []int{1, 2, 3, 4, 5, 6, 7, 8, 9, 10}
	for most, want := range map[int]int{math.MinInt: 0, -1: 0, 0: 1, 1: 1, 2: 2, 9: 9, 10: 10, 11: 10, math.MaxInt: 10} {
		var got []int
		for _, one := range backoff.Plan(api.Step{Retry: api.Retry{Most: most}}, 0) {
			got = append(got, one.Try)
		}
		if !slices.Equal(got, all[:want]) {
			t.Errorf("Plan of Most %d: %v", most, got)
		}
	}
}

func FuzzPlan(f *testing.F) { // P1
	f.Add(4, 5, 3, 10, 2, int64(0))
	f.Add(-1, -1, -1, -1, -1, int64(math.MinInt64))
	f.Add(math.MaxInt, math.MaxInt, math.MaxInt, math.MaxInt, math.MaxInt, int64(math.MaxInt64))
	f.Fuzz(func(t *testing.T, most, first, factor, limit, try int, now int64) {
		r := api.Retry{Most: most, First: first, Factor: factor}
		holdRetry(t, r)
		holdTry(t, r, try)
		holdStep(t, api.Step{Retry: r, Limit: limit}, now)
	})
}
