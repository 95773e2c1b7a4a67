package ticks_test

import (
	"math"
	"math/rand"
	"slices"
	"testing"
	"time"

	"rescript/api"
	"rescript/backoff"
	"rescript/lint"
	"rescript/ticks"
)

// one is somebody, and for which tick it waits.
type one struct {
	who int
	at  int64
}

// list is who waits, by the chapter's words: a row of whom nobody stands twice, gone through from the left.
type list []one

// place is where somebody stands; -1: nowhere.
func (l list) place(who int) int {
	for i, o := range l {
		if o.who == who {
			return i
		}
	}
	return -1
}

// set is the row behind a Set, and what that answers.
func (l list) set(who int, at int64) (list, bool) {
	if i := l.place(who); i >= 0 {
		l[i].at = at
		return l, true
	}
	if len(l) >= 4096 {
		return l, false
	}
	return append(l, one{who, at}), true
}

// unset is the row behind an Unset, and what that answers.
func (l list) unset(who int) (list, bool) {
	i := l.place(who)
	if i < 0 {
		return l, false
	}
	return slices.Delete(l, i, i+1), true
}

// first is where the one stands who is told first; -1: nobody waits.
func (l list) first() int {
	out := -1
	for i, o := range l {
		if out < 0 || o.at < l[out].at || o.at == l[out].at && o.who < l[out].who {
			out = i
		}
	}
	return out
}

// due is the row behind a Due, and what that answers: again and again the first one, while its tick has come.
func (l list) due(now int64) (list, []int) {
	var out []int
	for {
		i := l.first()
		if i < 0 || l[i].at > now {
			return l, out
		}
		out = append(out, l[i].who)
		l = slices.Delete(l, i, i+1)
	}
}

// holdAt holds for which tick somebody waits against the row.
func holdAt(t *testing.T, c *ticks.Clock, l list, who int) {
	t.Helper()
	var want int64
	i := l.place(who)
	if i >= 0 {
		want = l[i].at
	}
	if got, ok := c.At(who); got != want || ok != (i >= 0) {
		t.Fatalf("At(%d): %d, %t, not %d", who, got, ok, want)
	}
}

// hold holds who waits against the row.
func hold(t *testing.T, c *ticks.Clock, l list) {
	t.Helper()
	if got := c.Len(); got != len(l) {
		t.Fatalf("Len: %d, not %d", got, len(l))
	}
	var want int64
	i := l.first()
	if i >= 0 {
		want = l[i].at
	}
	if got, ok := c.Next(); got != want || ok != (i >= 0) {
		t.Fatalf("Next: %d, %t, not %d", got, ok, want)
	}
	for _, o := range l {
		holdAt(t, c, l, o.who)
	}
}

// holdSet holds a Set against the row.
func holdSet(t *testing.T, c *ticks.Clock, l list, who int, at int64) list {
	t.Helper()
	l, want := l.set(who, at)
	if got := c.Set(who, at); got != want {
		t.Fatalf("Set(%d, %d): %t", who, at, got)
	}
	holdAt(t, c, l, who)
	return l
}

// holdUnset holds an Unset against the row.
func holdUnset(t *testing.T, c *ticks.Clock, l list, who int) list {
	t.Helper()
	l, want := l.unset(who)
	if got := c.Unset(who); got != want {
		t.Fatalf("Unset(%d): %t", who, got)
	}
	holdAt(t, c, l, who)
	return l
}

// holdDue holds a Due against the row, and what follows; what is answered is written to.
func holdDue(t *testing.T, c *ticks.Clock, l list, now int64) list {
	t.Helper()
	l, want := l.due(now)
	got := c.Due(now)
	if !slices.Equal(got, want) {
		t.Fatalf("Due(%d): %v, not %v", now, got, want)
	}
	for i := range got {
		holdAt(t, c, l, got[i])
		got[i] = -7
	}
	_ = append(got, -7)
	if again := c.Due(now); len(again) != 0 { // P30.3
		t.Fatalf("Due(%d): %v again", now, again)
	}
	if next, ok := c.Next(); ok && next <= now {
		t.Fatalf("Next behind Due(%d): %d", now, next)
	}
	return l
}

// whos is numbers of those who wait; ats is ticks, with their edges.
var (
	whos = []int{0, 1, 2, 3, -1, -2, math.MinInt, math.MaxInt, 4096, 1 << 32, -1 << 32, math.MinInt + 1, math.MaxInt - 1}
	ats  = []int64{0, 1, 2, 3, -1, -2, math.MinInt64, math.MaxInt64, math.MinInt64 + 1, math.MaxInt64 - 1, 1 << 40, -1 << 40, 1 << 32, 5}
)

func TestClock(t *testing.T) { // P30.1, P30.2, the example
	c := ticks.New()
	var l list
	hold(t, c, l)
	l = holdSet(t, c, l, 2, 5)
	l = holdSet(t, c, l, 1, 5)
	l = holdSet(t, c, l, 3, 4)
	hold(t, c, l)
	l = holdDue(t, c, l, 3)
	hold(t, c, l)
	if got := c.Due(5); !slices.Equal(got, []int{3, 1, 2}) {
		t.Fatalf("Due(5): %v", got)
	}
	hold(t, c, nil)
	if next, ok := c.Next(); next != 0 || ok {
		t.Errorf("Next of nobody: %d, %t", next, ok)
	}
}

func TestSet(t *testing.T) { // P30.1: for one tick at most, the one that was set last
	c := ticks.New()
	if !c.Set(7, 10) || !c.Set(7, 20) || c.Len() != 1 {
		t.Fatalf("Set: %d wait", c.Len())
	}
	if at, ok := c.At(7); at != 20 || !ok {
		t.Errorf("At: %d, %t", at, ok)
	}
	if got := c.Due(19); len(got) != 0 {
		t.Errorf("Due(19): %v", got)
	}
	if !c.Set(7, 5) {
		t.Error("Set to an earlier tick")
	}
	if next, ok := c.Next(); next != 5 || !ok {
		t.Errorf("Next: %d, %t", next, ok)
	}
	if got := c.Due(5); !slices.Equal(got, []int{7}) {
		t.Errorf("Due(5): %v", got)
	}
	if got := c.Due(math.MaxInt64); len(got) != 0 { // for no other tick any more
		t.Errorf("Due later: %v", got)
	}
	if !c.Set(7, 5) { // set anew behind its being told
		t.Error("Set anew")
	}
	if got := c.Due(6); !slices.Equal(got, []int{7}) {
		t.Errorf("Due(6): %v", got)
	}
}

func TestUnset(t *testing.T) { // P30.1, P30.3
	c := ticks.New()
	if c.Unset(1) {
		t.Error("Unset of one that doesn't wait")
	}
	c.Set(1, 5)
	c.Set(2, 5)
	if !c.Unset(1) || c.Unset(1) {
		t.Error("Unset")
	}
	if at, ok := c.At(1); at != 0 || ok {
		t.Errorf("At: %d, %t", at, ok)
	}
	if at, ok := c.At(2); at != 5 || !ok {
		t.Errorf("At: %d, %t", at, ok)
	}
	if got := c.Due(5); !slices.Equal(got, []int{2}) || c.Len() != 0 {
		t.Errorf("Due(5): %v", got)
	}
	if c.Unset(2) {
		t.Error("Unset of one that was told")
	}
	c.Set(3, 0) // a tick of 0 is one, too
	if at, ok := c.At(3); at != 0 || !ok {
		t.Errorf("At: %d, %t", at, ok)
	}
	if next, ok := c.Next(); next != 0 || !ok || !c.Unset(3) {
		t.Errorf("Next: %d, %t", next, ok)
	}
}

func TestEdges(t *testing.T) { // P30.1, P30.2: who waits and ticks at their edges, set in either order
	for turned := range 2 {
		c := ticks.New()
		var l list
		for i := range ats {
			if turned == 1 {
				i = len(ats) - 1 - i
			}
			for j, who := range whos {
				l = holdSet(t, c, l, who, ats[(i+j)%len(ats)])
			}
			hold(t, c, l)
		}
		for _, now := range slices.Sorted(slices.Values(ats)) {
			l = holdDue(t, c, l, now)
			hold(t, c, l)
		}
		if len(l) != 0 || c.Len() != 0 {
			t.Errorf("%v wait still", l)
		}
	}
}

func TestDue(t *testing.T) { // P30.2: lesser ticks ahead, of the same tick the lesser numbers, in whatever order they were set
	all := []one{{5, 1}, {-3, 1}, {4, 1}, {math.MaxInt, 0}, {math.MinInt, 2}, {0, 2}, {7, -1}}
	want := []int{7, math.MaxInt, -3, 4, 5, math.MinInt, 0}
	chance := rand.New(rand.NewSource(30))
	for range 500 {
		chance.Shuffle(len(all), func(i, j int) { all[i], all[j] = all[j], all[i] })
		c := ticks.New()
		for _, o := range all {
			c.Set(o.who, o.at)
		}
		if got := c.Due(-2); len(got) != 0 {
			t.Fatalf("Due(-2): %v", got)
		}
		if got := c.Due(2); !slices.Equal(got, want) {
			t.Fatalf("Due(2): %v, not %v", got, want)
		}
	}
}

func TestFull(t *testing.T) { // P30.1: as many as may wait, and one more
	if ticks.Most != 4096 {
		t.Fatalf("Most: %d", ticks.Most)
	}
	c := ticks.New()
	for who := range 4096 {
		if !c.Set(-who, int64(who%10)) {
			t.Fatalf("Set(%d) of %d", -who, c.Len())
		}
	}
	for _, who := range []int{1, math.MaxInt, -4096} { // nobody else
		if c.Set(who, -100) || c.Len() != 4096 {
			t.Fatalf("Set(%d) of %d", who, c.Len())
		}
		if at, ok := c.At(who); at != 0 || ok {
			t.Errorf("At(%d): %d, %t", who, at, ok)
		}
	}
	if next, ok := c.Next(); next != 0 || !ok {
		t.Errorf("Next: %d, %t", next, ok)
	}
	if !c.Set(-4095, 9) || !c.Set(0, 3) || c.Len() != 4096 { // those who wait may be set anew
		t.Errorf("Set anew: %d wait", c.Len())
	}
	if !c.Unset(-7) || !c.Set(1, 50) || c.Set(-7, 50) {
		t.Error("Set behind Unset")
	}
	told := 0
	for now := range int64(10) {
		got := c.Due(now)
		if !slices.IsSorted(got) {
			t.Fatalf("Due(%d): %v", now, got)
		}
		told += len(got)
	}
	if told != 4095 || c.Len() != 1 || !c.Set(-7, 50) {
		t.Errorf("%d told, %d wait", told, c.Len())
	}
	if got := c.Due(50); !slices.Equal(got, []int{-7, 1}) {
		t.Errorf("Due(50): %v", got)
	}
}

func TestNil(t *testing.T) { // P30.2, P1
	var none *ticks.Clock
	for _, c := range []*ticks.Clock{none, none} {
		if c.Set(1, 5) || c.Unset(1) || c.Len() != 0 || len(c.Due(math.MaxInt64)) != 0 {
			t.Error("somebody waits for nil")
		}
		if at, ok := c.At(1); at != 0 || ok {
			t.Errorf("At: %d, %t", at, ok)
		}
		if next, ok := c.Next(); next != 0 || ok {
			t.Errorf("Next: %d, %t", next, ok)
		}
	}
	var made ticks.Clock // not by New: nothing else is promised but that calls end, and none panics
	for range 2 {
		made.Set(1, 5)
		made.Due(4)
		made.Unset(1)
		made.At(1)
		made.Next()
		made.Len()
	}
}

func TestApart(t *testing.T) { // P5: nothing is kept but in the clock itself
	a, b := ticks.New(), ticks.New()
	a.Set(1, 5)
	if b.Len() != 0 || b.Unset(1) || len(b.Due(9)) != 0 || a.Len() != 1 {
		t.Error("two clocks share who waits")
	}
	b.Set(1, 6)
	if at, _ := a.At(1); at != 5 {
		t.Errorf("At: %d", at)
	}
}

func TestKept(t *testing.T) { // P3: what was answered isn't written to later
	c := ticks.New()
	for who := range 5 {
		c.Set(who, 1)
	}
	first := c.Due(1)
	for who := range 5 {
		c.Set(who+10, 1)
	}
	second := c.Due(1)
	c.Set(77, 0)
	c.Due(1)
	if !slices.Equal(first, []int{0, 1, 2, 3, 4}) || !slices.Equal(second, []int{10, 11, 12, 13, 14}) {
		t.Errorf("%v, %v", first, second)
	}
}

// play is calls that bytes tell, each held against the row.
func play(t *testing.T, b []byte) int {
	t.Helper()
	c := ticks.New()
	var l list
	told := 0
	for ; len(b) >= 3; b = b[3:] {
		who, at := whos[int(b[1])%len(whos)], ats[int(b[2])%len(ats)]
		switch b[0] % 8 {
		case 0, 1, 2, 3:
			l = holdSet(t, c, l, who, at)
		case 4:
			l = holdUnset(t, c, l, who)
		case 5:
			before := len(l)
			l = holdDue(t, c, l, at)
			told += before - len(l)
		case 6:
			holdAt(t, c, l, who)
		}
		hold(t, c, l)
	}
	return told
}

func TestCalls(t *testing.T) { // P30.1 to P30.3
	chance := rand.New(rand.NewSource(31))
	told := 0
	for range 10000 {
		b := make([]byte, chance.Intn(120))
		chance.Read(b)
		told += play(t, b)
	}
	if told < 10000 {
		t.Errorf("%d told", told)
	}
}

func TestOnce(t *testing.T) { // P30.3: who was set is told once, at the first Due of its tick or a greater one
	chance := rand.New(rand.NewSource(32))
	for range 300 {
		c := ticks.New()
		waits := map[int]int64{}
		for range 200 {
			who, at := chance.Intn(50), int64(chance.Intn(40))
			switch chance.Intn(5) {
			case 0:
				c.Unset(who)
				delete(waits, who)
			default:
				c.Set(who, at)
				waits[who] = at
			}
		}
		last := int64(-1)
		for now := int64(0); now < 45; now += int64(1 + chance.Intn(6)) {
			for _, who := range c.Due(now) {
				at, ok := waits[who]
				if !ok || at <= last || at > now {
					t.Fatalf("Due(%d), behind %d: %d, of %d", now, last, who, at)
				}
				delete(waits, who)
			}
			last = now
		}
		for who, at := range waits {
			if at <= last {
				t.Fatalf("%d wasn't told, of %d, up to %d", who, at, last)
			}
		}
		if c.Len() != len(waits) {
			t.Fatalf("%d wait, not %d", c.Len(), len(waits))
		}
	}
}

func TestMany(t *testing.T) { // P30.2: as many as may wait, at many ticks
	began := time.Now()
	c := ticks.New()
	for who := range ticks.Most {
		c.Set(who, int64(who/4))
	}
	for now := range int64(ticks.Most / 4) {
		first := int(now) * 4
		if next, ok := c.Next(); next != now || !ok {
			t.Fatalf("Next: %d, not %d", next, now)
		}
		if got := c.Due(now); !slices.Equal(got, []int{first, first + 1, first + 2, first + 3}) {
			t.Fatalf("Due(%d): %v", now, got)
		}
	}
	if took := time.Since(began); took > 20*time.Second {
		t.Errorf("took %v", took)
	}
}

// waiter is a step on its way, by its plan: its windows that aren't over yet.
type waiter []backoff.Window

// drive has all steps of a definition begin at a tick, one behind the other, and nobody answer: it tells at which tick the last one's
// last try ends, and how many tries there were.
func drive(t *testing.T, d api.Def, now int64) (int64, int) {
	t.Helper()
	c := ticks.New()
	tries := 0
	for who, s := range d.Steps {
		plan := waiter(backoff.Plan(s, now))
		begins := true
		c.Set(who, now)
		for len(plan) > 0 {
			next, ok := c.Next()
			if !ok || len(c.Due(next-1)) != 0 || !slices.Equal(c.Due(next), []int{who}) {
				t.Fatalf("step %d: %d, %t", who, next, ok)
			}
			now = next
			switch {
			case begins:
				tries++
				c.Set(who, plan[0].To)
			case len(plan) > 1:
				plan = plan[1:]
				c.Set(who, plan[0].From)
			default:
				plan = nil
			}
			begins = !begins
		}
		if c.Len() != 0 {
			t.Fatalf("step %d waits still", who)
		}
	}
	return now, tries
}

func TestDrive(t *testing.T) { // E5: steps of a clean definition that nobody answers are over Span ticks behind their beginning
	chance := rand.New(rand.NewSource(33))
	clean := 0
	for range 2000 {
		d := api.Def{Name: "x"}
		sum, most := int64(0), 0
		for i := range 1 + chance.Intn(4) {
			s := api.Step{Name: string(rune('a' + i)), Action: "do", Retry: api.Retry{Most: chance.Intn(11), First: chance.Intn(20), Factor: chance.Intn(5)}, Limit: chance.Intn(30)}
			d.Steps = append(d.Steps, s)
			sum += int64(backoff.Span(s))
			most += len(backoff.Waits(s.Retry)) + 1
		}
		if !lint.Clean(d) {
			continue
		}
		clean++
		begins := chance.Int63n(1 << 30)
		if end, tries := drive(t, d, begins); end != begins+sum || tries != most {
			t.Fatalf("%v: %d tries, up to %d ticks behind the beginning, not %d", d, tries, end-begins, sum)
		}
	}
	if clean < 1000 {
		t.Errorf("%d that are clean", clean)
	}
}

func FuzzSet(f *testing.F) { // P1
	f.Add([]byte{}, 0, int64(0))
	f.Add([]byte("who waits for which tick, and is told once"), -1, int64(math.MaxInt64))
	f.Fuzz(func(t *testing.T, b []byte, who int, at int64) {
		if len(b) > 3000 {
			return
		}
		play(t, b)
		c := ticks.New()
		l := holdSet(t, c, nil, who, at)
		l = holdSet(t, c, l, who+1, at)
		l = holdSet(t, c, l, who^1, at+1)
		l = holdDue(t, c, l, at-1)
		l = holdDue(t, c, l, at)
		l = holdUnset(t, c, l, who)
		hold(t, c, l)
	})
}
