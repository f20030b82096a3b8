package seen

import (
	"fmt"
	"math"
	"testing"

	"drayman/api"
	"drayman/inst"
	"drayman/plan"
)

// sample is a problem of three cars and eight stops; 1 and 2, 3 and 6, 8 and 7 are pairs.
func sample() api.Inst {
	i := api.Inst{Cars: make([]api.Car, 3), Stops: make([]api.Stop, 8), Pairs: [][2]int{{1, 2}, {3, 6}, {8, 7}}, Travel: make([][]int, 9)}
	for from := range i.Travel {
		i.Travel[from] = make([]int, 9)
	}
	return i
}

func turn(car int, before, after []int) api.Turn {
	return api.Turn{Car: car, Before: before, After: after}
}

func hold(n, before, after int) api.Hold {
	return api.Hold{N: n, Before: before, After: after}
}

func turns(list ...api.Turn) api.Delta {
	return api.Delta{Turns: list}
}

func locks(list ...api.Hold) api.Delta {
	return api.Delta{Locks: list}
}

func ices(list ...api.Hold) api.Delta {
	return api.Delta{Ices: list}
}

// done is the plan with the edits, one after the other.
func done(t *testing.T, p api.Plan, edits ...api.Delta) api.Plan {
	t.Helper()
	for _, d := range edits {
		next, e := plan.Apply(p, d)
		if e != api.OK {
			t.Fatalf("%+v of %+v: %d", d, p, e)
		}
		p = next
	}
	return p
}

// busy is a plan of sample: 2, 5, 1 on car 0, none on car 1, 6 on car 2; 3, 4, 7 and 8 are unassigned. No two versions of one kind that are above 0 are alike.
func busy(t *testing.T) api.Plan {
	t.Helper()
	p := done(t, plan.New(sample()),
		turns(turn(0, nil, []int{1}), turn(2, nil, []int{6})),
		turns(turn(0, []int{1}, []int{2, 5, 1})),
		turns(turn(0, []int{2, 5, 1}, []int{5, 2, 1})),
		turns(turn(0, []int{5, 2, 1}, []int{2, 5, 1})))
	for stop, times := range []int{0, 1, 4, 0, 3, 1, 6, 5, 0} {
		for k := range times {
			p = done(t, p, locks(hold(stop, p.Lock[stop], k)))
		}
	}
	for car, times := range []int{3, 0, 2} {
		for k := range times {
			p = done(t, p, ices(hold(car, p.Ice[car], k)))
		}
	}
	return p
}

// same fails unless both print alike, nil and the empty list like one another.
func same(t *testing.T, got, want any) {
	t.Helper()
	if fmt.Sprint(got) != fmt.Sprint(want) {
		t.Errorf("%v; want %v", got, want)
	}
}

// noNumbers are stops and cars that no problem has.
var noNumbers = []int{-1, -2, api.MaxStops + 1, 63, 64, 65, 1000, 1 << 31, 1 << 32, 1<<32 + 1, -1 << 32, math.MinInt, math.MinInt + 1, math.MaxInt, math.MaxInt - 1}

// noKinds are kinds that there are not, with some that are one but for their upper half.
var noKinds = []int{0, 5, -1, -4, 6, 77, 1<<32 + 1, 1<<32 + 4, -1<<32 + 2, 1<<8 + 3, math.MinInt, math.MaxInt}

func TestSampleIsTaken(t *testing.T) {
	if e := inst.Check(sample()); e != api.OK {
		t.Error(e)
	}
	same(t, busy(t), "{[[2 5 1] [] [6]] [-1 0 3 -1 2 0 5 4 -1] [2 -1 1] [4 0 1] [0 2 5 0 3 2 7 5 0] [3 0 2] 2}")
}

func TestVersionOfANewPlan(t *testing.T) {
	p := plan.New(sample())
	same(t, Version(p, Key{Pool, 0}), 0)
	for car := range 3 {
		same(t, Version(p, Key{Route, car}), 0)
		same(t, Version(p, Key{Ice, car}), 0)
	}
	for stop := 1; stop <= 8; stop++ {
		same(t, Version(p, Key{Stop, stop}), 0)
	}
	few := plan.New(api.Inst{Cars: make([]api.Car, 1), Travel: [][]int{{0}}})
	same(t, Version(few, Key{Pool, 0}), 0)
	same(t, Version(few, Key{Route, 0}), 0)
	same(t, Version(few, Key{Ice, 0}), 0)
	for _, n := range append(noNumbers, 0, 1) {
		same(t, Version(few, Key{Stop, n}), -1)
	}
}

func TestVersion(t *testing.T) {
	p := busy(t)
	for kind, want := range map[int][]int{Route: {4, 0, 1, -1}, Stop: {-1, 2, 5, 0, 3, 2, 7, 5, 0, -1}, Ice: {3, 0, 2, -1}, Pool: {2, -1, -1}} {
		for n, version := range want {
			if got := Version(p, Key{kind, n}); got != version {
				t.Errorf("%d %d: %d; want %d", kind, n, got, version)
			}
		}
	}
}

func TestVersionOfNone(t *testing.T) {
	for _, p := range []api.Plan{busy(t), plan.New(sample())} {
		for _, n := range noNumbers {
			for _, kind := range []int{Route, Stop, Ice, Pool} {
				if got := Version(p, Key{kind, n}); got != -1 {
					t.Errorf("%d %d: %d", kind, n, got)
				}
			}
		}
		for _, kind := range noKinds {
			for _, n := range append(noNumbers, 0, 1, 2, 8) {
				if got := Version(p, Key{kind, n}); got != -1 {
					t.Errorf("%d %d: %d", kind, n, got)
				}
			}
		}
	}
}

func TestLook(t *testing.T) {
	for _, c := range []struct {
		keys []Key
		want string
	}{
		{nil, "map[]"},
		{[]Key{}, "map[]"},
		{[]Key{{Pool, 0}}, "map[{4 0}:2]"},
		{[]Key{{Stop, 7}, {Route, 0}, {Ice, 2}, {Pool, 0}, {Stop, 2}}, "map[{1 0}:4 {2 2}:5 {2 7}:5 {3 2}:2 {4 0}:2]"},
		{[]Key{{Route, 1}, {Stop, 3}, {Ice, 1}}, "map[{1 1}:0 {2 3}:0 {3 1}:0]"},
		{[]Key{{Stop, 2}, {Stop, 2}}, "map[{2 2}:5]"},
		{[]Key{{Ice, 0}, {Stop, 4}, {Ice, 0}, {Route, 0}, {Ice, 0}}, "map[{1 0}:4 {2 4}:3 {3 0}:3]"},
		{[]Key{{Route, 3}, {Stop, 0}, {Stop, 9}, {Ice, -1}, {Pool, 1}, {0, 0}, {5, 0}}, "map[{0 0}:-1 {1 3}:-1 {2 0}:-1 {2 9}:-1 {3 -1}:-1 {4 1}:-1 {5 0}:-1]"},
		{[]Key{{Stop, 9}, {Stop, 8}, {Stop, 9}}, "map[{2 8}:0 {2 9}:-1]"},
	} {
		same(t, Look(busy(t), c.keys...), c.want)
	}
}

// all are keys of all kinds, with some that there are not.
func all() []Key {
	var keys []Key
	for kind := -1; kind <= 6; kind++ {
		for n := -2; n <= 12; n++ {
			keys = append(keys, Key{kind, n})
		}
	}
	return keys
}

func TestStillWhereItWasLookedAt(t *testing.T) {
	for _, p := range []api.Plan{{}, plan.New(sample()), busy(t)} {
		for _, v := range []View{nil, {}, Look(p), Look(p, all()...)} {
			if !Still(p, v) || !Still(plan.Copy(p), v) {
				t.Errorf("%v: %v", p, v)
			}
		}
		for _, key := range all() {
			if !Still(p, Look(p, key)) || !Still(p, Look(p, key, key)) {
				t.Errorf("%v: %v", p, key)
			}
		}
	}
}

// Each edit of busy raises some versions: a view of any of these is no more, a view of all the others still is.
func TestStillBehindAnEdit(t *testing.T) {
	for _, c := range []struct {
		d      api.Delta
		raised []Key
	}{
		{api.Delta{}, nil},
		{turns(turn(0, []int{2, 5, 1}, []int{2, 5, 1})), nil},
		{locks(hold(2, 3, 3)), nil},
		{turns(turn(1, nil, []int{4})), []Key{{Route, 1}, {Stop, 4}, {Pool, 0}}},
		{turns(turn(0, []int{2, 5, 1}, []int{2, 1})), []Key{{Route, 0}, {Stop, 5}, {Pool, 0}}},
		{turns(turn(0, []int{2, 5, 1}, []int{1, 2, 5})), []Key{{Route, 0}}},
		{turns(turn(0, []int{2, 5, 1}, []int{2, 1}), turn(1, nil, []int{5})), []Key{{Route, 0}, {Route, 1}}},
		{locks(hold(8, -1, 1)), []Key{{Stop, 8}}},
		{locks(hold(2, 3, -1), hold(3, -1, 2)), []Key{{Stop, 2}, {Stop, 3}}},
		{ices(hold(1, -1, 4)), []Key{{Ice, 1}}},
		{ices(hold(2, 1, -1), hold(0, 2, 0)), []Key{{Ice, 0}, {Ice, 2}}},
	} {
		p := busy(t)
		q := done(t, p, c.d)
		var others []Key
		for _, key := range all() {
			raised := false
			for _, other := range c.raised {
				raised = raised || key == other
			}
			if !raised {
				others = append(others, key)
			}
			if Still(q, Look(p, key)) == raised {
				t.Errorf("%v behind %+v", key, c.d)
			}
		}
		if !Still(q, Look(p, others...)) || !Still(p, Look(q, others...)) {
			t.Errorf("others behind %+v", c.d)
		}
		for _, key := range c.raised {
			if Still(q, Look(p, append(others, key)...)) || Still(p, Look(q, append(others, key)...)) {
				t.Errorf("%v and others behind %+v", key, c.d)
			}
		}
		if Still(q, Look(p, all()...)) != (len(c.raised) == 0) {
			t.Errorf("all behind %+v", c.d)
		}
	}
}

// What is taken back is not as if nobody had touched it.
func TestStillBehindThereAndBack(t *testing.T) {
	p := busy(t)
	q := done(t, p, locks(hold(8, -1, 1)), locks(hold(8, 1, -1)))
	if !plan.Same(p, q) || Still(q, Look(p, Key{Stop, 8})) {
		t.Error(p, q)
	}
}

func TestStillOfViewsThatNobodyLookedAt(t *testing.T) {
	for _, c := range []struct {
		v    View
		want bool
	}{
		{View{{Route, 0}: 4}, true},
		{View{{Route, 0}: 3}, false},
		{View{{Route, 0}: 5}, false},
		{View{{Route, 0}: -1}, false},
		{View{{Route, 0}: 4 + 1<<32}, false},
		{View{{Pool, 0}: 2, {Stop, 7}: 5, {Ice, 2}: 2}, true},
		{View{{Pool, 0}: 2, {Stop, 7}: 4, {Ice, 2}: 2}, false},
		{View{{Pool, 0}: 1, {Stop, 7}: 5, {Ice, 2}: 2}, false},
		{View{{Pool, 0}: 2, {Stop, 7}: 5, {Ice, 2}: 3}, false},
		// Of what there is not, that it is not is seen.
		{View{{Stop, 9}: -1, {Route, 3}: -1, {0, 0}: -1, {Pool, 1}: -1, {Stop, 0}: -1}, true},
		{View{{Stop, 9}: 0}, false},
		{View{{Stop, 0}: 0}, false},
		{View{{Route, 3}: 0}, false},
		{View{{Pool, 1}: 2}, false},
		{View{{0, 0}: 0}, false},
		{View{{Stop, 9}: -2}, false},
		{View{{Stop, 9}: math.MaxInt, {Stop, 8}: 0}, false},
		{View{{Stop, 9}: -1, {Stop, 8}: 0}, true},
	} {
		if got := Still(busy(t), c.v); got != c.want {
			t.Errorf("%v: %v", c.v, got)
		}
	}
}

func TestStillOfAPlanWithMoreOrFewer(t *testing.T) {
	p, few := plan.New(sample()), plan.New(api.Inst{Cars: make([]api.Car, 1), Travel: [][]int{{0}}})
	for _, key := range []Key{{Route, 1}, {Ice, 2}, {Stop, 1}, {Stop, 8}} {
		if Still(few, Look(p, key)) || Still(p, Look(few, key)) {
			t.Error(key)
		}
	}
	if v := Look(p, Key{Route, 0}, Key{Ice, 0}, Key{Pool, 0}, Key{Stop, 0}); !Still(few, v) {
		t.Error(v)
	}
}

func TestWhole(t *testing.T) {
	p := busy(t)
	same(t, Whole(p, 0), "[{1 0} {3 0} {2 2} {2 5} {2 1}]")
	same(t, Whole(p, 1), "[{1 1} {3 1}]")
	same(t, Whole(p, 2), "[{1 2} {3 2} {2 6}]")
	same(t, Whole(done(t, p, turns(turn(0, []int{2, 5, 1}, []int{1, 2, 5}))), 0), "[{1 0} {3 0} {2 1} {2 2} {2 5}]")
	for _, car := range append(noNumbers, 3) {
		if got := Whole(p, car); len(got) != 0 {
			t.Errorf("%d: %v", car, got)
		}
	}
	same(t, Whole(api.Plan{}, 0), "[]")
	same(t, Whole(plan.New(sample()), 2), "[{1 2} {3 2}]")
}
