package hold

import (
	"fmt"
	"math"
	"slices"
	"testing"

	"drayman/api"
	"drayman/delta"
	"drayman/inst"
	"drayman/plan"
)

// sample is a problem of three cars and eight stops.
func sample() api.Inst {
	i := api.Inst{Cars: make([]api.Car, 3), Stops: make([]api.Stop, 8), Travel: make([][]int, 9)}
	for from := range i.Travel {
		i.Travel[from] = make([]int, 9)
	}
	return i
}

func turn(car int, before, after []int) api.Turn {
	return api.Turn{Car: car, Before: before, After: after}
}

func hold(n, before, after int) api.Hold {
	return api.Hold{N: n, Before: before, After: after}
}

func turns(list ...api.Turn) api.Delta {
	return api.Delta{Turns: list}
}

func locks(list ...api.Hold) api.Delta {
	return api.Delta{Locks: list}
}

func ices(list ...api.Hold) api.Delta {
	return api.Delta{Ices: list}
}

// together is both edits in one, the first one's ahead.
func together(a, b api.Delta) api.Delta {
	return api.Delta{Turns: slices.Concat(a.Turns, b.Turns), Locks: slices.Concat(a.Locks, b.Locks), Ices: slices.Concat(a.Ices, b.Ices)}
}

// done is the plan with the edits, one after the other.
func done(t *testing.T, p api.Plan, edits ...api.Delta) api.Plan {
	t.Helper()
	for _, d := range edits {
		next, e := plan.Apply(p, d)
		if e != api.OK {
			t.Fatalf("%+v of %+v: %d", d, p, e)
		}
		p = next
	}
	return p
}

// busy is a plan of sample: 1, 2, 3 on car 0, 4, 5 on car 1, 6 on car 2, 7 and 8 unassigned; 2 and 7 are held by 5, 4 and car 2 by 0.
func busy(t *testing.T) api.Plan {
	t.Helper()
	return done(t, plan.New(sample()), api.Delta{
		Turns: []api.Turn{turn(0, nil, []int{1, 2, 3}), turn(1, nil, []int{4, 5}), turn(2, nil, []int{6})},
		Locks: []api.Hold{hold(2, -1, 5), hold(7, -1, 5), hold(4, -1, 0)},
		Ices:  []api.Hold{hold(2, -1, 0)},
	})
}

// Turns of the plan busy, by what its routes would be.

func first(after ...int) api.Turn {
	return turn(0, []int{1, 2, 3}, after)
}

func second(after ...int) api.Turn {
	return turn(1, []int{4, 5}, after)
}

func third(after ...int) api.Turn {
	return turn(2, []int{6}, after)
}

// same fails unless both print alike, nil and the empty list like one another.
func same(t *testing.T, got, want any) {
	t.Helper()
	if fmt.Sprint(got) != fmt.Sprint(want) {
		t.Errorf("%v; want %v", got, want)
	}
}

// asked fails unless May of the plan answers who so.
func asked(t *testing.T, p api.Plan, who int, d api.Delta, want api.Errno) {
	t.Helper()
	if e := May(p, who, d); e != want {
		t.Errorf("%d asks for %+v of %+v: %d; want %d", who, d, p, e, want)
	}
}

// asks are those who may ask: sessions, and numbers that are none.
var asks = []int{-1, 0, 1, 2, 3, 4, 5, 6, 99, -2, math.MinInt, math.MaxInt}

// noNumbers are stops and cars that no problem has.
var noNumbers = []int{-1, -2, api.MaxStops + 1, 63, 64, 65, 1000, 1 << 31, 1 << 32, 1<<32 + 1, -1 << 32, math.MinInt, math.MinInt + 1, math.MaxInt, math.MaxInt - 1}

func TestSampleIsTaken(t *testing.T) {
	if e := inst.Check(sample()); e != api.OK {
		t.Error(e)
	}
	same(t, busy(t), "{[[1 2 3] [4 5] [6]] [-1 -1 5 -1 0 -1 -1 5 -1] [-1 -1 0] [1 1 1] [0 1 1 1 1 1 1 1 0] [0 0 1] 1}")
}

// Anybody may do what changes nothing, whoever holds it.
func TestMayOfNoChange(t *testing.T) {
	for _, who := range asks {
		for _, d := range []api.Delta{
			{},
			{Turns: []api.Turn{}, Locks: []api.Hold{}, Ices: []api.Hold{}},
			turns(first(1, 2, 3)), turns(second(4, 5)), turns(third(6)), turns(first(1, 2, 3), third(6), second(4, 5)),
			locks(hold(2, 5, 5)), locks(hold(1, -1, -1), hold(4, 0, 0)), ices(hold(2, 0, 0)), ices(hold(0, -1, -1)),
			// What changes nothing by its own words does not, though the plan is another one.
			turns(turn(0, []int{3}, []int{3})), turns(turn(2, nil, []int{})), locks(hold(2, 4, 4)), ices(hold(2, 3, 3)),
		} {
			asked(t, busy(t), who, d, api.OK)
			asked(t, plan.New(sample()), who, d, api.OK)
		}
	}
}

// A held route changes for nobody, also not for who holds it.
func TestMayOfAHeldRoute(t *testing.T) {
	for _, who := range asks {
		asked(t, busy(t), who, turns(third()), api.ErrIced)
		asked(t, busy(t), who, turns(third(6, 8)), api.ErrIced)
		asked(t, busy(t), who, turns(third(8)), api.ErrIced)
		asked(t, busy(t), who, turns(first(1, 2, 3, 6), third()), api.ErrIced)
		asked(t, busy(t), who, turns(third(8), first(1, 2)), api.ErrIced)
		asked(t, busy(t), who, turns(first(1, 2, 3, 8), third(6)), api.OK)
		// The hold that ends by the edit is still there.
		asked(t, busy(t), who, together(turns(third(8)), ices(hold(2, 0, -1))), api.ErrIced)
	}
	// The hold that begins by the edit is not there yet.
	asked(t, busy(t), 3, together(turns(first(1, 2, 3, 8)), ices(hold(0, -1, 3))), api.OK)
	asked(t, busy(t), 3, together(turns(first(1, 2, 3, 8)), ices(hold(0, -1, 4))), api.OK)
}

func TestMayOfAnEmptyHeldRoute(t *testing.T) {
	p := done(t, plan.New(sample()), ices(hold(0, -1, 0), hold(1, -1, 5)))
	for _, who := range asks {
		asked(t, p, who, turns(turn(0, nil, []int{1})), api.ErrIced)
		asked(t, p, who, turns(turn(1, nil, []int{1})), api.ErrIced)
		asked(t, p, who, turns(turn(2, nil, []int{1})), api.OK)
	}
}

// Of a hold that changes, it is asked who had it, not who gets it.
func TestMayOfHolds(t *testing.T) {
	for _, kind := range []struct {
		of   func(list ...api.Hold) api.Delta
		want api.Errno
		n    int
	}{{locks, api.ErrHeld, 2}, {ices, api.ErrIced, 2}, {locks, api.ErrHeld, 8}, {ices, api.ErrIced, 0}} {
		for _, who := range asks {
			for _, before := range asks {
				want := kind.want
				if before == -1 || before == who {
					want = api.OK
				}
				for _, after := range asks {
					if after == before {
						continue
					}
					asked(t, busy(t), who, kind.of(hold(kind.n, before, after)), want)
					asked(t, busy(t), who, kind.of(hold(1, -1, 3), hold(kind.n, before, after)), want)
				}
			}
		}
	}
}

// Stop 2 is held by 5, stop 7 as well, stop 4 by 0.
func TestMayOfHeldStops(t *testing.T) {
	for _, c := range []struct {
		what  string
		d     api.Delta
		whose []int // those who hold a stop that would be elsewhere
	}{
		{"others come and go behind it", turns(first(1, 2)), nil},
		{"another one comes behind it", turns(first(1, 2, 8, 3)), nil},
		{"those round it change places", turns(first(3, 2, 1)), nil},
		{"another one is ahead of it", turns(first(8, 2, 3)), nil},
		{"all but it", turns(first(8, 2)), nil},
		{"one from behind a held one to behind another", turns(first(1, 2), second(4, 3, 5)), nil},
		{"one behind a held one goes", turns(second(4)), nil},
		{"the one ahead of it goes", turns(first(2, 3)), []int{5}},
		{"one comes ahead of it", turns(first(8, 1, 2, 3)), []int{5}},
		{"one comes between", turns(first(1, 8, 2, 3)), []int{5}},
		{"it moves back", turns(first(1, 3, 2)), []int{5}},
		{"it moves ahead", turns(first(2, 1, 3)), []int{5}},
		{"the one ahead moves behind it", turns(first(2, 3, 1)), []int{5}},
		{"it is taken out", turns(first(1, 3)), []int{5}},
		{"it is taken out from the end", turns(first(1)), []int{5}},
		{"another one comes in its place", turns(first(1, 8, 3)), []int{5}},
		{"all are taken out", turns(first()), []int{5}},
		{"to another route", turns(first(1, 3), second(4, 5, 2)), []int{5}},
		{"to another route, told the other way round", turns(second(4, 5, 2), first(1, 3)), []int{5}},
		{"to its place of another route", turns(first(1, 3), second(4, 2, 5)), []int{5}},
		{"to another route, and one for it", turns(first(1, 5, 3), second(4, 2)), []int{5}},
		{"it is put in", turns(first(1, 2, 3, 7)), []int{5}},
		{"it is put in alone", turns(second(4, 5, 7)), []int{5}},
		{"one is put in for another of the same holder", turns(first(1, 7, 3)), []int{5}},
		{"the first one goes", turns(second(5)), []int{0}},
		{"the first one moves", turns(second(5, 4)), []int{0}},
		{"one comes ahead of the first one", turns(second(8, 4, 5)), []int{0}},
		{"two, each of another holder", turns(first(1, 3), second(5)), []int{0, 5}},
		{"two change routes", turns(first(1, 4, 3), second(2, 5)), []int{0, 5}},
		{"one ahead of another's, in its place", turns(first(1, 3), second(2, 4, 5)), []int{0, 5}},
		{"one of two", turns(first(1, 2, 3, 8), second(5)), []int{0}},
		{"a lock by the edit does not make it one's own", together(turns(first(1, 3)), locks(hold(2, -1, 3))), []int{5}},
	} {
		for _, who := range asks {
			want := api.ErrHeld
			if len(c.whose) == 0 || len(c.whose) == 1 && c.whose[0] == who {
				want = api.OK
			}
			if e := May(busy(t), who, c.d); e != want {
				t.Errorf("%s, by %d: %d; want %d", c.what, who, e, want)
			}
			// Without holds anybody may.
			asked(t, done(t, busy(t), Release(busy(t), 0), Release(busy(t), 5)), who, c.d, api.OK)
		}
	}
}

// What the edit makes of a hold counts behind it only.
func TestMayOfAStopWhoseHolderChanges(t *testing.T) {
	asked(t, busy(t), 5, together(turns(first(1, 3)), locks(hold(2, 5, -1))), api.OK)
	asked(t, busy(t), 5, together(turns(first(1, 3)), locks(hold(2, 5, 4))), api.OK)
	asked(t, busy(t), 4, together(turns(first(1, 3)), locks(hold(2, 5, 4))), api.ErrHeld)
	asked(t, busy(t), 4, together(turns(first(1, 2)), locks(hold(3, -1, 4))), api.OK)
	asked(t, busy(t), 4, together(turns(first(1, 2)), locks(hold(3, -1, 3))), api.OK)
}

// Of ErrIced and ErrHeld it is ErrIced, whichever stands ahead in the edit.
func TestMayIsIcedAheadOfHeld(t *testing.T) {
	iced := []api.Delta{turns(third()), ices(hold(2, 0, -1)), ices(hold(0, 4, -1)), turns(third(8))}
	held := []api.Delta{turns(first(1, 3)), turns(first(2, 3)), locks(hold(2, 5, -1)), locks(hold(8, 4, -1)), turns(second(7, 4, 5))}
	for _, who := range []int{-1, 1, 3} {
		for _, a := range iced {
			asked(t, busy(t), who, a, api.ErrIced)
			for _, b := range held {
				asked(t, busy(t), who, b, api.ErrHeld)
				asked(t, busy(t), who, together(a, b), api.ErrIced)
				asked(t, busy(t), who, together(b, a), api.ErrIced)
			}
		}
	}
	// A held stop in a held route.
	p := done(t, busy(t), ices(hold(0, -1, 5)))
	asked(t, p, 0, turns(first(2)), api.ErrIced)
	asked(t, p, 5, turns(first(2)), api.ErrIced)
	asked(t, p, 0, together(turns(second(4)), locks(hold(2, 5, -1))), api.ErrHeld)
}

func TestMayOfWhatThereIsNot(t *testing.T) {
	for _, who := range asks {
		for _, n := range append(noNumbers, 3, 9) {
			asked(t, busy(t), who, turns(turn(n, nil, []int{8})), api.OK)
			asked(t, busy(t), who, turns(turn(n, []int{1}, nil)), api.OK)
			asked(t, busy(t), who, turns(turn(n, []int{2}, []int{7, 4})), api.OK)
			asked(t, busy(t), who, turns(turn(n, nil, []int{2}), third()), api.ErrIced)
			asked(t, busy(t), who, ices(hold(n, -1, 3)), api.OK)
		}
		for _, n := range append(noNumbers, 0, 9) {
			asked(t, busy(t), who, turns(first(1, 2, 3, n)), api.OK)
			asked(t, busy(t), who, turns(first(n, 2, 3)), api.OK)
			asked(t, busy(t), who, turns(first(1, 2, n)), api.OK)
			asked(t, busy(t), who, turns(turn(0, []int{n}, []int{1, 2})), api.OK)
			asked(t, busy(t), who, locks(hold(n, -1, 3)), api.OK)
		}
	}
	for _, n := range append(noNumbers, 0, 9) {
		asked(t, busy(t), 3, turns(first(1, n, 2, 3)), api.ErrHeld)
		asked(t, busy(t), 3, turns(first(1, n, 3)), api.ErrHeld)
		asked(t, busy(t), 5, turns(first(1, n, 2, 3)), api.OK)
		// Who had it is what the edit says.
		asked(t, busy(t), 3, locks(hold(n, 5, -1)), api.ErrHeld)
		asked(t, busy(t), 5, locks(hold(n, 5, -1)), api.OK)
	}
	for _, n := range append(noNumbers, 3) {
		asked(t, busy(t), 3, ices(hold(n, 0, -1)), api.ErrIced)
		asked(t, busy(t), 0, ices(hold(n, 0, -1)), api.OK)
	}
}

// Where a stop is the plan tells, whatever the edit takes it for; an edit that puts it in two places moves it.
func TestMayOfEditsThatApplyRefuses(t *testing.T) {
	asked(t, busy(t), 3, turns(turn(0, nil, []int{1, 2, 3})), api.OK)
	asked(t, busy(t), 3, turns(turn(0, []int{2}, []int{1, 2})), api.OK)
	asked(t, busy(t), 3, turns(turn(0, []int{1, 8}, []int{1})), api.ErrHeld)
	asked(t, busy(t), 3, turns(turn(0, nil, []int{8})), api.ErrHeld)
	asked(t, busy(t), 3, turns(turn(1, []int{2, 7}, []int{4, 5})), api.OK)
	asked(t, busy(t), 3, turns(second(4, 5, 2)), api.ErrHeld)
	asked(t, busy(t), 5, turns(second(4, 5, 2)), api.OK)
	asked(t, busy(t), 3, turns(turn(0, []int{1, 2, 3}, []int{1, 2, 3, 2})), api.ErrHeld)
	asked(t, busy(t), 3, turns(first(1, 2, 8, 3), first(1, 3)), api.ErrHeld)
	asked(t, busy(t), 3, turns(first(1, 3), first(1, 2, 8, 3)), api.ErrHeld)
}

// Nobody is no holder: what nobody holds anybody may change, also nobody.
func TestMayOfANewPlan(t *testing.T) {
	p := plan.New(sample())
	for _, who := range asks {
		asked(t, p, who, turns(turn(2, nil, []int{1, 8, 3}), turn(0, nil, []int{4})), api.OK)
		asked(t, p, who, together(locks(hold(8, -1, 4), hold(1, -1, who)), ices(hold(0, -1, 4))), api.OK)
		same(t, Release(p, who), "{[] [] []}")
		same(t, Release(api.Plan{}, who), "{[] [] []}")
		asked(t, api.Plan{}, who, api.Delta{}, api.OK)
		asked(t, api.Plan{}, who, turns(turn(0, nil, []int{1})), api.OK)
	}
}

// A holder is any number but -1.
func TestHoldersThatAreNoSessions(t *testing.T) {
	p := done(t, plan.New(sample()), locks(hold(8, -1, -2), hold(1, -1, 99), hold(3, -1, math.MinInt)), ices(hold(2, -1, -2)))
	for _, who := range asks {
		asked(t, p, who, turns(turn(2, nil, []int{2})), api.ErrIced)
		for stop, holder := range map[int]int{8: -2, 1: 99, 3: math.MinInt} {
			want := api.ErrHeld
			if who == holder {
				want = api.OK
			}
			asked(t, p, who, turns(turn(0, nil, []int{stop})), want)
		}
	}
	same(t, Release(p, -2), "{[] [{8 -2 -1}] [{2 -2 -1}]}")
	same(t, Release(p, 99), "{[] [{1 99 -1}] []}")
	same(t, Release(p, math.MinInt), "{[] [{3 -9223372036854775808 -1}] []}")
	same(t, Release(p, -1), "{[] [] []}")
}

func TestRelease(t *testing.T) {
	p := done(t, busy(t), locks(hold(8, -1, 0), hold(1, -1, 0), hold(6, -1, 2)), ices(hold(0, -1, 0), hold(1, -1, 4)))
	for who, want := range map[int]string{
		0:  "{[] [{1 0 -1} {4 0 -1} {8 0 -1}] [{0 0 -1} {2 0 -1}]}",
		1:  "{[] [] []}",
		2:  "{[] [{6 2 -1}] []}",
		3:  "{[] [] []}",
		4:  "{[] [] [{1 4 -1}]}",
		5:  "{[] [{2 5 -1} {7 5 -1}] []}",
		6:  "{[] [] []}",
		-1: "{[] [] []}",
		-2: "{[] [] []}",
	} {
		d := Release(p, who)
		same(t, d, want)
		same(t, d, delta.Tidy(d))
		asked(t, p, who, d, api.OK)
		left(t, p, done(t, p, d), who)
	}
	// The first and the last of all.
	all := done(t, plan.New(sample()), locks(hold(1, -1, 5), hold(8, -1, 5)), ices(hold(0, -1, 5), hold(2, -1, 5)))
	same(t, Release(all, 5), "{[] [{1 5 -1} {8 5 -1}] [{0 5 -1} {2 5 -1}]}")
}

// left fails unless in q all is as in p, but that who holds nothing.
func left(t *testing.T, p, q api.Plan, who int) {
	t.Helper()
	want := plan.Copy(p)
	for _, holders := range [][]int{want.Lock, want.Ice} {
		for at := range holders {
			if holders[at] == who {
				holders[at] = -1
			}
		}
	}
	if !plan.Same(q, want) {
		t.Errorf("%d gone from %v: %v", who, p, q)
	}
	same(t, Release(q, who), "{[] [] []}")
}

// All of one holder, at the largest problem.
func TestReleaseOfAll(t *testing.T) {
	i := api.Inst{Cars: make([]api.Car, api.MaxCars), Stops: make([]api.Stop, api.MaxStops), Travel: make([][]int, api.MaxStops+1)}
	for from := range i.Travel {
		i.Travel[from] = make([]int, api.MaxStops+1)
	}
	var d api.Delta
	for stop := 1; stop <= api.MaxStops; stop++ {
		d.Locks = append(d.Locks, hold(stop, -1, 5))
	}
	for car := range api.MaxCars {
		d.Ices = append(d.Ices, hold(car, -1, 5))
	}
	p := done(t, plan.New(i), d)
	same(t, Release(p, 5), delta.Inverse(d))
	left(t, p, done(t, p, Release(p, 5)), 5)
	left(t, p, done(t, p, Release(p, 4)), 4)
}

// A plan that no call makes has no promise but that nothing panics.
func TestPlansThatAreNone(t *testing.T) {
	odd := []api.Plan{
		{Routes: [][]int{{1}}}, {Lock: []int{3, 3}}, {SV: []int{0, 0}}, {Ice: []int{3}}, {RV: []int{0}}, {IV: []int{0}}, {Lock: []int{3}},
		{Routes: [][]int{{1, 9}, {-5, math.MaxInt}}, Lock: []int{3, 3, 3}, Ice: []int{-1}},
		{Routes: [][]int{{1, 1}, {0}}, Lock: []int{-1, 3, -1}, SV: []int{0, 0}, Ice: []int{-1, -1, -1}},
	}
	for _, p := range odd {
		for _, who := range asks {
			Release(p, who)
			for _, n := range slices.Concat(noNumbers, []int{0, 1, 2, 3}) {
				for _, d := range []api.Delta{turns(turn(n, nil, []int{1})), turns(turn(n, []int{1}, nil)), turns(turn(0, nil, []int{n})), turns(turn(1, []int{n}, nil)), locks(hold(n, 3, 0)), ices(hold(n, 3, 0))} {
					May(p, who, d)
				}
			}
		}
	}
	// There is no stop 0, so nobody holds it.
	same(t, Release(api.Plan{Lock: []int{3, 3, 2}}, 3), "{[] [{1 3 -1}] []}")
	asked(t, api.Plan{Routes: [][]int{nil}, Lock: []int{3, 3}, Ice: []int{-1}}, 2, turns(turn(0, nil, []int{0})), api.OK)
}
