package plan

import (
	"fmt"
	"math"
	"slices"
	"testing"

	"drayman/api"
	"drayman/inst"
	"drayman/trip"
)

// sample is a problem of three cars and six stops, 4 and 1 a pair, whose ways back are not their ways there.
func sample() api.Inst {
	stops := make([]api.Stop, 6)
	for at := range stops {
		stops[at] = api.Stop{Close: 100, Service: at}
	}
	stops[3].Demand, stops[0].Demand = 5, -5
	return api.Inst{
		Cars:  []api.Car{{Cap: 9, End: 100}, {Cap: 6, Start: 20, End: 60}, {Cap: 4, Start: 50, End: 65}},
		Stops: stops,
		Pairs: [][2]int{{4, 1}},
		Travel: [][]int{
			{0, 7, 4, 9, 3, 8, 6},
			{5, 0, 2, 6, 4, 3, 7},
			{8, 3, 0, 5, 6, 2, 9},
			{1, 4, 7, 0, 2, 6, 5},
			{9, 2, 3, 8, 0, 5, 4},
			{2, 6, 5, 3, 7, 0, 1},
			{4, 9, 6, 1, 5, 7, 0},
		},
	}
}

// largest is a problem of as many cars and stops as there may be.
func largest() api.Inst {
	i := api.Inst{Cars: make([]api.Car, api.MaxCars), Stops: make([]api.Stop, api.MaxStops), Travel: make([][]int, api.MaxStops+1)}
	for from := range i.Travel {
		i.Travel[from] = make([]int, api.MaxStops+1)
	}
	return i
}

// stopless is a problem of one car.
func stopless() api.Inst {
	return api.Inst{Cars: make([]api.Car, 1), Travel: [][]int{{0}}}
}

func turn(car int, before, after []int) api.Turn {
	return api.Turn{Car: car, Before: before, After: after}
}

func hold(n, before, after int) api.Hold {
	return api.Hold{N: n, Before: before, After: after}
}

func turns(list ...api.Turn) api.Delta {
	return api.Delta{Turns: list}
}

func locks(list ...api.Hold) api.Delta {
	return api.Delta{Locks: list}
}

func ices(list ...api.Hold) api.Delta {
	return api.Delta{Ices: list}
}

// done is the plan with the edits, one after the other.
func done(t *testing.T, p api.Plan, edits ...api.Delta) api.Plan {
	t.Helper()
	for _, d := range edits {
		next, e := Apply(p, d)
		if e != api.OK {
			t.Fatalf("%+v of %+v: %d", d, p, e)
		}
		p = next
	}
	return p
}

// busy is a plan of sample: 3, 4, 1 on car 0, 2 on car 2, 5 and 6 unassigned; 4 is held by 0, 5 by 3, car 1 by 2.
func busy(t *testing.T) api.Plan {
	t.Helper()
	return done(t, New(sample()),
		api.Delta{
			Turns: []api.Turn{turn(2, nil, []int{2}), turn(0, nil, []int{3})},
			Locks: []api.Hold{hold(4, -1, 0), hold(5, -1, 3)},
			Ices:  []api.Hold{hold(1, -1, 2)},
		},
		turns(turn(0, []int{3}, []int{3, 4, 1})),
	)
}

// same fails unless both print alike, nil and the empty list like one another.
func same(t *testing.T, got, want any) {
	t.Helper()
	if fmt.Sprint(got) != fmt.Sprint(want) {
		t.Errorf("%v; want %v", got, want)
	}
}

// noNumbers are stops and cars that no problem has.
var noNumbers = []int{-1, -2, api.MaxStops + 1, 63, 64, 65, 1000, 1 << 31, 1 << 32, 1<<32 + 1, -1 << 32, math.MinInt, math.MinInt + 1, math.MaxInt, math.MaxInt - 1}

func TestSamplesAreTaken(t *testing.T) {
	for k, i := range []api.Inst{sample(), largest(), stopless()} {
		if e := inst.Check(i); e != api.OK {
			t.Errorf("%d: %d", k, e)
		}
	}
}

func TestNew(t *testing.T) {
	same(t, New(stopless()), "{[[]] [-1] [-1] [0] [0] [0] 0}")
	same(t, New(sample()), "{[[] [] []] [-1 -1 -1 -1 -1 -1 -1] [-1 -1 -1] [0 0 0] [0 0 0 0 0 0 0] [0 0 0] 0}")
	same(t, New(largest()), "{[[] [] []] [-1 -1 -1 -1 -1 -1 -1 -1 -1 -1 -1] [-1 -1 -1] [0 0 0] [0 0 0 0 0 0 0 0 0 0 0] [0 0 0] 0}")
}

func TestNewOfNoProblem(t *testing.T) {
	for k, spoil := range []func(i *api.Inst){
		func(i *api.Inst) { *i = api.Inst{} },
		func(i *api.Inst) { i.Cars = nil },
		func(i *api.Inst) { i.Cars = append(i.Cars, api.Car{}) },
		func(i *api.Inst) { i.Cars[0].Cap = -1 },
		func(i *api.Inst) { i.Stops = nil },
		func(i *api.Inst) { i.Stops = make([]api.Stop, api.MaxStops+1) },
		func(i *api.Inst) { i.Stops[0].Close = -1 },
		func(i *api.Inst) { i.Pairs = append(i.Pairs, [2]int{4, 2}) },
		func(i *api.Inst) { i.Travel = nil },
		func(i *api.Inst) { i.Travel[2] = i.Travel[2][1:] },
	} {
		i := sample()
		spoil(&i)
		p := New(i)
		if !empty(p) || p.PV != 0 {
			t.Errorf("%d: %+v", k, p)
		}
		same(t, Unassigned(p), "[]")
		if cost := Cost(i, p); cost != 0 {
			t.Errorf("%d: cost %d", k, cost)
		}
		for stop := -1; stop <= api.MaxStops+1; stop++ {
			if car, at := Where(p, stop); car != -1 || at != -1 {
				t.Errorf("%d: stop %d at %d, %d", k, stop, car, at)
			}
		}
		same(t, done(t, p, api.Delta{}), p)
		same(t, Copy(p), p)
		for _, d := range []api.Delta{turns(turn(0, nil, nil)), locks(hold(1, -1, 0)), locks(hold(0, -1, 0)), ices(hold(0, -1, 0))} {
			refused(t, p, d, api.ErrArg)
		}
	}
}

// empty tells whether the plan has no list with anything in it.
func empty(p api.Plan) bool {
	return len(p.Routes)+len(p.Lock)+len(p.Ice)+len(p.RV)+len(p.SV)+len(p.IV) == 0
}

func TestWhere(t *testing.T) {
	p := busy(t)
	for stop, want := range map[int][2]int{0: {-1, -1}, 1: {0, 2}, 2: {2, 0}, 3: {0, 0}, 4: {0, 1}, 5: {-1, -1}, 6: {-1, -1}, 7: {-1, -1}} {
		if car, at := Where(p, stop); car != want[0] || at != want[1] {
			t.Errorf("stop %d at %d, %d", stop, car, at)
		}
	}
	for _, stop := range noNumbers {
		if car, at := Where(p, stop); car != -1 || at != -1 {
			t.Errorf("stop %d at %d, %d", stop, car, at)
		}
	}
	for stop := range 8 {
		if car, at := Where(New(sample()), stop); car != -1 || at != -1 {
			t.Errorf("stop %d of a new plan at %d, %d", stop, car, at)
		}
	}
}

func TestUnassigned(t *testing.T) {
	p := New(sample())
	for _, c := range []struct {
		p    api.Plan
		want []int
	}{
		{New(stopless()), nil},
		{New(largest()), []int{1, 2, 3, 4, 5, 6, 7, 8, 9, 10}},
		{p, []int{1, 2, 3, 4, 5, 6}},
		{busy(t), []int{5, 6}},
		{done(t, p, turns(turn(1, nil, []int{6}))), []int{1, 2, 3, 4, 5}},
		{done(t, p, turns(turn(1, nil, []int{6, 1}))), []int{2, 3, 4, 5}},
		{done(t, p, turns(turn(0, nil, []int{5, 3}), turn(2, nil, []int{1}))), []int{2, 4, 6}},
		{done(t, p, turns(turn(0, nil, []int{6, 5, 4}), turn(1, nil, []int{2, 3}))), []int{1}},
		{done(t, p, turns(turn(0, nil, []int{6, 5, 4}), turn(1, nil, []int{2, 3}), turn(2, nil, []int{1}))), nil},
		{done(t, p, turns(turn(1, nil, []int{3, 2, 1, 6, 5, 4}))), nil},
		{done(t, p, locks(hold(1, -1, 2)), ices(hold(0, -1, 3))), []int{1, 2, 3, 4, 5, 6}},
	} {
		same(t, Unassigned(c.p), c.want)
	}
}

func TestCost(t *testing.T) {
	i, p := sample(), New(sample())
	for _, c := range []struct {
		p    api.Plan
		want int
	}{
		{p, 0},
		{done(t, p, turns(turn(0, nil, []int{2}))), 12},
		{done(t, p, turns(turn(2, nil, []int{4, 1}))), 10},
		{done(t, p, turns(turn(0, nil, []int{2}), turn(2, nil, []int{4, 1}))), 22},
		{done(t, p, turns(turn(0, nil, []int{2, 3}), turn(1, nil, []int{5}), turn(2, nil, []int{6}))), 30},
		// Whether a route can be driven does not count.
		{done(t, p, turns(turn(2, nil, []int{1, 6, 4}))), 28},
		{busy(t), 30},
	} {
		if cost := Cost(i, c.p); cost != c.want {
			t.Errorf("%+v: %d; want %d", c.p.Routes, cost, c.want)
		}
		sum := 0
		for _, route := range c.p.Routes {
			sum += trip.Cost(i, route...)
		}
		if cost := Cost(i, c.p); cost != sum {
			t.Errorf("%+v: %d; the sum is %d", c.p.Routes, cost, sum)
		}
	}
	if cost := Cost(stopless(), New(stopless())); cost != 0 {
		t.Errorf("no stops: %d", cost)
	}
}

// Of another problem than the plan's, a route with a stop that there is not costs nothing, as trip.Cost says.
func TestCostOfAnotherProblem(t *testing.T) {
	for k, i := range []api.Inst{{}, stopless()} {
		if cost := Cost(i, busy(t)); cost != 0 {
			t.Errorf("%d: %d", k, cost)
		}
	}
}

func TestSame(t *testing.T) {
	p := busy(t)
	if !Same(p, p) || !Same(p, Copy(p)) || !Same(New(stopless()), New(stopless())) || !Same(api.Plan{}, api.Plan{}) {
		t.Error("alike, and not the same")
	}
	for k, alter := range versionsOnly() {
		q := Copy(p)
		alter(&q)
		if !Same(p, q) || !Same(q, p) {
			t.Errorf("version %d counts", k)
		}
	}
	for k, alter := range []func(q *api.Plan){
		func(q *api.Plan) { q.Routes[0][0], q.Routes[0][1] = q.Routes[0][1], q.Routes[0][0] },
		func(q *api.Plan) { q.Routes[0] = q.Routes[0][:2] },
		func(q *api.Plan) { q.Routes[0] = append(q.Routes[0], 5) },
		func(q *api.Plan) { q.Routes[0] = nil },
		func(q *api.Plan) { q.Routes[2][0] = 5 },
		func(q *api.Plan) { q.Routes[1], q.Routes[2] = q.Routes[2], q.Routes[1] },
		func(q *api.Plan) { q.Routes = q.Routes[:2] },
		func(q *api.Plan) { q.Routes = append(q.Routes, nil) },
		func(q *api.Plan) { q.Lock[4] = -1 },
		func(q *api.Plan) { q.Lock[6] = 1 },
		func(q *api.Plan) { q.Lock[5] = 2 },
		func(q *api.Plan) { q.Lock = q.Lock[:6] },
		func(q *api.Plan) { q.Ice[1] = -1 },
		func(q *api.Plan) { q.Ice[0] = 2 },
		func(q *api.Plan) { q.Ice[1] = 3 },
		func(q *api.Plan) { q.Ice = q.Ice[:2] },
	} {
		q := Copy(p)
		alter(&q)
		if Same(p, q) || Same(q, p) {
			t.Errorf("%d: unlike, and the same: %+v", k, q)
		}
	}
}

// Unlike problems have unlike plans, but plans do not tell of what problem they are.
func TestSameOfNewPlans(t *testing.T) {
	all := []api.Plan{{}, New(stopless()), New(sample()), New(largest())}
	for a := range all {
		for b := range all {
			if Same(all[a], all[b]) != (a == b) {
				t.Errorf("%d, %d", a, b)
			}
		}
	}
}

// nil and the empty list are the same.
func TestSameOfNilAndEmpty(t *testing.T) {
	p := New(sample())
	q := Copy(p)
	for car := range q.Routes {
		p.Routes[car], q.Routes[car] = nil, []int{}
	}
	if !Same(p, q) || !Same(api.Plan{}, api.Plan{Routes: [][]int{}, Lock: []int{}, Ice: []int{}}) {
		t.Error("nil is not the empty list")
	}
	for _, route := range [][]int{nil, {}} {
		for _, d := range []api.Delta{turns(turn(0, nil, route)), turns(turn(0, []int{}, route)), turns(turn(0, route, []int{3}))} {
			done(t, p, d)
			done(t, q, d)
		}
	}
}

func versionsOnly() []func(q *api.Plan) {
	return []func(q *api.Plan){
		func(q *api.Plan) { q.RV[0]++ },
		func(q *api.Plan) { q.SV[4]++ },
		func(q *api.Plan) { q.IV[1]++ },
		func(q *api.Plan) { q.PV++ },
		func(q *api.Plan) { q.RV, q.SV, q.IV, q.PV = nil, nil, nil, 0 },
	}
}

func TestCopy(t *testing.T) {
	for _, p := range []api.Plan{{}, New(stopless()), New(sample()), New(largest()), busy(t)} {
		same(t, Copy(p), p)
		if !Same(Copy(p), p) {
			t.Errorf("%+v is not its copy", p)
		}
	}
	p := busy(t)
	p.PV, p.RV[0], p.SV[0], p.IV[2] = 9, 8, 7, 6
	same(t, Copy(p), p)
}

// A plan that none of this package's calls makes has no promise but that nothing panics.
func TestPlansThatAreNone(t *testing.T) {
	odd := []api.Plan{
		{Routes: [][]int{{1}}}, {Lock: []int{-1, -1}}, {SV: []int{0, 0}}, {Ice: []int{-1}}, {RV: []int{0}}, {IV: []int{0}},
		{Routes: [][]int{{1, 9}, {-5, math.MaxInt}}, Lock: []int{-1, -1, -1}, SV: []int{0, 0, 0}, Ice: []int{-1, -1}, RV: []int{0, 0}, IV: []int{0, 0}},
		{Routes: [][]int{{1, 1}, {1}}, Lock: []int{-1, -1, -1}, SV: []int{0, 0}, Ice: []int{-1, -1}, RV: []int{0, 0}, IV: []int{0}},
		{Routes: [][]int{nil, nil}, Lock: []int{-1}, SV: []int{0, 0, 0}, Ice: []int{-1}, RV: []int{0, 0}, IV: []int{0, 0}},
		{Routes: [][]int{nil}, Lock: []int{-1, -1}, SV: []int{0, 0, 0}, Ice: []int{-1, -1}, RV: nil, IV: []int{0, 0}},
	}
	for _, p := range odd {
		Unassigned(p)
		Copy(p)
		Cost(sample(), p)
		for _, n := range slices.Concat(noNumbers, []int{0, 1, 2, 3}) {
			Where(p, n)
			for _, d := range []api.Delta{
				turns(turn(n, nil, []int{1})), turns(turn(n, []int{1}, nil)), turns(turn(0, nil, []int{n})), turns(turn(0, []int{n}, nil)),
				turns(turn(n, []int{1, 1}, nil)), locks(hold(n, -1, 0)), ices(hold(n, -1, 0)), {Turns: []api.Turn{turn(0, []int{1, 9}, nil), turn(1, []int{-5, math.MaxInt}, nil)}},
			} {
				if q, e := Apply(p, d); e != api.OK && !empty(q) {
					t.Errorf("%+v of %+v: %d beside %+v", d, p, e, q)
				}
			}
		}
		for _, q := range odd {
			Same(p, q)
		}
	}
}
