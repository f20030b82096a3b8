package fits

import (
	"math"
	"math/rand"
	"reflect"
	"slices"
	"testing"

	"drayman/api"
	"drayman/inst"
	"drayman/trip"
)

// sample is a problem of three cars and six stops, whose ways back are not their ways there: 4 and 1 are a pair that is loaded, 5 and 6 one that is not, 2 is loaded and closes early, 3 is unloaded and opens late.
func sample() api.Inst {
	return api.Inst{
		Cars: []api.Car{{Cap: 9, Start: 0, End: 100}, {Cap: 6, Start: 20, End: 47}, {Cap: 0, Start: 50, End: 65}},
		Stops: []api.Stop{
			{Demand: -5, Open: 0, Close: 90, Service: 2},
			{Demand: 4, Open: 10, Close: 30, Service: 0},
			{Demand: -1, Open: 40, Close: 60, Service: 6},
			{Demand: 5, Open: 0, Close: 90, Service: 3},
			{Demand: 0, Open: 0, Close: 100, Service: 1},
			{Demand: 0, Open: 0, Close: 100, Service: 1},
		},
		Pairs: [][2]int{{4, 1}, {5, 6}},
		Travel: [][]int{
			{0, 7, 4, 9, 3, 8, 6},
			{5, 0, 2, 6, 4, 3, 7},
			{8, 3, 0, 5, 6, 2, 9},
			{1, 4, 7, 0, 2, 6, 5},
			{9, 2, 3, 8, 0, 5, 4},
			{2, 6, 5, 3, 7, 0, 1},
			{4, 9, 6, 1, 5, 7, 0},
		},
	}
}

// noPlaces are places that no route has that is shorter than 40.
var noPlaces = []int{-1, -2, 40, 1000, 1 << 32, -1 << 32, math.MinInt, math.MinInt + 1, math.MaxInt, math.MaxInt - 1}

// routes are of all kinds: those that are driven, that can't be, with half a pair, with a stop twice, with none that there is.
func routes() [][]int {
	return [][]int{
		nil, {2}, {3}, {4, 1}, {5, 6}, {2, 3}, {4, 3, 1}, {2, 4, 3, 1}, {4, 5, 1, 6}, {5, 4, 6, 1}, {2, 4, 3, 5, 1, 6},
		{1}, {4}, {6}, {1, 4}, {6, 5}, {4, 2}, {2, 1}, {4, 5, 1}, {5, 1, 6}, {3, 2}, {2, 5, 4},
		{2, 2}, {2, 3, 2}, {4, 1, 4}, {4, 4, 1}, {5, 6, 5, 6}, {0}, {7}, {-1}, {2, 0}, {7, 2}, {2, 40, 3}, {math.MinInt, math.MaxInt},
	}
}

// asked is a problem and a car, of which tables are asked; driven and not count the answers.
type asked struct {
	*testing.T
	i           api.Inst
	car         int
	driven, not int
}

// right fails unless the answer is trip.Eval's of the stops, and no table has a cost beside a false.
func (a *asked) right(what string, stops []int, cost int, ok bool) {
	a.Helper()
	want, can := trip.Eval(a.i, a.car, stops...)
	if ok != can || cost != want.Cost {
		a.Fatalf("%+v, car %d, %s: %v: %d, %v; want %d, %v", a.i, a.car, what, stops, cost, ok, want.Cost, can)
	}
	if ok {
		a.driven++
	} else {
		a.not++
	}
}

func (a *asked) wrong(what string, cost int, ok bool) {
	a.Helper()
	if cost != 0 || ok {
		a.Fatalf("%+v, car %d, %s: %d, %v", a.i, a.car, what, cost, ok)
	}
}

// alone fails unless all that the table is asked without another one is right.
func (a *asked) alone(x *Table, stops []int) {
	a.Helper()
	if x.Len() != len(stops) {
		a.Fatalf("Len of %v: %d", stops, x.Len())
	}
	cost, ok := x.Whole()
	a.right("whole", stops, cost, ok)
	for at := -2; at <= len(stops)+2; at++ {
		for stop := -1; stop <= len(a.i.Stops)+2; stop++ {
			cost, ok := x.Insert(at, stop)
			if at < 0 || at > len(stops) {
				a.wrong("insert at no place", cost, ok)
				continue
			}
			a.right("insert", slices.Insert(slices.Clone(stops), at, stop), cost, ok)
		}
		cost, ok := x.Remove(at)
		if at < 0 || at >= len(stops) {
			a.wrong("remove of no place", cost, ok)
			continue
		}
		a.right("remove", slices.Delete(slices.Clone(stops), at, at+1), cost, ok)
	}
}

// across fails unless all crossings of x with y are right.
func (a *asked) across(x, y *Table, stops, others []int) {
	a.Helper()
	for at := -2; at <= len(stops)+2; at++ {
		for from := -2; from <= len(others)+2; from++ {
			cost, ok := x.Cross(at, y, from)
			if at < 0 || at > len(stops) || from < 0 || from > len(others) {
				a.wrong("cross at no place", cost, ok)
				continue
			}
			a.right("cross", slices.Concat(stops[:at], others[from:]), cost, ok)
		}
	}
}

func wantYes(t *testing.T, want, cost int, ok bool) {
	t.Helper()
	if cost != want || !ok {
		t.Errorf("%d, %v; want %d", cost, ok, want)
	}
}

func wantNo(t *testing.T, cost int, ok bool) {
	t.Helper()
	if cost != 0 || ok {
		t.Errorf("%d, %v", cost, ok)
	}
}

func TestSampleIsTaken(t *testing.T) {
	if e := inst.Check(sample()); e != api.OK {
		t.Fatal(e)
	}
}

func TestNoStops(t *testing.T) {
	for car := range sample().Cars {
		for _, x := range []*Table{New(sample(), car), New(sample(), car, []int{}...)} {
			if x.Len() != 0 {
				t.Errorf("car %d: Len %d", car, x.Len())
			}
			cost, ok := x.Whole()
			wantYes(t, 0, cost, ok)
			cost, ok = x.Cross(0, x, 0)
			wantYes(t, 0, cost, ok)
			cost, ok = x.Remove(0)
			wantNo(t, cost, ok)
		}
	}
	cost, ok := New(sample(), 0).Insert(0, 2)
	wantYes(t, 12, cost, ok)
	cost, ok = New(sample(), 2).Insert(0, 2)
	wantNo(t, cost, ok)
}

func TestWhole(t *testing.T) {
	for _, c := range []struct {
		car   int
		stops []int
		cost  int
	}{
		{0, []int{2}, 12},
		{0, []int{4, 1}, 10},
		{1, []int{4, 1}, 10},
		{0, []int{2, 3}, 10},
		{0, []int{2, 4, 3, 1}, 27},
		{0, []int{5, 4, 6, 1}, 33},
		{0, []int{2, 4, 3, 5, 1, 6}, 41},
		{2, []int{5, 6}, 13},
	} {
		x := New(sample(), c.car, c.stops...)
		cost, ok := x.Whole()
		wantYes(t, c.cost, cost, ok)
		if x.Len() != len(c.stops) {
			t.Errorf("Len of %v: %d", c.stops, x.Len())
		}
	}
	for _, c := range []struct {
		car   int
		stops []int
	}{
		{0, []int{3}},          // below 0
		{1, []int{2, 4, 1}},    // above Cap
		{2, []int{2}},          // behind its Close
		{1, []int{4, 5, 6, 1}}, // home behind End
		{0, []int{4}}, {0, []int{1}}, {0, []int{1, 4}}, {0, []int{2, 2}}, {0, []int{0}}, {0, []int{7}}, {0, []int{-1}},
	} {
		x := New(sample(), c.car, c.stops...)
		cost, ok := x.Whole()
		wantNo(t, cost, ok)
		if x.Len() != len(c.stops) {
			t.Errorf("Len of %v: %d", c.stops, x.Len())
		}
	}
}

func TestInsert(t *testing.T) {
	x := New(sample(), 0, 4, 1)
	for at, want := range []int{17, 14, 15} {
		cost, ok := x.Insert(at, 2)
		wantYes(t, want, cost, ok)
	}
	for _, at := range append(noPlaces, 3) {
		for _, stop := range []int{2, 3, 4, 1} {
			cost, ok := x.Insert(at, stop)
			wantNo(t, cost, ok)
		}
	}
	for at := range 3 {
		// there already, half a pair, none that there is
		for _, stop := range []int{4, 1, 5, 6, 0, 7, -1, 31, 32, 33, 36, 64, math.MinInt, math.MaxInt} {
			cost, ok := x.Insert(at, stop)
			wantNo(t, cost, ok)
		}
	}
}

// A half of a pair is made whole by the other half, at its right side.
func TestInsertOfTheOtherOfAPair(t *testing.T) {
	first, second := New(sample(), 0, 4), New(sample(), 0, 1)
	cost, ok := first.Insert(1, 1)
	wantYes(t, 10, cost, ok)
	cost, ok = first.Insert(0, 1)
	wantNo(t, cost, ok)
	cost, ok = second.Insert(0, 4)
	wantYes(t, 10, cost, ok)
	cost, ok = second.Insert(1, 4)
	wantNo(t, cost, ok)
	cost, ok = second.Insert(0, 5)
	wantNo(t, cost, ok)
	x := New(sample(), 0, 4, 5, 1)
	for at, want := range []bool{false, false, true, true} {
		if _, ok := x.Insert(at, 6); ok != want {
			t.Errorf("at %d: %v", at, ok)
		}
	}
	x.Set(5, 1, 6)
	for at, want := range []bool{true, true, false, false} {
		if _, ok := x.Insert(at, 4); ok != want {
			t.Errorf("at %d: %v", at, ok)
		}
	}
}

func TestInsertAtTheEdge(t *testing.T) {
	i := sample()
	i.Cars[0].Cap = 8
	x := New(i, 0, 4, 1)
	for at, want := range []bool{false, false, true} { // what is loaded at 2 stays on board
		if _, ok := x.Insert(at, 2); ok != want {
			t.Errorf("at %d: %v", at, ok)
		}
	}
	i = sample()
	i.Cars[0].End = 47 // 3 is left at 46, and 1 from home
	cost, ok := New(i, 0, 2).Insert(1, 3)
	wantYes(t, 10, cost, ok)
	i.Cars[0].End = 46
	cost, ok = New(i, 0, 2).Insert(1, 3)
	wantNo(t, cost, ok)
	i = sample()
	i.Stops[2].Demand = -4
	cost, ok = New(i, 0, 2).Insert(1, 3)
	wantYes(t, 10, cost, ok)
	i.Stops[2].Demand = -5
	cost, ok = New(i, 0, 2).Insert(1, 3)
	wantNo(t, cost, ok)
	i = sample()
	i.Cars[0].Start = 26
	cost, ok = New(i, 0).Insert(0, 2)
	wantYes(t, 12, cost, ok)
	i.Cars[0].Start = 27
	cost, ok = New(i, 0).Insert(0, 2)
	wantNo(t, cost, ok)
}

func TestRemove(t *testing.T) {
	x := New(sample(), 0, 2, 4, 3, 1)
	cost, ok := x.Remove(2)
	wantYes(t, 17, cost, ok)
	for _, at := range []int{1, 3} { // the one or the other of a pair
		cost, ok = x.Remove(at)
		wantNo(t, cost, ok)
	}
	cost, ok = x.Remove(0) // 3 unloads what 1 asks for
	wantNo(t, cost, ok)
	for _, at := range append(noPlaces, 4, 5) {
		cost, ok = x.Remove(at)
		wantNo(t, cost, ok)
	}
	x.Set(2)
	cost, ok = x.Remove(0)
	wantYes(t, 0, cost, ok)
	cost, ok = x.Remove(1)
	wantNo(t, cost, ok)
}

// What can't be driven may be driven without what was wrong in it.
func TestRemoveOfWhatIsWrong(t *testing.T) {
	for _, c := range []struct {
		stops []int
		at    int
		cost  int
	}{
		{[]int{4}, 0, 0},
		{[]int{1}, 0, 0},
		{[]int{2, 4}, 1, 12},
		{[]int{2, 1}, 1, 12},
		{[]int{2, 2}, 0, 12},
		{[]int{2, 2}, 1, 12},
		{[]int{7, 2}, 0, 12},
		{[]int{2, math.MaxInt, 3}, 1, 10},
		{[]int{4, 1, 4}, 2, 10},
		{[]int{1, 4, 1}, 0, 10},
		{[]int{4, 4, 1}, 0, 10},
		{[]int{3}, 0, 0},
	} {
		x := New(sample(), 0, c.stops...)
		cost, ok := x.Whole()
		wantNo(t, cost, ok)
		cost, ok = x.Remove(c.at)
		wantYes(t, c.cost, cost, ok)
	}
}

func TestCross(t *testing.T) {
	i := sample()
	x, y := New(i, 0, 2, 4, 1), New(i, 0, 5, 3, 6)
	for _, c := range []struct{ at, from, cost int }{{3, 3, 17}, {1, 3, 12}, {0, 3, 0}} {
		cost, ok := x.Cross(c.at, y, c.from)
		wantYes(t, c.cost, cost, ok)
	}
	for _, c := range [][2]int{
		{2, 3}, {2, 0}, // a first without its second
		{3, 1}, {3, 2}, {1, 2}, // a second without its first
		{0, 0}, // below 0
	} {
		cost, ok := x.Cross(c[0], y, c[1])
		wantNo(t, cost, ok)
	}
	for _, at := range append(noPlaces, 4, 5) {
		for place := range 4 {
			cost, ok := x.Cross(at, y, place)
			wantNo(t, cost, ok)
			cost, ok = x.Cross(place, y, at)
			wantNo(t, cost, ok)
			cost, ok = x.Cross(at, x, place)
			wantNo(t, cost, ok)
			cost, ok = x.Cross(place, x, at)
			wantNo(t, cost, ok)
		}
	}
	for _, at := range noPlaces {
		for _, from := range noPlaces {
			cost, ok := x.Cross(at, y, from)
			wantNo(t, cost, ok)
		}
	}
}

// A pair that is parted between the two is made whole, and one stop in both is one too many.
func TestCrossOfParts(t *testing.T) {
	i := sample()
	x, y := New(i, 0, 2, 4), New(i, 0, 3, 1)
	cost, ok := x.Cross(2, y, 0)
	wantYes(t, 27, cost, ok)
	cost, ok = x.Cross(2, y, 1)
	wantYes(t, 17, cost, ok)
	cost, ok = x.Cross(2, y, 2)
	wantNo(t, cost, ok)
	cost, ok = x.Cross(1, y, 0)
	wantNo(t, cost, ok)
	cost, ok = y.Cross(0, x, 0)
	wantNo(t, cost, ok)
	y.Set(2, 1)
	cost, ok = x.Cross(2, y, 1)
	wantYes(t, 17, cost, ok)
	cost, ok = x.Cross(2, y, 0)
	wantNo(t, cost, ok)
	y.Set(2)
	cost, ok = y.Cross(1, y, 0)
	wantNo(t, cost, ok)
}

// With its own end from the same place on it is the route itself, with an end from the next place on it is without that place.
func TestCrossWithItself(t *testing.T) {
	for car := range sample().Cars {
		for _, stops := range routes() {
			x := New(sample(), car, stops...)
			whole, can := x.Whole()
			for at := range len(stops) + 1 {
				if cost, ok := x.Cross(at, x, at); cost != whole || ok != can {
					t.Errorf("car %d, %v at %d: %d, %v; want %d, %v", car, stops, at, cost, ok, whole, can)
				}
				without, could := x.Remove(at)
				if cost, ok := x.Cross(at, x, at+1); cost != without || ok != could {
					t.Errorf("car %d, %v at %d: %d, %v; want %d, %v", car, stops, at, cost, ok, without, could)
				}
			}
		}
	}
}

// Another car's end tells nothing of this car's.
func TestCrossWithATableOfAnotherCar(t *testing.T) {
	i := sample()
	x := New(i, 0, 2, 4)
	cost, ok := x.Cross(2, New(sample(), 0, 1), 0) // a problem that is alike
	wantYes(t, 17, cost, ok)
	for _, car := range []int{1, 2, 3, -1} {
		cost, ok := x.Cross(2, New(i, car, 1), 0)
		wantNo(t, cost, ok)
		cost, ok = New(i, car, 4).Cross(1, New(i, 0, 1), 0)
		wantNo(t, cost, ok)
	}
	for _, change := range []func(i *api.Inst){
		func(i *api.Inst) { i.Cars[0].End = 99 },
		func(i *api.Inst) { i.Stops[0].Service = 1 },
		func(i *api.Inst) { i.Pairs = i.Pairs[:1] },
		func(i *api.Inst) { i.Travel[1][0] = 1 },
	} {
		other := sample()
		change(&other)
		if e := inst.Check(other); e != api.OK {
			t.Fatal(e)
		}
		cost, ok := x.Cross(2, New(other, 0, 1), 0)
		wantNo(t, cost, ok)
	}
}

func TestNoSuchCar(t *testing.T) {
	for _, car := range []int{-1, 3, 4, math.MinInt, math.MaxInt} {
		a := &asked{T: t, i: sample(), car: car}
		for _, stops := range routes() {
			x := New(a.i, car, stops...)
			a.alone(x, stops)
			a.across(x, x, stops, stops)
			a.across(x, New(a.i, car, 4, 1), stops, []int{4, 1})
			x.Set(4, 1)
			a.alone(x, []int{4, 1})
			x.Set()
			a.alone(x, nil)
		}
		if a.driven > 0 {
			t.Errorf("car %d: %d are driven", car, a.driven)
		}
	}
}

// All is trip.Eval's answer, for routes of all kinds.
func TestAllKindsOfRoutes(t *testing.T) {
	for car := range sample().Cars {
		a := &asked{T: t, i: sample(), car: car}
		for _, stops := range routes() {
			x := New(a.i, car, stops...)
			a.alone(x, stops)
			for _, others := range routes() {
				a.across(x, New(a.i, car, others...), stops, others)
			}
			a.across(x, x, stops, stops)
		}
		if a.driven < 50 || a.not < 50 {
			t.Errorf("car %d: %d are driven, %d not", car, a.driven, a.not)
		}
	}
}

// All lists of up to four numbers, those of no stop among them.
func TestAllShortRoutes(t *testing.T) {
	for car := range sample().Cars {
		a := &asked{T: t, i: sample(), car: car}
		x := New(a.i, car)
		var grow func(stops []int, length int)
		grow = func(stops []int, length int) {
			x.Set(stops...)
			a.alone(x, stops)
			a.across(x, x, stops, stops)
			if length == 0 {
				return
			}
			for stop := range 8 {
				grow(append(slices.Clone(stops), stop), length-1)
			}
		}
		grow(nil, 4)
		if a.driven < 100 || a.not < 100 {
			t.Errorf("car %d: %d are driven, %d not", car, a.driven, a.not)
		}
	}
}

// randomInst is a problem that inst.Check takes, in which many a route can be driven.
func randomInst(r *rand.Rand) api.Inst {
	var i api.Inst
	for range 1 + r.Intn(api.MaxCars) {
		start := r.Intn(20)
		i.Cars = append(i.Cars, api.Car{Cap: r.Intn(20), Start: start, End: start + r.Intn(100)})
	}
	for range r.Intn(api.MaxStops + 1) {
		open := r.Intn(40)
		i.Stops = append(i.Stops, api.Stop{Demand: r.Intn(9) - 3, Open: open, Close: open + r.Intn(60), Service: r.Intn(5)})
	}
	order := r.Perm(len(i.Stops))
	for range r.Intn(len(i.Stops)/2 + 1) {
		first, second := order[0], order[1]
		order = order[2:]
		i.Stops[first].Demand = r.Intn(6)
		i.Stops[second].Demand = -i.Stops[first].Demand
		i.Pairs = append(i.Pairs, [2]int{first + 1, second + 1})
	}
	for from := range len(i.Stops) + 1 {
		row := make([]int, len(i.Stops)+1)
		for to := range row {
			if to != from {
				row[to] = r.Intn(12)
			}
		}
		i.Travel = append(i.Travel, row)
	}
	return i
}

// randomRoute is mostly of whole pairs, in their order.
func randomRoute(r *rand.Rand, i api.Inst) []int {
	var stops []int
	for range r.Intn(6) {
		stop := 1 + r.Intn(len(i.Stops)+1)
		if r.Intn(20) > 0 && (stop > len(i.Stops) || slices.Contains(stops, stop)) {
			continue
		}
		mate := inst.Mate(i, stop)
		if mate > 0 && r.Intn(10) > 0 {
			if !inst.First(i, stop) {
				stop, mate = mate, stop
			}
			at := r.Intn(len(stops) + 1)
			stops = slices.Insert(stops, at, stop)
			stops = slices.Insert(stops, at+1+r.Intn(len(stops)-at), mate)
			continue
		}
		stops = slices.Insert(stops, r.Intn(len(stops)+1), stop)
	}
	return stops
}

func TestRandomRoutes(t *testing.T) {
	r := rand.New(rand.NewSource(6))
	driven, not := 0, 0
	for range 3000 {
		i := randomInst(r)
		if e := inst.Check(i); e != api.OK {
			t.Fatalf("%+v: %d", i, e)
		}
		a := &asked{T: t, i: i, car: r.Intn(len(i.Cars))}
		one, other := randomRoute(r, i), randomRoute(r, i)
		x, y := New(i, a.car, one...), New(i, a.car, other...)
		a.alone(x, one)
		a.across(x, y, one, other)
		a.across(y, x, other, one)
		a.across(x, x, one, one)
		x.Set(other...)
		a.alone(x, other)
		y.Set(one...)
		a.across(x, y, other, one)
		driven, not = driven+a.driven, not+a.not
	}
	if driven < 10000 || not < 10000 {
		t.Errorf("%d are driven, %d not", driven, not)
	}
}

// All stops that there may be, in one route, with the greatest numbers.
func TestGreatestNumbers(t *testing.T) {
	i := api.Inst{Cars: []api.Car{{Cap: api.MaxCap, End: api.MaxTime}}, Travel: make([][]int, api.MaxStops+1)}
	stops := []int{}
	for stop := 1; stop <= api.MaxStops; stop++ {
		i.Stops = append(i.Stops, api.Stop{Demand: 6, Close: api.MaxTime})
		stops = append(stops, stop)
	}
	for k := range i.Travel {
		i.Travel[k] = make([]int, api.MaxStops+1)
	}
	i.Travel[0][1], i.Travel[10][0] = 400, 600
	a := &asked{T: t, i: i}
	a.alone(New(i, 0, stops...), stops)
	cost, ok := New(i, 0, stops...).Whole()
	wantYes(t, 1000, cost, ok)
	cost, ok = New(i, 0, stops[1:]...).Insert(0, 1)
	wantYes(t, 1000, cost, ok)
	cost, ok = New(i, 0, stops[:9]...).Cross(9, New(i, 0, 10), 0)
	wantYes(t, 1000, cost, ok)
	i.Travel[10][0] = 601
	cost, ok = New(i, 0, stops[1:]...).Insert(0, 1)
	wantNo(t, cost, ok)
	i.Travel[10][0], i.Cars[0].Cap = 600, 59
	cost, ok = New(i, 0, stops[1:]...).Insert(0, 1)
	wantNo(t, cost, ok)
}

// answers are all that a table tells of itself.
func answers(x *Table) []int {
	list := []int{x.Len()}
	note := func(cost int, ok bool) {
		list = append(list, cost)
		if ok {
			list = append(list, 1)
		} else {
			list = append(list, 0)
		}
	}
	note(x.Whole())
	for at := -1; at <= x.Len()+1; at++ {
		note(x.Remove(at))
		for stop := -1; stop <= 8; stop++ {
			note(x.Insert(at, stop))
		}
		for from := -1; from <= x.Len()+1; from++ {
			note(x.Cross(at, x, from))
		}
	}
	return list
}

// A table after Set is as a new one, whatever it was ahead of that.
func TestSetIsAsNew(t *testing.T) {
	for car := -1; car <= 3; car++ {
		for _, ahead := range routes() {
			for _, stops := range routes() {
				x := New(sample(), car, ahead...)
				x.Set(stops...)
				if !slices.Equal(answers(x), answers(New(sample(), car, stops...))) {
					t.Fatalf("car %d: %v behind %v is another one", car, stops, ahead)
				}
			}
		}
	}
}

// A crossing takes the other table as it is now, and leaves it so.
func TestCrossBehindSet(t *testing.T) {
	i := sample()
	x, y := New(i, 0, 2, 4), New(i, 0, 1)
	cost, ok := x.Cross(2, y, 0)
	wantYes(t, 17, cost, ok)
	y.Set(3, 1)
	cost, ok = x.Cross(2, y, 0)
	wantYes(t, 27, cost, ok)
	x.Set()
	cost, ok = x.Cross(2, y, 0)
	wantNo(t, cost, ok)
	y.Set()
	cost, ok = x.Cross(0, y, 0)
	wantYes(t, 0, cost, ok)
}

func TestAskingChangesNothing(t *testing.T) {
	for car := -1; car <= 3; car++ {
		for _, stops := range routes() {
			x, y := New(sample(), car, stops...), New(sample(), car, 2, 3)
			once, other := answers(x), answers(y)
			a := &asked{T: t, i: sample(), car: car}
			a.across(x, y, stops, []int{2, 3})
			a.across(y, x, []int{2, 3}, stops)
			if !slices.Equal(answers(x), once) || !slices.Equal(answers(y), other) {
				t.Errorf("car %d, %v: asked again it is another one", car, stops)
			}
		}
	}
}

func TestTablesAreApart(t *testing.T) {
	x, y := New(sample(), 0, 4, 1), New(sample(), 0, 4, 1)
	once := answers(y)
	x.Set(2, 3)
	if !slices.Equal(answers(y), once) {
		t.Error("the one has changed the other")
	}
}

// spoil changes all numbers of the problem, in its own memory.
func spoil(i api.Inst) {
	for k := range i.Cars {
		i.Cars[k] = api.Car{}
	}
	for k := range i.Stops {
		i.Stops[k] = api.Stop{}
	}
	for k := range i.Pairs {
		i.Pairs[k] = [2]int{}
	}
	for from := range i.Travel {
		for to := range i.Travel[from] {
			i.Travel[from][to] = -1
		}
		i.Travel[from] = nil
	}
}

// What was handed in may be changed behind the call.
func TestWhatIsHandedInIsNotKept(t *testing.T) {
	for _, stops := range routes() {
		want := answers(New(sample(), 0, stops...))
		i, memory := sample(), slices.Clone(stops)
		x := New(i, 0, memory...)
		y := New(i, 0, 2)
		y.Set(memory...)
		for k := range memory {
			memory[k] = 5
		}
		if !slices.Equal(answers(x), want) || !slices.Equal(answers(y), want) {
			t.Errorf("%v: changed with what was handed in", stops)
		}
		spoil(i)
		if !slices.Equal(answers(x), want) || !slices.Equal(answers(y), want) {
			t.Errorf("%v: changed with the problem", stops)
		}
		x.Set(2)
		x.Set(stops...)
		if !slices.Equal(answers(x), want) {
			t.Errorf("%v: set anew with the changed problem", stops)
		}
	}
}

func TestWhatIsHandedInIsNotChanged(t *testing.T) {
	i := sample()
	i.Cars = append(i.Cars, api.Car{Cap: 60, End: 1000})[:3]
	i.Stops = append(i.Stops, api.Stop{Close: 1000})[:6]
	i.Pairs = append(i.Pairs, [2]int{2, 3})[:2]
	memory := []int{2, 4, 3, 1, 4, -7}
	x := New(i, 0, memory[:4]...)
	answers(x)
	if x.Len() != 4 {
		t.Errorf("read behind a list's length: %d", x.Len())
	}
	x.Set(memory[1:2]...)
	answers(x)
	if x.Len() != 1 {
		t.Errorf("read behind a list's length: %d", x.Len())
	}
	cost, ok := New(i, 3).Whole()
	wantNo(t, cost, ok)
	cost, ok = New(i, 0).Insert(0, 7)
	wantNo(t, cost, ok)
	if !reflect.DeepEqual(i, sample()) || !slices.Equal(memory, []int{2, 4, 3, 1, 4, -7}) {
		t.Errorf("changed to %+v, %v", i, memory)
	}
	if i.Cars[:4][3] != (api.Car{Cap: 60, End: 1000}) || i.Stops[:7][6] != (api.Stop{Close: 1000}) || i.Pairs[:3][2] != [2]int{2, 3} {
		t.Error("written behind a list's length")
	}
}

// No call panics at a problem that is none: its tables are as those of a car that there is not.
func TestProblemsThatAreNone(t *testing.T) {
	problems := []api.Inst{{}, {Cars: make([]api.Car, 1)}, {Stops: make([]api.Stop, 1000)}, {Travel: [][]int{nil, {}}}}
	for _, change := range []func(i *api.Inst){
		func(i *api.Inst) { i.Cars = nil },
		func(i *api.Inst) { i.Cars[0].End = -1 },
		func(i *api.Inst) { i.Stops = i.Stops[:3] },
		func(i *api.Inst) { i.Stops = append(i.Stops, make([]api.Stop, 50)...) },
		func(i *api.Inst) { i.Stops[1].Service = math.MaxInt },
		func(i *api.Inst) { i.Pairs = [][2]int{{math.MinInt, math.MaxInt}} },
		func(i *api.Inst) { i.Pairs = [][2]int{{2, 99}, {2, -1}} },
		func(i *api.Inst) { i.Travel = nil },
		func(i *api.Inst) { i.Travel = i.Travel[:2] },
		func(i *api.Inst) { i.Travel[2] = i.Travel[2][:0] },
		func(i *api.Inst) { i.Travel[0][2] = math.MaxInt },
	} {
		i := sample()
		change(&i)
		problems = append(problems, i)
	}
	for _, i := range problems {
		for _, car := range []int{0, 1, -1, 3, math.MaxInt} {
			a := &asked{T: t, i: i, car: car}
			for _, stops := range [][]int{nil, {2}, {4, 1}, {1, 4}, {7}, {-1, 0, 40}} {
				x := New(i, car, stops...)
				for at := -1; at <= len(stops)+1; at++ {
					for _, stop := range []int{0, 1, 2, 7, math.MinInt} {
						cost, ok := x.Insert(at, stop)
						a.wrong("insert", cost, ok)
					}
					cost, ok := x.Remove(at)
					a.wrong("remove", cost, ok)
				}
				cost, ok := x.Whole()
				a.wrong("whole", cost, ok)
				a.across(x, x, stops, stops)
				a.across(x, New(i, car, 2), stops, []int{2})
				cost, ok = x.Cross(0, New(sample(), 0, 2), 0)
				a.wrong("cross with another problem's", cost, ok)
				cost, ok = New(sample(), 0, 2).Cross(1, x, len(stops))
				a.wrong("another problem's cross", cost, ok)
				if x.Len() != len(stops) {
					t.Errorf("Len of %v: %d", stops, x.Len())
				}
			}
		}
	}
}

func TestManyStops(t *testing.T) {
	stops := slices.Repeat([]int{2, 3, 9, -4}, 100000)
	x := New(sample(), 0, stops...)
	if x.Len() != 400000 {
		t.Fatal(x.Len())
	}
	cost, ok := x.Whole()
	wantNo(t, cost, ok)
	cost, ok = x.Remove(399999)
	wantNo(t, cost, ok)
	cost, ok = x.Cross(2, x, 400000)
	wantYes(t, 10, cost, ok)
	x.Set(2, 3)
	if x.Len() != 2 {
		t.Error(x.Len())
	}
	cost, ok = x.Whole()
	wantYes(t, 10, cost, ok)
}
