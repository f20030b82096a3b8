package trip

import (
	"math"
	"math/rand"
	"reflect"
	"slices"
	"testing"

	"drayman/api"
	"drayman/inst"
)

// sample is a problem of three cars and six stops, whose ways back are not their ways there: 4 and 1 are a pair that is loaded, 5 and 6 one that is not, 2 is loaded and closes early, 3 is unloaded and opens late.
func sample() api.Inst {
	return api.Inst{
		Cars: []api.Car{{Cap: 9, Start: 0, End: 100}, {Cap: 6, Start: 20, End: 47}, {Cap: 0, Start: 50, End: 65}},
		Stops: []api.Stop{
			{Demand: -5, Open: 0, Close: 90, Service: 2},
			{Demand: 4, Open: 10, Close: 30, Service: 0},
			{Demand: -1, Open: 40, Close: 60, Service: 6},
			{Demand: 5, Open: 0, Close: 90, Service: 3},
			{Demand: 0, Open: 0, Close: 100, Service: 1},
			{Demand: 0, Open: 0, Close: 100, Service: 1},
		},
		Pairs: [][2]int{{4, 1}, {5, 6}},
		Travel: [][]int{
			{0, 7, 4, 9, 3, 8, 6},
			{5, 0, 2, 6, 4, 3, 7},
			{8, 3, 0, 5, 6, 2, 9},
			{1, 4, 7, 0, 2, 6, 5},
			{9, 2, 3, 8, 0, 5, 4},
			{2, 6, 5, 3, 7, 0, 1},
			{4, 9, 6, 1, 5, 7, 0},
		},
	}
}

// same tells whether two trips are the same; nil and the empty list are.
func same(a, b Trip) bool {
	return slices.Equal(a.Arrive, b.Arrive) && slices.Equal(a.Load, b.Load) && a.Cost == b.Cost && a.Home == b.Home
}

// wantTrip fails unless Eval answers the trip, and Cost its cost.
func wantTrip(t *testing.T, i api.Inst, car int, stops []int, want Trip) {
	t.Helper()
	if got, ok := Eval(i, car, stops...); !ok || !same(got, want) {
		t.Errorf("car %d, stops %v: %v, %v; want %v", car, stops, got, ok, want)
	}
	if got := Cost(i, stops...); got != want.Cost {
		t.Errorf("Cost of %v = %d; want %d", stops, got, want.Cost)
	}
}

// wantNone fails unless Eval answers false and nothing beside.
func wantNone(t *testing.T, i api.Inst, car int, stops ...int) {
	t.Helper()
	if got, ok := Eval(i, car, stops...); ok || !same(got, Trip{}) {
		t.Errorf("car %d, stops %v: %v, %v; want nothing, false", car, stops, got, ok)
	}
}

func TestSampleIsTaken(t *testing.T) {
	if e := inst.Check(sample()); e != api.OK {
		t.Fatal(e)
	}
}

func TestEval(t *testing.T) {
	for _, c := range []struct {
		car   int
		stops []int
		want  Trip
	}{
		{0, []int{4, 1}, Trip{[]int{3, 8}, []int{5, 0}, 10, 15}},
		{1, []int{4, 1}, Trip{[]int{23, 28}, []int{5, 0}, 10, 35}},
		{0, []int{2}, Trip{[]int{10}, []int{4}, 12, 18}},
		{1, []int{2}, Trip{[]int{24}, []int{4}, 12, 32}},
		{0, []int{2, 3}, Trip{[]int{10, 40}, []int{4, 3}, 10, 47}},
		{1, []int{2, 3}, Trip{[]int{24, 40}, []int{4, 3}, 10, 47}},
		{0, []int{4, 1, 2}, Trip{[]int{3, 8, 12}, []int{5, 0, 4}, 15, 20}},
		{0, []int{2, 4, 1}, Trip{[]int{10, 16, 21}, []int{4, 9, 4}, 17, 28}},
		{0, []int{2, 4, 3, 1}, Trip{[]int{10, 16, 40, 50}, []int{4, 9, 8, 3}, 27, 57}},
		{0, []int{2, 3, 4, 1}, Trip{[]int{10, 40, 48, 53}, []int{4, 3, 8, 3}, 18, 60}},
		{2, []int{5, 6}, Trip{[]int{58, 60}, []int{0, 0}, 13, 65}},
		{0, []int{5, 4, 6, 1}, Trip{[]int{8, 16, 23, 33}, []int{0, 5, 5, 0}, 33, 40}},
		{0, []int{4, 5, 1, 6}, Trip{[]int{3, 11, 18, 27}, []int{5, 5, 0, 0}, 25, 32}},
		{0, []int{4, 5, 6, 1}, Trip{[]int{3, 11, 13, 23}, []int{5, 5, 5, 0}, 23, 30}},
		{0, []int{2, 4, 3, 5, 1, 6}, Trip{[]int{10, 16, 40, 52, 59, 68}, []int{4, 9, 8, 8, 3, 3}, 41, 73}},
	} {
		wantTrip(t, sample(), c.car, c.stops, c.want)
	}
}

func TestNoStops(t *testing.T) {
	for car, start := range []int{0, 20, 50} {
		wantTrip(t, sample(), car, nil, Trip{Home: start})
		wantTrip(t, sample(), car, []int{}, Trip{Home: start})
	}
	i := api.Inst{Cars: []api.Car{{Start: 1000, End: 1000}}, Travel: [][]int{{0}}}
	wantTrip(t, i, 0, nil, Trip{Home: 1000})
	wantNone(t, i, 0, 1)
	wantNone(t, i, 1)
}

func TestCloseAtTheEdge(t *testing.T) {
	stops := []int{2, 4, 1}
	want := Trip{[]int{10, 16, 21}, []int{4, 9, 4}, 17, 28}
	for k, stop := range stops {
		i := sample()
		i.Stops[stop-1].Close = want.Arrive[k]
		wantTrip(t, i, 0, stops, want)
		if stop == 2 { // it is waited for, and can't close ahead of its Open
			continue
		}
		i.Stops[stop-1].Close--
		wantNone(t, i, 0, stops...)
	}
	i := sample()
	i.Cars[0].Start = 26
	wantTrip(t, i, 0, []int{2}, Trip{[]int{30}, []int{4}, 12, 38})
	i.Cars[0].Start = 27
	wantNone(t, i, 0, 2)
}

// A stop is begun at its Open at the earliest, and at once behind it.
func TestOpenAtTheEdge(t *testing.T) {
	for _, c := range []struct{ start, begun int }{{0, 10}, {5, 10}, {6, 10}, {7, 11}, {8, 12}} {
		i := sample()
		i.Cars[0].Start = c.start
		wantTrip(t, i, 0, []int{2}, Trip{[]int{c.begun}, []int{4}, 12, c.begun + 8})
	}
}

// Service delays what is behind a stop, not the stop itself; who waits for one stop to open may be in time for it, but too late for the next one.
func TestServiceAndWaiting(t *testing.T) {
	i := sample()
	i.Stops[1].Service = 30
	wantTrip(t, i, 0, []int{2, 3}, Trip{[]int{10, 45}, []int{4, 3}, 10, 52})
	i.Stops[1].Service = 45
	wantTrip(t, i, 0, []int{2, 3}, Trip{[]int{10, 60}, []int{4, 3}, 10, 67})
	i.Stops[1].Service = 46
	wantNone(t, i, 0, 2, 3)
	i = sample()
	i.Stops[1].Open, i.Stops[1].Close = 1000, 1000
	i.Cars[0].End = 1000
	wantNone(t, i, 0, 2)
	wantNone(t, i, 0, 2, 4, 1)
}

func TestEndAtTheEdge(t *testing.T) {
	for _, c := range []struct {
		stops []int
		want  Trip
	}{
		{[]int{4, 1}, Trip{[]int{3, 8}, []int{5, 0}, 10, 15}},
		{[]int{2}, Trip{[]int{10}, []int{4}, 12, 18}},
		{[]int{2, 4, 3, 5, 1, 6}, Trip{[]int{10, 16, 40, 52, 59, 68}, []int{4, 9, 8, 8, 3, 3}, 41, 73}},
	} {
		i := sample()
		i.Cars[0].End = c.want.Home
		wantTrip(t, i, 0, c.stops, c.want)
		i.Cars[0].End--
		wantNone(t, i, 0, c.stops...)
	}
	// the way home alone is too long; the last service alone is
	i := sample()
	i.Travel[6][0] = 5
	wantNone(t, i, 2, 5, 6)
	i = sample()
	i.Stops[5].Service++
	wantNone(t, i, 2, 5, 6)
}

func TestCapAtTheEdge(t *testing.T) {
	i := sample()
	i.Cars[0].Cap = 5
	wantTrip(t, i, 0, []int{4, 1}, Trip{[]int{3, 8}, []int{5, 0}, 10, 15})
	i.Cars[0].Cap = 4
	wantNone(t, i, 0, 4, 1)
	// only in the midst is it too much
	wantTrip(t, i, 0, []int{2}, Trip{[]int{10}, []int{4}, 12, 18})
	i.Cars[0].Cap = 8
	wantNone(t, i, 0, 2, 4, 1)
	wantNone(t, i, 0, 2, 4, 3, 1)
	wantTrip(t, i, 0, []int{2, 3, 4, 1}, Trip{[]int{10, 40, 48, 53}, []int{4, 3, 8, 3}, 18, 60})
	i.Cars[0].Cap = 0
	wantNone(t, i, 0, 2)
	wantTrip(t, i, 0, []int{5, 6}, Trip{[]int{8, 10}, []int{0, 0}, 13, 15})
}

func TestLoadedDownToNothing(t *testing.T) {
	i := sample()
	i.Stops[2].Demand = -4
	wantTrip(t, i, 0, []int{2, 3}, Trip{[]int{10, 40}, []int{4, 0}, 10, 47})
	i.Stops[2].Demand = -5
	wantNone(t, i, 0, 2, 3)
	wantNone(t, sample(), 0, 3)
	// only in the midst is it below nothing
	wantNone(t, sample(), 0, 3, 4, 1)
	i = sample()
	i.Stops[1].Close = 100
	wantNone(t, i, 0, 3, 2)
	// what is unloaded beside a pair is missed when its second one is reached
	wantNone(t, sample(), 0, 4, 3, 1)
}

func TestNoSuchCar(t *testing.T) {
	for _, car := range []int{-1, 3, 4, math.MinInt, math.MaxInt} {
		wantNone(t, sample(), car)
		wantNone(t, sample(), car, 2)
		wantNone(t, sample(), car, 4, 1)
	}
}

func TestNoSuchStop(t *testing.T) {
	for _, stop := range []int{0, -1, 7, 8, api.MaxStops, api.MaxStops + 1, 1000000, math.MinInt, math.MaxInt} {
		for _, stops := range [][]int{{stop}, {stop, 2}, {2, stop}, {4, stop, 1}, {stop, stop}} {
			wantNone(t, sample(), 0, stops...)
			if got := Cost(sample(), stops...); got != 0 {
				t.Errorf("Cost of %v = %d", stops, got)
			}
		}
	}
}

func TestStopTwice(t *testing.T) {
	i := sample()
	i.Pairs = i.Pairs[:1] // 5 and 6 are alone
	wantTrip(t, i, 0, []int{5}, Trip{[]int{8}, []int{0}, 10, 11})
	for _, stops := range [][]int{{5, 5}, {5, 6, 5}, {6, 5, 5}, {4, 1, 1}, {4, 4, 1}, {4, 4, 1, 1}, {4, 1, 4, 1}, {2, 2}} {
		wantNone(t, i, 0, stops...)
	}
	wantNone(t, sample(), 0, 5, 6, 5, 6)
	wantNone(t, sample(), 0, slices.Repeat([]int{5}, 1000)...)
}

func TestPairs(t *testing.T) {
	for _, stops := range [][]int{
		{5}, {6}, {6, 5}, {4}, {1}, {1, 4},
		{5, 4, 1}, {4, 5, 1}, {4, 1, 5}, {6, 4, 1}, {4, 6, 1}, {4, 1, 6},
		{6, 4, 1, 5}, {6, 4, 5, 1}, {4, 6, 5, 1}, {5, 1, 6, 4}, {2, 4}, {2, 1}, {2, 1, 4},
		{4, 5}, {4, 6}, {5, 1}, {6, 1}, // one of each pair
	} {
		wantNone(t, sample(), 0, stops...)
	}
}

func TestCost(t *testing.T) {
	for _, c := range []struct {
		stops []int
		want  int
	}{
		{nil, 0},
		{[]int{}, 0},
		{[]int{1}, 12},
		{[]int{4}, 12},
		{[]int{3}, 10},
		{[]int{1, 4}, 20},
		{[]int{4, 1}, 10},
		{[]int{6, 5}, 15},
		{[]int{2, 2}, 12},
		{[]int{2, 3, 2}, 24},
		{[]int{1, 1, 1, 4, 4}, 20},
		{[]int{1, 2, 3, 4, 5, 6}, 26},
		{[]int{6, 5, 4, 3, 2, 1}, 43},
		{[]int{0}, 0},
		{[]int{1, 0, 1}, 0},
		{[]int{1, 7}, 0},
		{[]int{-1, 1}, 0},
	} {
		if got := Cost(sample(), c.stops...); got != c.want {
			t.Errorf("Cost of %v = %d; want %d", c.stops, got, c.want)
		}
	}
}

// Cost hangs neither on the cars nor on what the stops ask for.
func TestCostOfTravelAlone(t *testing.T) {
	i := sample()
	i.Cars = []api.Car{{Start: 9, End: 9}}
	for k := range i.Stops {
		i.Stops[k] = api.Stop{Open: 1, Close: 1, Service: 1000}
	}
	if got := Cost(i, 2, 4, 3, 5, 1, 6); got != 41 {
		t.Errorf("Cost = %d; want 41", got)
	}
}

// Of many stops a sum is far past all bounds of one number.
func TestCostOfManyStops(t *testing.T) {
	i := api.Inst{Cars: make([]api.Car, 1), Stops: make([]api.Stop, 2), Travel: [][]int{{0, 1000, 1000}, {1000, 0, 1000}, {1000, 1000, 0}}}
	stops := slices.Repeat([]int{1, 2}, 2000000)
	if got := Cost(i, stops...); int64(got) != 4000001000 {
		t.Errorf("Cost = %d", got)
	}
	wantNone(t, i, 0, stops...)
}

// The greatest numbers that a problem may have.
func TestGreatestNumbers(t *testing.T) {
	i := api.Inst{Cars: []api.Car{{Cap: api.MaxCap, End: api.MaxTime}}, Travel: make([][]int, api.MaxStops+1)}
	stops := []int{}
	for stop := 1; stop <= api.MaxStops; stop++ {
		demand := api.MaxDemand
		if stop%4 == 0 {
			demand = -api.MaxDemand
		}
		i.Stops = append(i.Stops, api.Stop{Demand: demand, Close: api.MaxTime})
		stops = append(stops, stop)
	}
	for k := range i.Travel {
		i.Travel[k] = make([]int, api.MaxStops+1)
	}
	i.Travel[5][0] = api.MaxTime
	wantTrip(t, i, 0, []int{1, 2, 3, 4, 5}, Trip{make([]int, 5), []int{20, 40, 60, 40, 60}, 1000, 1000})
	wantNone(t, i, 0, 1, 2, 3, 5)
	wantNone(t, i, 0, stops...)
	i.Stops[4].Service = 1
	wantNone(t, i, 0, 1, 2, 3, 4, 5)
	for k := range i.Stops {
		i.Stops[k].Demand = 0
	}
	i.Stops[4].Service = 0
	wantTrip(t, i, 0, stops, Trip{make([]int, 10), make([]int, 10), 0, 0})
}

// why is what forbids a route.
type why int

const (
	nothing why = iota
	noCar
	noStop
	twice
	unpaired
	late
	overloaded
	unloaded
	homeLate
	whys
)

// byWords tells the promise anew: a stop is begun at the greatest of what each place ahead of it forces, not one behind the other.
func byWords(i api.Inst, car int, stops []int) (Trip, why) {
	if car < 0 || car >= len(i.Cars) {
		return Trip{}, noCar
	}
	for _, stop := range stops {
		if stop < 1 || stop > len(i.Stops) {
			return Trip{}, noStop
		}
	}
	if sorted := slices.Sorted(slices.Values(stops)); len(slices.Compact(sorted)) < len(stops) {
		return Trip{}, twice
	}
	for _, pair := range i.Pairs {
		first, second := slices.Index(stops, pair[0]), slices.Index(stops, pair[1])
		if (first < 0) != (second < 0) || first > second {
			return Trip{}, unpaired
		}
	}
	places := append(append([]int{0}, stops...), 0)
	var out Trip
	for to := 1; to < len(places); to++ {
		out.Cost += i.Travel[places[to-1]][places[to]]
		at := forced(i, i.Cars[car], places[:to+1])
		if to == len(places)-1 {
			out.Home = at
			break
		}
		load := 0
		for _, stop := range places[1 : to+1] {
			load += i.Stops[stop-1].Demand
		}
		switch {
		case at > i.Stops[places[to]-1].Close:
			return Trip{}, late
		case load > i.Cars[car].Cap:
			return Trip{}, overloaded
		case load < 0:
			return Trip{}, unloaded
		}
		out.Arrive, out.Load = append(out.Arrive, at), append(out.Load, load)
	}
	if out.Home > i.Cars[car].End {
		return Trip{}, homeLate
	}
	return out, nothing
}

// forced is when the last of the places can be begun (the depot: reached).
func forced(i api.Inst, car api.Car, places []int) int {
	most, after := 0, 0
	for at := len(places) - 1; at >= 0; at-- {
		opens := 0
		switch {
		case at == 0:
			opens = car.Start
		case places[at] > 0:
			opens = i.Stops[places[at]-1].Open
		}
		// after: from the beginning of this place to that of the last one, if nobody waits.
		if at < len(places)-1 {
			after += i.Travel[places[at]][places[at+1]]
		}
		if at > 0 && at < len(places)-1 {
			after += i.Stops[places[at]-1].Service
		}
		most = max(most, opens+after)
	}
	return most
}

// wantByWords fails unless Eval and Cost answer what the words say, and answers what forbids the route.
func wantByWords(t *testing.T, i api.Inst, car int, stops []int) why {
	t.Helper()
	want, reason := byWords(i, car, stops)
	got, ok := Eval(i, car, stops...)
	if ok != (reason == nothing) || !same(got, want) {
		t.Fatalf("%+v, car %d, stops %v: %v, %v; want %v, %d", i, car, stops, got, ok, want, reason)
	}
	if ok && got.Cost != Cost(i, stops...) {
		t.Fatalf("%+v, stops %v: %d, but Cost = %d", i, stops, got.Cost, Cost(i, stops...))
	}
	return reason
}

func wantEachWhy(t *testing.T, counts [whys]int, least int) {
	t.Helper()
	for reason, count := range counts {
		if count < least {
			t.Errorf("only %d routes of kind %d: %v", count, reason, counts)
		}
	}
}

// All lists of up to five numbers, those of no stop among them.
func TestEvalOfAllShortRoutes(t *testing.T) {
	var counts [whys]int
	var grow func(stops []int, length int)
	grow = func(stops []int, length int) {
		for car := -1; car <= 3; car++ {
			counts[wantByWords(t, sample(), car, stops)]++
		}
		if length == 0 {
			return
		}
		for stop := range 8 {
			grow(append(slices.Clone(stops), stop), length-1)
		}
	}
	grow(nil, 5)
	wantEachWhy(t, counts, 5)
}

// randomInst is a problem that Check takes, in which many a route can be driven.
func randomInst(r *rand.Rand) api.Inst {
	var i api.Inst
	for range 1 + r.Intn(api.MaxCars) {
		start := r.Intn(20)
		i.Cars = append(i.Cars, api.Car{Cap: r.Intn(20), Start: start, End: start + r.Intn(100)})
	}
	for range r.Intn(api.MaxStops + 1) {
		open := r.Intn(40)
		i.Stops = append(i.Stops, api.Stop{Demand: r.Intn(9) - 3, Open: open, Close: open + r.Intn(60), Service: r.Intn(5)})
	}
	order := r.Perm(len(i.Stops))
	for range r.Intn(len(i.Stops)/2 + 1) {
		first, second := order[0], order[1]
		order = order[2:]
		i.Stops[first].Demand = r.Intn(6)
		i.Stops[second].Demand = -i.Stops[first].Demand
		i.Pairs = append(i.Pairs, [2]int{first + 1, second + 1})
	}
	for from := range len(i.Stops) + 1 {
		row := make([]int, len(i.Stops)+1)
		for to := range row {
			if to != from {
				row[to] = r.Intn(12)
			}
		}
		i.Travel = append(i.Travel, row)
	}
	return i
}

// randomRoute is mostly of whole pairs, in their order.
func randomRoute(r *rand.Rand, i api.Inst) []int {
	var stops []int
	for range r.Intn(5) {
		stop := 1 + r.Intn(len(i.Stops)+1)
		if r.Intn(20) > 0 && (stop > len(i.Stops) || slices.Contains(stops, stop)) {
			continue
		}
		mate := inst.Mate(i, stop)
		if mate > 0 && r.Intn(10) > 0 {
			if !inst.First(i, stop) {
				stop, mate = mate, stop
			}
			at := r.Intn(len(stops) + 1)
			stops = slices.Insert(stops, at, stop)
			stops = slices.Insert(stops, at+1+r.Intn(len(stops)-at), mate)
			continue
		}
		stops = slices.Insert(stops, r.Intn(len(stops)+1), stop)
	}
	return stops
}

func TestEvalOfRandomRoutes(t *testing.T) {
	r := rand.New(rand.NewSource(1))
	var counts [whys]int
	for range 4000 {
		i := randomInst(r)
		if e := inst.Check(i); e != api.OK {
			t.Fatalf("%+v: %d", i, e)
		}
		for range 20 {
			car := r.Intn(len(i.Cars))
			if r.Intn(20) == 0 {
				car = len(i.Cars)
			}
			counts[wantByWords(t, i, car, randomRoute(r, i))]++
		}
	}
	wantEachWhy(t, counts, 500)
}

// No call panics at a problem that is none, and there is nothing to be driven in it.
func TestProblemsThatAreNone(t *testing.T) {
	problems := []api.Inst{{}, {Cars: make([]api.Car, 1)}, {Stops: make([]api.Stop, 1000)}, {Travel: [][]int{nil, {}}}}
	for _, spoil := range []func(i *api.Inst){
		func(i *api.Inst) { i.Cars = nil },
		func(i *api.Inst) { i.Cars[0].End = -1 },
		func(i *api.Inst) { i.Stops = i.Stops[:3] },
		func(i *api.Inst) { i.Stops = append(i.Stops, make([]api.Stop, 50)...) },
		func(i *api.Inst) { i.Stops[1].Service = math.MaxInt },
		func(i *api.Inst) { i.Pairs = [][2]int{{math.MinInt, math.MaxInt}} },
		func(i *api.Inst) { i.Pairs = [][2]int{{2, 99}, {2, -1}} },
		func(i *api.Inst) { i.Pairs = [][2]int{{99, 2}} },
		func(i *api.Inst) { i.Travel = nil },
		func(i *api.Inst) { i.Travel = i.Travel[:2] },
		func(i *api.Inst) { i.Travel[2] = i.Travel[2][:0] },
		func(i *api.Inst) { i.Travel[0] = nil },
		func(i *api.Inst) { i.Travel[0][2] = math.MaxInt },
	} {
		i := sample()
		spoil(&i)
		problems = append(problems, i)
	}
	for _, i := range problems {
		for _, stops := range [][]int{nil, {2}, {4, 1}, {5, 6}, {2, 3}, {6}, {7}, {40}, {0}, {-1}, {math.MinInt, math.MaxInt}, {2, 2}} {
			for _, car := range []int{0, 1, 2, -1, 3, math.MinInt, math.MaxInt} {
				wantNone(t, i, car, stops...)
			}
			if got := Cost(i, stops...); got != 0 {
				t.Errorf("%+v: Cost of %v = %d", i, stops, got)
			}
		}
	}
}

func TestWhatIsHandedInIsNotChanged(t *testing.T) {
	i := sample()
	i.Cars = append(i.Cars, api.Car{Cap: 60, End: 1000})[:3]
	i.Stops = append(i.Stops, api.Stop{Close: 1000})[:6]
	i.Pairs = append(i.Pairs, [2]int{2, 3})[:2]
	memory := []int{2, 4, 3, 1, 4, -7}
	stops := memory[:4]
	want := Trip{[]int{10, 16, 40, 50}, []int{4, 9, 8, 3}, 27, 57}
	wantTrip(t, i, 0, stops, want)
	wantTrip(t, i, 0, stops[:1], Trip{[]int{10}, []int{4}, 12, 18})
	wantNone(t, i, 0, stops[:2]...)
	wantNone(t, i, 3)
	wantNone(t, i, 0, 7)
	if !reflect.DeepEqual(i, sample()) || !slices.Equal(memory, []int{2, 4, 3, 1, 4, -7}) {
		t.Errorf("changed to %+v, %v", i, memory)
	}
	if i.Cars[:4][3] != (api.Car{Cap: 60, End: 1000}) || i.Stops[:7][6] != (api.Stop{Close: 1000}) || i.Pairs[:3][2] != [2]int{2, 3} {
		t.Error("written behind a list's length")
	}
}

func TestWhatIsHandedOutIsNewMemory(t *testing.T) {
	i, stops := sample(), []int{2, 4, 3, 1}
	want := Trip{[]int{10, 16, 40, 50}, []int{4, 9, 8, 3}, 27, 57}
	first, _ := Eval(i, 0, stops...)
	second, _ := Eval(i, 0, stops...)
	for _, list := range [][]int{first.Arrive, first.Load} {
		list = list[:cap(list)]
		for k := range list {
			list[k] = -1
		}
	}
	if !same(second, want) {
		t.Errorf("changed to %v", second)
	}
	for k := range second.Arrive[:cap(second.Arrive)] {
		second.Arrive[:cap(second.Arrive)][k] = -1
	}
	if !slices.Equal(second.Load, want.Load) {
		t.Errorf("one list's memory is the other one's: %v", second)
	}
	stops[0], i.Travel[0][2], i.Stops[1].Demand = 1, 500, 20
	if !slices.Equal(second.Load, want.Load) || second.Cost != 27 || second.Home != 57 {
		t.Errorf("what was handed in is kept: %v", second)
	}
	if !reflect.DeepEqual(stops, []int{1, 4, 3, 1}) || i.Travel[0][2] != 500 {
		t.Errorf("what was handed in is handed out: %v", stops)
	}
	wantTrip(t, sample(), 0, []int{2, 4, 3, 1}, want)
}
