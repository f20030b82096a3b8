package tab

import (
	"math"
	"math/rand"
	"reflect"
	"slices"
	"testing"

	"drayman/api"
	"drayman/inst"
	"drayman/trip"
)

// sample is a problem of three cars and six stops, whose ways back are not their ways there: 4 and 1 are a pair that is loaded, 5 and 6 one that is not, 2 is loaded and closes early, 3 is unloaded and opens late.
func sample() api.Inst {
	return api.Inst{
		Cars: []api.Car{{Cap: 9, Start: 0, End: 100}, {Cap: 6, Start: 20, End: 47}, {Cap: 0, Start: 50, End: 65}},
		Stops: []api.Stop{
			{Demand: -5, Open: 0, Close: 90, Service: 2},
			{Demand: 4, Open: 10, Close: 30, Service: 0},
			{Demand: -1, Open: 40, Close: 60, Service: 6},
			{Demand: 5, Open: 0, Close: 90, Service: 3},
			{Demand: 0, Open: 0, Close: 100, Service: 1},
			{Demand: 0, Open: 0, Close: 100, Service: 1},
		},
		Pairs: [][2]int{{4, 1}, {5, 6}},
		Travel: [][]int{
			{0, 7, 4, 9, 3, 8, 6},
			{5, 0, 2, 6, 4, 3, 7},
			{8, 3, 0, 5, 6, 2, 9},
			{1, 4, 7, 0, 2, 6, 5},
			{9, 2, 3, 8, 0, 5, 4},
			{2, 6, 5, 3, 7, 0, 1},
			{4, 9, 6, 1, 5, 7, 0},
		},
	}
}

// setOf is the set of the stops, summed up.
func setOf(stops ...int) uint32 {
	sum := 0.0
	for _, stop := range stops {
		sum += math.Pow(2, float64(stop))
	}
	return uint32(sum)
}

// headOf is the head of the stops, made one stop behind the other.
func headOf(i api.Inst, car int, stops ...int) Head {
	h := Begin(i, car)
	for _, stop := range stops {
		h = Extend(i, car, h, stop)
	}
	return h
}

// tailOf is the tail of the stops, made one stop ahead of the other.
func tailOf(i api.Inst, car int, stops ...int) Tail {
	t := End(i, car)
	for at := range stops {
		t = Before(i, car, stops[len(stops)-1-at], t)
	}
	return t
}

func wantHead(t *testing.T, i api.Inst, car int, stops []int, want Head) {
	t.Helper()
	if got := headOf(i, car, stops...); got != want {
		t.Errorf("car %d, head of %v: %+v; want %+v", car, stops, got, want)
	}
	if got := Heads(i, car, stops...); len(got) != len(stops)+1 || got[len(stops)] != want {
		t.Errorf("car %d, Heads of %v: %+v; want %+v at last", car, stops, got, want)
	}
}

func wantTail(t *testing.T, i api.Inst, car int, stops []int, want Tail) {
	t.Helper()
	if got := tailOf(i, car, stops...); got != want {
		t.Errorf("car %d, tail of %v: %+v; want %+v", car, stops, got, want)
	}
	if got := Tails(i, car, stops...); len(got) != len(stops)+1 || got[0] != want {
		t.Errorf("car %d, Tails of %v: %+v; want %+v at first", car, stops, got, want)
	}
}

func wantMeet(t *testing.T, i api.Inst, car int, ahead, behind []int, want int) {
	t.Helper()
	if cost, ok := Meet(i, car, headOf(i, car, ahead...), tailOf(i, car, behind...)); cost != want || !ok {
		t.Errorf("car %d, %v then %v: %d, %v; want %d", car, ahead, behind, cost, ok, want)
	}
}

// wantNoMeet fails unless the head and the tail are OK, but do not make a route.
func wantNoMeet(t *testing.T, i api.Inst, car int, ahead, behind []int) {
	t.Helper()
	h, x := headOf(i, car, ahead...), tailOf(i, car, behind...)
	if cost, ok := Meet(i, car, h, x); cost != 0 || ok || !h.OK || !x.OK {
		t.Errorf("car %d, %v then %v: %d, %v, of %+v and %+v", car, ahead, behind, cost, ok, h, x)
	}
}

func TestSampleIsTaken(t *testing.T) {
	if e := inst.Check(sample()); e != api.OK {
		t.Fatal(e)
	}
}

func TestBeginAndEnd(t *testing.T) {
	for car, c := range sample().Cars {
		if got := Begin(sample(), car); got != (Head{OK: true, Leave: c.Start}) {
			t.Errorf("Begin of car %d: %+v", car, got)
		}
		if got := End(sample(), car); got != (Tail{OK: true, Late: c.End}) {
			t.Errorf("End of car %d: %+v", car, got)
		}
	}
}

func TestNoSuchCar(t *testing.T) {
	i := sample()
	h, x := headOf(i, 0, 2), tailOf(i, 0, 2)
	for _, car := range []int{-1, 3, 4, math.MinInt, math.MaxInt} {
		if got := Begin(i, car); got != (Head{}) {
			t.Errorf("Begin of car %d: %+v", car, got)
		}
		if got := End(i, car); got != (Tail{}) {
			t.Errorf("End of car %d: %+v", car, got)
		}
		if got := Extend(i, car, h, 5); got != (Head{}) {
			t.Errorf("Extend of car %d: %+v", car, got)
		}
		if got := Before(i, car, 2, End(i, 0)); got != (Tail{}) {
			t.Errorf("Before of car %d: %+v", car, got)
		}
		if heads, tails := Heads(i, car, 4, 1), Tails(i, car, 4, 1); len(heads) != 0 || len(tails) != 0 {
			t.Errorf("car %d: %+v, %+v", car, heads, tails)
		}
		if heads, tails := Heads(i, car), Tails(i, car); len(heads) != 0 || len(tails) != 0 {
			t.Errorf("car %d: %+v, %+v", car, heads, tails)
		}
		if cost, ok := Meet(i, car, Begin(i, 0), x); cost != 0 || ok {
			t.Errorf("Meet of car %d: %d, %v", car, cost, ok)
		}
	}
}

func TestExtend(t *testing.T) {
	for _, c := range []struct {
		car   int
		stops []int
		want  Head
	}{
		{0, []int{4}, Head{true, 4, 6, 5, setOf(4), setOf(4), 3}},
		{1, []int{4}, Head{true, 4, 26, 5, setOf(4), setOf(4), 3}},
		{0, []int{4, 1}, Head{true, 1, 10, 0, 0, setOf(4, 1), 5}},
		{0, []int{2}, Head{true, 2, 10, 4, 0, setOf(2), 4}},       // waits for it to open
		{1, []int{2}, Head{true, 2, 24, 4, 0, setOf(2), 4}},       // comes behind its opening
		{0, []int{2, 3}, Head{true, 3, 46, 3, 0, setOf(2, 3), 9}}, // waits once more
		{2, []int{5}, Head{true, 5, 59, 0, setOf(5), setOf(5), 8}},
		{2, []int{5, 6}, Head{true, 6, 61, 0, 0, setOf(5, 6), 9}},
		{0, []int{4, 5}, Head{true, 5, 12, 5, setOf(4, 5), setOf(4, 5), 8}},
		{0, []int{4, 5, 1}, Head{true, 1, 20, 0, setOf(5), setOf(1, 4, 5), 14}},
		{0, []int{4, 5, 6}, Head{true, 6, 14, 5, setOf(4), setOf(4, 5, 6), 9}},
		{0, []int{2, 4, 3, 5, 1, 6}, Head{true, 6, 69, 3, 0, setOf(1, 2, 3, 4, 5, 6), 37}},
	} {
		wantHead(t, sample(), c.car, c.stops, c.want)
	}
}

// A stop is begun at its Open at the earliest, and by its Close.
func TestExtendAtOpenAndClose(t *testing.T) {
	for _, c := range []struct {
		start int
		want  Head
	}{
		{5, Head{true, 2, 10, 4, 0, setOf(2), 4}},
		{6, Head{true, 2, 10, 4, 0, setOf(2), 4}},
		{7, Head{true, 2, 11, 4, 0, setOf(2), 4}},
		{25, Head{true, 2, 29, 4, 0, setOf(2), 4}},
		{26, Head{true, 2, 30, 4, 0, setOf(2), 4}},
		{27, Head{}},
	} {
		i := sample()
		i.Cars[0].Start = c.start
		wantHead(t, i, 0, []int{2}, c.want)
	}
	i := sample()
	i.Stops[3].Close = 15 // 2 is left at 10, 4 is 6 away
	wantHead(t, i, 0, []int{2, 4}, Head{})
	i.Stops[3].Close = 16
	wantHead(t, i, 0, []int{2, 4}, Head{true, 4, 19, 9, setOf(4), setOf(2, 4), 10})
}

func TestExtendAtCapAndNothing(t *testing.T) {
	i := sample()
	want := Head{true, 4, 19, 9, setOf(4), setOf(2, 4), 10}
	wantHead(t, i, 0, []int{2, 4}, want) // just to Cap
	i.Cars[0].Cap = 8
	wantHead(t, i, 0, []int{2, 4}, Head{})
	i = sample()
	i.Stops[2].Demand = -4
	wantHead(t, i, 0, []int{2, 3}, Head{true, 3, 46, 0, 0, setOf(2, 3), 9})
	i.Stops[2].Demand = -5
	wantHead(t, i, 0, []int{2, 3}, Head{})
	wantHead(t, sample(), 0, []int{3}, Head{})
}

// A head asks for nothing of the way home.
func TestHeadPastTheEnd(t *testing.T) {
	i := sample()
	i.Cars[0].End = 0
	wantHead(t, i, 0, []int{4, 1}, Head{true, 1, 10, 0, 0, setOf(4, 1), 5})
}

func TestExtendRefuses(t *testing.T) {
	for _, stops := range [][]int{
		{2, 2}, {4, 4}, {4, 1, 1}, {4, 1, 4}, {5, 6, 5}, // in it already
		{1}, {6}, {2, 1}, {5, 1}, {4, 6}, {4, 1, 6}, // seconds without their firsts among Open
		{0}, {-1}, {7}, {31}, {32}, {64}, {math.MinInt}, {math.MaxInt}, {4, 0}, {4, 7}, // no such stops
		{2, 2, 4}, {1, 4}, {7, 4}, {3, 2}, // behind one that is not OK
	} {
		wantHead(t, sample(), 0, stops, Head{})
	}
	if got := Extend(sample(), 0, Head{}, 4); got != (Head{}) {
		t.Errorf("%+v", got)
	}
	if got := Extend(sample(), 0, Head{Last: 4, Leave: 6, Load: 5, Open: setOf(4), Set: setOf(4), Cost: 3}, 1); got != (Head{}) {
		t.Errorf("%+v", got)
	}
}

func TestBefore(t *testing.T) {
	for _, c := range []struct {
		car   int
		stops []int
		want  Tail
	}{
		{0, []int{1}, Tail{true, 1, 90, -5, 0, setOf(4), setOf(1), 5}},
		{1, []int{1}, Tail{true, 1, 40, -5, 0, setOf(4), setOf(1), 5}},
		{0, []int{4, 1}, Tail{true, 4, 85, 0, 5, 0, setOf(4, 1), 7}},
		{1, []int{4, 1}, Tail{true, 4, 35, 0, 5, 0, setOf(4, 1), 7}},
		{0, []int{2}, Tail{true, 2, 30, 0, 4, 0, setOf(2), 8}},
		{0, []int{3}, Tail{true, 3, 60, -1, 0, 0, setOf(3), 1}},
		{1, []int{3}, Tail{true, 3, 40, -1, 0, 0, setOf(3), 1}},
		{0, []int{2, 3}, Tail{true, 2, 30, 0, 4, 0, setOf(2, 3), 6}},
		{0, []int{3, 1}, Tail{true, 3, 60, -6, 0, setOf(4), setOf(3, 1), 9}},
		{0, []int{4, 3, 1}, Tail{true, 4, 49, -1, 5, 0, setOf(4, 3, 1), 17}},
		{0, []int{3, 4, 1}, Tail{true, 3, 60, -1, 4, 0, setOf(4, 3, 1), 9}},
		{0, []int{1, 6}, Tail{true, 1, 86, -5, 0, setOf(4, 5), setOf(1, 6), 11}},
		{0, []int{5, 1, 6}, Tail{true, 5, 79, -5, 0, setOf(4), setOf(1, 5, 6), 17}},
		{0, []int{6, 2, 1}, Tail{true, 6, 23, -1, 4, setOf(4, 5), setOf(1, 2, 6), 14}},
		{2, []int{6}, Tail{true, 6, 60, 0, 0, setOf(5), setOf(6), 4}},
	} {
		wantTail(t, sample(), c.car, c.stops, c.want)
	}
}

// Late is bounded by the stop's own Close, and by what comes behind.
func TestLateAtTheEdge(t *testing.T) {
	for _, c := range []struct{ end, late int }{{101, 90}, {98, 90}, {97, 90}, {96, 89}, {95, 88}} {
		i := sample()
		i.Cars[0].End = c.end
		wantTail(t, i, 0, []int{1}, Tail{true, 1, c.late, -5, 0, setOf(4), setOf(1), 5})
	}
	// 3 takes 6, home is 1 away
	i := sample()
	i.Cars[0].End = 47
	wantTail(t, i, 0, []int{3}, Tail{true, 3, 40, -1, 0, 0, setOf(3), 1})
	i.Cars[0].End = 46
	wantTail(t, i, 0, []int{3}, Tail{})
	// 2 closes at 30, 3 is left 6 behind its Open, 2 is 7 away
	i = sample()
	i.Stops[2].Open = 17
	wantTail(t, i, 0, []int{3, 2}, Tail{true, 3, 17, -1, 3, 0, setOf(3, 2), 15})
	i.Stops[2].Open = 18
	wantTail(t, i, 0, []int{3, 2}, Tail{})
	// 5 takes 1, 2 is 5 away and closes at 30
	wantTail(t, sample(), 0, []int{5, 2, 6}, Tail{true, 5, 24, 0, 4, 0, setOf(2, 5, 6), 18})
	i = sample()
	i.Stops[1].Close = 10
	i.Travel[5][2] = 9
	wantTail(t, i, 0, []int{5, 2, 6}, Tail{true, 5, 0, 0, 4, 0, setOf(2, 5, 6), 22})
	i.Travel[5][2] = 10
	wantTail(t, i, 0, []int{5, 2, 6}, Tail{})
}

// Low and High are of all that is loaded from the tail's first place on, one stop behind the other, and of nothing.
func TestLowAndHigh(t *testing.T) {
	i := api.Inst{Cars: []api.Car{{}}, Travel: make([][]int, 7)}
	for k := range i.Travel {
		i.Travel[k] = make([]int, 7)
	}
	for _, demand := range []int{5, -9, 20, 3, -20, -7} {
		i.Stops = append(i.Stops, api.Stop{Demand: demand})
	}
	for _, c := range []struct {
		stops     []int
		low, high int
	}{
		{nil, 0, 0},
		{[]int{1}, 0, 5},
		{[]int{2}, -9, 0},
		{[]int{1, 2}, -4, 5},
		{[]int{2, 1}, -9, 0},
		{[]int{2, 3}, -9, 11},
		{[]int{3, 2}, 0, 20},
		{[]int{1, 4}, 0, 8},
		{[]int{2, 6}, -16, 0},
		{[]int{1, 2, 3, 4, 5, 6}, -8, 19},
		{[]int{5, 6, 1, 4}, -27, 0},
		{[]int{3, 4, 1, 5, 6, 2}, -8, 28},
	} {
		if got := tailOf(i, 0, c.stops...); !got.OK || got.Low != c.low || got.High != c.high {
			t.Errorf("%v: %+v; want %d, %d", c.stops, got, c.low, c.high)
		}
	}
}

func TestBeforeRefuses(t *testing.T) {
	for _, stops := range [][]int{
		{2, 2}, {1, 1}, {4, 4, 1}, {1, 4, 1}, {4, 2, 4, 1}, {6, 5, 6}, // in it already
		{4}, {5}, {4, 2}, {4, 6}, {5, 1}, {5, 4, 1}, {5, 2, 1}, // firsts that are not in Need
		{0}, {-1}, {7}, {31}, {32}, {64}, {math.MinInt}, {math.MaxInt}, {0, 1}, {7, 1}, // no such stops
		{4, 4}, {1, 4}, {2, 7}, {1, 3, 2}, // ahead of one that is not OK
	} {
		wantTail(t, sample(), 0, stops, Tail{})
	}
	if got := Before(sample(), 0, 2, Tail{}); got != (Tail{}) {
		t.Errorf("%+v", got)
	}
	if got := Before(sample(), 0, 4, Tail{First: 1, Late: 90, Low: -5, Need: setOf(4), Set: setOf(1), Cost: 5}); got != (Tail{}) {
		t.Errorf("%+v", got)
	}
}

func TestHeads(t *testing.T) {
	begin := Head{OK: true}
	for _, c := range []struct {
		stops []int
		want  []Head
	}{
		{nil, []Head{begin}},
		{[]int{}, []Head{begin}},
		{[]int{4, 1}, []Head{begin, {true, 4, 6, 5, setOf(4), setOf(4), 3}, {true, 1, 10, 0, 0, setOf(4, 1), 5}}},
		{[]int{1, 4}, []Head{begin, {}, {}}},
		{[]int{2, 2, 4}, []Head{begin, {true, 2, 10, 4, 0, setOf(2), 4}, {}, {}}},
		{[]int{2, 7}, []Head{begin, {true, 2, 10, 4, 0, setOf(2), 4}, {}}},
	} {
		if got := Heads(sample(), 0, c.stops...); !slices.Equal(got, c.want) {
			t.Errorf("%v: %+v", c.stops, got)
		}
	}
	if got := Heads(sample(), 2); !slices.Equal(got, []Head{{OK: true, Leave: 50}}) {
		t.Errorf("%+v", got)
	}
}

func TestTails(t *testing.T) {
	end := Tail{OK: true, Late: 100}
	for _, c := range []struct {
		stops []int
		want  []Tail
	}{
		{nil, []Tail{end}},
		{[]int{}, []Tail{end}},
		{[]int{4, 1}, []Tail{{true, 4, 85, 0, 5, 0, setOf(4, 1), 7}, {true, 1, 90, -5, 0, setOf(4), setOf(1), 5}, end}},
		{[]int{1, 4}, []Tail{{}, {}, end}},
		{[]int{3, 2, 2}, []Tail{{}, {}, {true, 2, 30, 0, 4, 0, setOf(2), 8}, end}},
		{[]int{0, 2}, []Tail{{}, {true, 2, 30, 0, 4, 0, setOf(2), 8}, end}},
	} {
		if got := Tails(sample(), 0, c.stops...); !slices.Equal(got, c.want) {
			t.Errorf("%v: %+v", c.stops, got)
		}
	}
	if got := Tails(sample(), 2); !slices.Equal(got, []Tail{{OK: true, Late: 65}}) {
		t.Errorf("%+v", got)
	}
}

func TestMeet(t *testing.T) {
	for car := range sample().Cars {
		wantMeet(t, sample(), car, nil, nil, 0)
	}
	for _, c := range []struct {
		stops []int
		cost  int
	}{
		{[]int{4, 1}, 10},
		{[]int{2}, 12},
		{[]int{2, 3}, 10},
		{[]int{2, 4, 3, 1}, 27},
		{[]int{5, 4, 6, 1}, 33},
		{[]int{4, 5, 1, 6}, 25},
		{[]int{2, 4, 3, 5, 1, 6}, 41},
	} {
		for at := range len(c.stops) + 1 {
			wantMeet(t, sample(), 0, c.stops[:at], c.stops[at:], c.cost)
		}
	}
}

func TestMeetOfPairsParted(t *testing.T) {
	wantMeet(t, sample(), 0, []int{4, 5}, []int{1, 6}, 25)
	wantMeet(t, sample(), 0, []int{4}, []int{5, 6, 1}, 23)
	for _, c := range [][2][]int{
		{{4}, nil}, {{4}, {2}}, {{4}, {6}}, {{4, 5}, {1}}, {{4, 5}, {6}}, {{4, 5}, {2}}, // firsts without their seconds
		{nil, {1}}, {{2}, {1}}, {{5}, {1}}, {{5}, {1, 6}}, {{4, 1}, {6}}, // seconds without their firsts
	} {
		wantNoMeet(t, sample(), 0, c[0], c[1])
	}
}

func TestMeetOfOneStopInBoth(t *testing.T) {
	i := sample()
	i.Stops[1].Close = 100
	for _, c := range [][2][]int{
		{{2}, {2}}, {{4, 1}, {4, 1}}, {{4, 1}, {2, 4, 1}}, {{2, 4}, {2, 1}}, {{5, 6}, {5, 6}}, {{4, 2}, {2, 1}},
	} {
		wantNoMeet(t, i, 0, c[0], c[1])
	}
	// with its second ahead already, a first has nothing to bring
	wantNoMeet(t, i, 0, []int{4, 1}, []int{1})
}

func TestMeetAtLate(t *testing.T) {
	// 3 is left at 46 at the earliest; the tail of 4 and 1 is 2 away
	i := sample()
	i.Cars[0].End = 60 // by 5, 2, 2 and 3 is 4 begun at 48 at the latest
	wantMeet(t, i, 0, []int{2, 3}, []int{4, 1}, 18)
	i.Cars[0].End = 59
	wantNoMeet(t, i, 0, []int{2, 3}, []int{4, 1})
	// home in time, and one later
	i.Cars[0].End = 47
	wantMeet(t, i, 0, []int{2, 3}, nil, 10)
	i.Cars[0].End = 46
	wantNoMeet(t, i, 0, []int{2, 3}, nil)
	// from the depot
	i = sample()
	i.Cars[0].Start = 26
	wantMeet(t, i, 0, nil, []int{2}, 12)
	i.Cars[0].Start = 27
	wantNoMeet(t, i, 0, nil, []int{2})
}

func TestMeetAtCapAndNothing(t *testing.T) {
	wantMeet(t, sample(), 0, []int{2}, []int{4, 1}, 17) // just to Cap
	i := sample()
	i.Cars[0].Cap = 8
	wantNoMeet(t, i, 0, []int{2}, []int{4, 1})
	wantMeet(t, i, 0, []int{2}, []int{3, 4, 1}, 18)
	i = sample()
	i.Stops[2].Demand = -4
	wantMeet(t, i, 0, []int{2}, []int{3}, 10)
	i.Stops[2].Demand = -5
	wantNoMeet(t, i, 0, []int{2}, []int{3})
	wantNoMeet(t, sample(), 0, nil, []int{3})
	wantNoMeet(t, sample(), 0, []int{4}, []int{3, 1})
}

func TestMeetOfOnesThatAreNotOK(t *testing.T) {
	i := sample()
	for _, c := range []struct {
		h Head
		x Tail
	}{
		{Head{}, End(i, 0)}, {Begin(i, 0), Tail{}}, {Head{}, Tail{}},
		{headOf(i, 0, 1), tailOf(i, 0, 2)}, {headOf(i, 0, 2), tailOf(i, 0, 4)},
	} {
		if cost, ok := Meet(i, 0, c.h, c.x); cost != 0 || ok {
			t.Errorf("%+v, %+v: %d, %v", c.h, c.x, cost, ok)
		}
	}
}

// whole tells whether all stops are there, and none comes twice.
func whole(i api.Inst, stops []int) bool {
	for at, stop := range stops {
		if stop < 1 || stop > len(i.Stops) || slices.Contains(stops[:at], stop) {
			return false
		}
	}
	return true
}

// headByWords tells anew what a head is, all of it of the whole list; the times are those of a car that looks again at each minute.
func headByWords(i api.Inst, car int, stops []int) Head {
	if !whole(i, stops) {
		return Head{}
	}
	h := Head{OK: true, Leave: i.Cars[car].Start, Set: setOf(stops...)}
	for at, stop := range stops {
		begun := h.Leave + i.Travel[h.Last][stop]
		for begun < i.Stops[stop-1].Open {
			begun++
		}
		h.Load += i.Stops[stop-1].Demand
		if begun > i.Stops[stop-1].Close || h.Load < 0 || h.Load > i.Cars[car].Cap {
			return Head{}
		}
		for _, pair := range i.Pairs {
			if pair[1] == stop && !slices.Contains(stops[:at], pair[0]) {
				return Head{}
			}
		}
		h.Cost += i.Travel[h.Last][stop]
		h.Last, h.Leave = stop, begun+i.Stops[stop-1].Service
	}
	for _, pair := range i.Pairs {
		if slices.Contains(stops, pair[0]) && !slices.Contains(stops, pair[1]) {
			h.Open += setOf(pair[0])
		}
	}
	return h
}

// inTime tells whether the stops can be driven from the first one's beginning on.
func inTime(i api.Inst, car, begun int, stops []int) bool {
	for at, stop := range stops {
		begun = max(begun, i.Stops[stop-1].Open)
		if begun > i.Stops[stop-1].Close {
			return false
		}
		next := 0
		if at < len(stops)-1 {
			next = stops[at+1]
		}
		begun += i.Stops[stop-1].Service + i.Travel[stop][next]
	}
	return begun <= i.Cars[car].End
}

// tailByWords tells anew what a tail is; its Late is the last minute that is in time.
func tailByWords(i api.Inst, car int, stops []int) Tail {
	if !whole(i, stops) {
		return Tail{}
	}
	if len(stops) == 0 {
		return Tail{OK: true, Late: i.Cars[car].End}
	}
	t := Tail{OK: true, First: stops[0], Set: setOf(stops...)}
	for _, pair := range i.Pairs {
		first, second := slices.Index(stops, pair[0]), slices.Index(stops, pair[1])
		switch {
		case first >= 0 && second < first:
			return Tail{}
		case second >= 0 && first < 0:
			t.Need += setOf(pair[0])
		}
	}
	for t.Late = i.Stops[t.First-1].Close; !inTime(i, car, t.Late, stops); t.Late-- {
		if t.Late == i.Stops[t.First-1].Open {
			return Tail{}
		}
	}
	load := 0
	for at, stop := range stops {
		load += i.Stops[stop-1].Demand
		t.Low, t.High = min(t.Low, load), max(t.High, load)
		next := append(slices.Clone(stops), 0)[at+1]
		t.Cost += i.Travel[stop][next]
	}
	return t
}

// wantByWords fails unless all heads and tails of the stops are what the words say, and two of them, parted anywhere, make a route just if trip.Eval does; it answers whether that is so.
func wantByWords(t *testing.T, i api.Inst, car int, stops []int) bool {
	t.Helper()
	heads, tails := Heads(i, car, stops...), Tails(i, car, stops...)
	if len(heads) != len(stops)+1 || len(tails) != len(stops)+1 {
		t.Fatalf("%v: %d heads, %d tails", stops, len(heads), len(tails))
	}
	want, can := trip.Eval(i, car, stops...)
	for at := range heads {
		if want := headByWords(i, car, stops[:at]); heads[at] != want || headOf(i, car, stops[:at]...) != want {
			t.Fatalf("%+v, car %d, head of %v: %+v; want %+v", i, car, stops[:at], heads[at], want)
		}
		if want := tailByWords(i, car, stops[at:]); tails[at] != want || tailOf(i, car, stops[at:]...) != want {
			t.Fatalf("%+v, car %d, tail of %v: %+v; want %+v", i, car, stops[at:], tails[at], want)
		}
		if cost, ok := Meet(i, car, heads[at], tails[at]); ok != can || cost != want.Cost {
			t.Fatalf("%+v, car %d, %v parted at %d: %d, %v; want %d, %v", i, car, stops, at, cost, ok, want.Cost, can)
		}
	}
	return can
}

// All lists of up to five numbers, those of no stop among them.
func TestAllShortRoutes(t *testing.T) {
	driven := 0
	var grow func(stops []int, length int)
	grow = func(stops []int, length int) {
		for car := range sample().Cars {
			if wantByWords(t, sample(), car, stops) {
				driven++
			}
		}
		if length == 0 {
			return
		}
		for stop := range 8 {
			grow(append(slices.Clone(stops), stop), length-1)
		}
	}
	grow(nil, 5)
	if driven < 50 {
		t.Errorf("only %d are driven", driven)
	}
}

// randomInst is a problem that Check takes, in which many a route can be driven.
func randomInst(r *rand.Rand) api.Inst {
	var i api.Inst
	for range 1 + r.Intn(api.MaxCars) {
		start := r.Intn(20)
		i.Cars = append(i.Cars, api.Car{Cap: r.Intn(20), Start: start, End: start + r.Intn(100)})
	}
	for range r.Intn(api.MaxStops + 1) {
		open := r.Intn(40)
		i.Stops = append(i.Stops, api.Stop{Demand: r.Intn(9) - 3, Open: open, Close: open + r.Intn(60), Service: r.Intn(5)})
	}
	order := r.Perm(len(i.Stops))
	for range r.Intn(len(i.Stops)/2 + 1) {
		first, second := order[0], order[1]
		order = order[2:]
		i.Stops[first].Demand = r.Intn(6)
		i.Stops[second].Demand = -i.Stops[first].Demand
		i.Pairs = append(i.Pairs, [2]int{first + 1, second + 1})
	}
	for from := range len(i.Stops) + 1 {
		row := make([]int, len(i.Stops)+1)
		for to := range row {
			if to != from {
				row[to] = r.Intn(12)
			}
		}
		i.Travel = append(i.Travel, row)
	}
	return i
}

// randomRoute is mostly of whole pairs, in their order.
func randomRoute(r *rand.Rand, i api.Inst) []int {
	var stops []int
	for range r.Intn(6) {
		stop := 1 + r.Intn(len(i.Stops)+1)
		if r.Intn(20) > 0 && (stop > len(i.Stops) || slices.Contains(stops, stop)) {
			continue
		}
		mate := inst.Mate(i, stop)
		if mate > 0 && r.Intn(10) > 0 {
			if !inst.First(i, stop) {
				stop, mate = mate, stop
			}
			at := r.Intn(len(stops) + 1)
			stops = slices.Insert(stops, at, stop)
			stops = slices.Insert(stops, at+1+r.Intn(len(stops)-at), mate)
			continue
		}
		stops = slices.Insert(stops, r.Intn(len(stops)+1), stop)
	}
	return stops
}

// Each head of one random route meets each tail of another one, and of itself.
func TestMeetOfRandomRoutes(t *testing.T) {
	r := rand.New(rand.NewSource(1))
	var driven, not, apart int
	for range 3000 {
		i := randomInst(r)
		if e := inst.Check(i); e != api.OK {
			t.Fatalf("%+v: %d", i, e)
		}
		car := r.Intn(len(i.Cars))
		one, other := randomRoute(r, i), randomRoute(r, i)
		wantByWords(t, i, car, one)
		wantByWords(t, i, car, other)
		for k, h := range Heads(i, car, one...) {
			for m, x := range Tails(i, car, other...) {
				stops := slices.Concat(one[:k], other[m:])
				want, can := trip.Eval(i, car, stops...)
				if cost, ok := Meet(i, car, h, x); ok != can || cost != want.Cost {
					t.Fatalf("%+v, car %d, %v then %v: %d, %v; want %d, %v", i, car, one[:k], other[m:], cost, ok, want.Cost, can)
				}
				switch {
				case can:
					driven++
				case h.OK && x.OK:
					apart++
				default:
					not++
				}
			}
		}
	}
	if driven < 2000 || apart < 2000 || not < 2000 {
		t.Errorf("%d are driven, %d not though both are OK, %d not at all", driven, apart, not)
	}
}

// All stops that there may be, in one route, with the greatest numbers.
func TestGreatestNumbers(t *testing.T) {
	i := api.Inst{Cars: []api.Car{{Cap: api.MaxCap, End: api.MaxTime}}, Travel: make([][]int, api.MaxStops+1)}
	stops := []int{}
	for stop := 1; stop <= api.MaxStops; stop++ {
		i.Stops = append(i.Stops, api.Stop{Demand: 6, Close: api.MaxTime})
		stops = append(stops, stop)
	}
	for k := range i.Travel {
		i.Travel[k] = make([]int, api.MaxStops+1)
	}
	i.Travel[0][1], i.Travel[10][0] = 400, 600
	wantHead(t, i, 0, stops, Head{true, 10, 400, 60, 0, 2046, 400})
	wantTail(t, i, 0, stops, Tail{true, 1, 400, 0, 60, 0, 2046, 600})
	for at := range len(stops) + 1 {
		wantMeet(t, i, 0, stops[:at], stops[at:], 1000)
	}
	i.Travel[10][0] = 601
	for at := range len(stops) + 1 {
		wantNoMeet(t, i, 0, stops[:at], stops[at:])
	}
}

// spoiltHeads are heads that no call made, by what is wrong in each: of the head of 2 and 4.
func spoiltHeads(i api.Inst) map[string]Head {
	heads := map[string]Head{}
	spoil := func(name string, change func(h *Head)) {
		h := headOf(i, 0, 2, 4)
		change(&h)
		heads[name] = h
	}
	spoil("not OK", func(h *Head) { h.OK = false })
	spoil("no such last place", func(h *Head) { h.Last = 7 })
	spoil("a last place below 0", func(h *Head) { h.Last = -1 })
	spoil("a last place far away", func(h *Head) { h.Last = math.MaxInt })
	spoil("a last place that is not in it", func(h *Head) { h.Last, h.Leave = 3, 50 })
	spoil("a last place past 32 digits", func(h *Head) { h.Last += 1 << 32 })
	spoil("the depot as last place", func(h *Head) { h.Last = 0 })
	spoil("left ahead of its Open", func(h *Head) { h.Leave = 2 })
	spoil("left far ahead", func(h *Head) { h.Leave = math.MinInt })
	spoil("left behind its Close", func(h *Head) { h.Leave = 94 })
	spoil("left far behind", func(h *Head) { h.Leave = math.MaxInt })
	spoil("other load", func(h *Head) { h.Load = 8 })
	spoil("a load that is too much", func(h *Head) { h.Set |= setOf(5); h.Open |= setOf(5); h.Load = math.MaxInt })
	spoil("nothing open", func(h *Head) { h.Open = 0 })
	spoil("too much open", func(h *Head) { h.Open |= setOf(5) })
	spoil("a second without its first", func(h *Head) { h.Set |= setOf(6) })
	spoil("a last place whose second is ahead", func(h *Head) { h.Set |= setOf(1); h.Open = 0; h.Load = 4 })
	spoil("no stops", func(h *Head) { h.Set = 0 })
	spoil("the depot in it", func(h *Head) { h.Set |= 1 })
	spoil("a stop that there is not", func(h *Head) { h.Set |= setOf(7) })
	spoil("a stop far away", func(h *Head) { h.Set |= setOf(31) })
	spoil("a cost below 0", func(h *Head) { h.Cost = -1 })
	spoil("a cost that takes longer", func(h *Head) { h.Cost = 17 })
	spoil("a cost without bounds", func(h *Head) { h.Cost = math.MaxInt })
	heads["loaded below 0"] = Head{true, 3, 46, -1, 0, setOf(3), 9}
	heads["another beginning"] = Begin(i, 1)
	heads["a beginning that costs"] = Head{OK: true, Cost: 1}
	heads["a beginning that is loaded"] = Head{OK: true, Load: 1}
	heads["a beginning elsewhere"] = Head{OK: true, Last: 9}
	return heads
}

// spoiltTails are the same of the tail of 3 and 1.
func spoiltTails(i api.Inst) map[string]Tail {
	tails := map[string]Tail{}
	spoil := func(name string, change func(x *Tail)) {
		x := tailOf(i, 0, 3, 1)
		change(&x)
		tails[name] = x
	}
	spoil("not OK", func(x *Tail) { x.OK = false })
	spoil("no such first place", func(x *Tail) { x.First = 7 })
	spoil("a first place below 0", func(x *Tail) { x.First = -1 })
	spoil("a first place far away", func(x *Tail) { x.First = math.MaxInt })
	spoil("a first place that is not in it", func(x *Tail) { x.First, x.Late = 2, 20 })
	spoil("a first place past 32 digits", func(x *Tail) { x.First += 1 << 32 })
	spoil("the depot as first place", func(x *Tail) { x.First = 0 })
	spoil("begun ahead of its Open", func(x *Tail) { x.Late = 39 })
	spoil("begun far ahead", func(x *Tail) { x.Late = math.MinInt })
	spoil("begun behind its Close", func(x *Tail) { x.Late = 61 })
	spoil("begun far behind", func(x *Tail) { x.Late = math.MaxInt })
	spoil("not so low", func(x *Tail) { x.Low = -5 })
	spoil("too low", func(x *Tail) { x.Low = -7 })
	spoil("too high", func(x *Tail) { x.High = 1 })
	spoil("not so high", func(x *Tail) { x.High = -1 })
	spoil("low without bounds", func(x *Tail) { x.Low = math.MinInt })
	spoil("high without bounds", func(x *Tail) { x.High = math.MaxInt })
	spoil("no need", func(x *Tail) { x.Need = 0 })
	spoil("too much need", func(x *Tail) { x.Need |= setOf(5) })
	spoil("a first without its second", func(x *Tail) { x.Set |= setOf(5) })
	spoil("a first place whose first is behind", func(x *Tail) { x.First = 1; x.Set |= setOf(4); x.Need = 0; x.Low, x.High = -1, 0 })
	spoil("no stops", func(x *Tail) { x.Set = 0 })
	spoil("the depot in it", func(x *Tail) { x.Set |= 1 })
	spoil("a stop that there is not", func(x *Tail) { x.Set |= setOf(7) })
	spoil("a stop far away", func(x *Tail) { x.Set |= setOf(31) })
	spoil("a cost below 0", func(x *Tail) { x.Cost = -1 })
	spoil("a cost that takes longer", func(x *Tail) { x.Cost = 33 })
	spoil("a cost without bounds", func(x *Tail) { x.Cost = math.MaxInt })
	tails["another end"] = End(i, 1)
	tails["an end that costs"] = Tail{OK: true, Late: 100, Cost: 1}
	tails["an end that is loaded"] = Tail{OK: true, Late: 100, High: 1}
	tails["an end elsewhere"] = Tail{OK: true, Late: 100, First: 9}
	return tails
}

// Heads and tails whose numbers can't be those of any are as ones that are not OK.
func TestHeadsAndTailsThatWereNotMade(t *testing.T) {
	i := sample()
	heads, tails := spoiltHeads(i), spoiltTails(i)
	for name, h := range heads {
		for stop := -1; stop <= 8; stop++ {
			if got := Extend(i, 0, h, stop); got != (Head{}) {
				t.Errorf("%s: %+v", name, got)
			}
		}
		for _, stops := range [][]int{nil, {1}, {3, 1}, {6}, {2}, {1, 6}} {
			if cost, ok := Meet(i, 0, h, tailOf(i, 0, stops...)); cost != 0 || ok {
				t.Errorf("%s, %v: %d, %v", name, stops, cost, ok)
			}
		}
	}
	for name, x := range tails {
		for stop := -1; stop <= 8; stop++ {
			if got := Before(i, 0, stop, x); got != (Tail{}) {
				t.Errorf("%s: %+v", name, got)
			}
		}
		for _, stops := range [][]int{nil, {4}, {2, 4}, {5}, {2}, {2, 4, 5}} {
			if cost, ok := Meet(i, 0, headOf(i, 0, stops...), x); cost != 0 || ok {
				t.Errorf("%s, %v: %d, %v", name, stops, cost, ok)
			}
		}
		for other, h := range heads {
			if cost, ok := Meet(i, 0, h, x); cost != 0 || ok {
				t.Errorf("%s, %s: %d, %v", other, name, cost, ok)
			}
		}
	}
	// at the edges of what may be, all is as of ones that were made
	h, x := headOf(i, 0, 2, 4), tailOf(i, 0, 3, 1)
	h.Cost = h.Leave - 3
	x.Cost = 100 - x.Late - 8
	if cost, ok := Meet(i, 0, h, x); !ok || cost != h.Cost+8+x.Cost {
		t.Errorf("%d, %v", cost, ok)
	}
}

// Those of another car are none of this one's, where their numbers tell.
func TestHeadsAndTailsOfAnotherCar(t *testing.T) {
	for _, c := range []struct {
		name string
		car  api.Car
	}{{"less Cap", api.Car{Cap: 4, End: 100}}, {"a later Start", api.Car{Cap: 9, Start: 1, End: 100}}} {
		i := sample()
		i.Cars[1] = c.car
		if got := Extend(i, 1, headOf(i, 0, 4), 1); got != (Head{}) {
			t.Errorf("%s: %+v", c.name, got)
		}
		if cost, ok := Meet(i, 1, headOf(i, 0, 4), tailOf(i, 1, 1)); cost != 0 || ok {
			t.Errorf("%s: %d, %v", c.name, cost, ok)
		}
	}
	i := sample()
	i.Cars[0].End = 46
	i.Cars[1] = api.Car{Cap: 9, End: 45}
	if got := Before(i, 1, 4, tailOf(i, 0, 1)); got != (Tail{}) {
		t.Errorf("%+v", got)
	}
	if cost, ok := Meet(i, 1, headOf(i, 1, 4), tailOf(i, 0, 1)); cost != 0 || ok {
		t.Errorf("%d, %v", cost, ok)
	}
}

// Where no way and no stop takes any time, still nothing comes ahead of what is not OK, nor behind it.
func TestNothingBesideWhatIsNotOK(t *testing.T) {
	i := api.Inst{Cars: make([]api.Car, 1), Stops: make([]api.Stop, 2), Travel: [][]int{{0, 0, 0}, {0, 0, 0}, {0, 0, 0}}}
	wantHead(t, i, 0, []int{1, 2}, Head{true, 2, 0, 0, 0, setOf(1, 2), 0})
	wantTail(t, i, 0, []int{1, 2}, Tail{true, 1, 0, 0, 0, 0, setOf(1, 2), 0})
	wantHead(t, i, 0, []int{3, 1}, Head{})
	wantTail(t, i, 0, []int{1, 3}, Tail{})
}

// No call panics at a problem that is none, and there is nothing in it.
func TestProblemsThatAreNone(t *testing.T) {
	problems := []api.Inst{{}, {Cars: make([]api.Car, 1)}, {Stops: make([]api.Stop, 1000)}, {Travel: [][]int{nil, {}}}}
	for _, spoil := range []func(i *api.Inst){
		func(i *api.Inst) { i.Cars = nil },
		func(i *api.Inst) { i.Cars[0].End = -1 },
		func(i *api.Inst) { i.Stops = i.Stops[:3] },
		func(i *api.Inst) { i.Stops = append(i.Stops, make([]api.Stop, 50)...) },
		func(i *api.Inst) { i.Stops[1].Service = math.MaxInt },
		func(i *api.Inst) { i.Pairs = [][2]int{{math.MinInt, math.MaxInt}} },
		func(i *api.Inst) { i.Pairs = [][2]int{{2, 99}, {2, -1}} },
		func(i *api.Inst) { i.Travel = nil },
		func(i *api.Inst) { i.Travel = i.Travel[:2] },
		func(i *api.Inst) { i.Travel[2] = i.Travel[2][:0] },
		func(i *api.Inst) { i.Travel[0][2] = math.MaxInt },
	} {
		i := sample()
		spoil(&i)
		problems = append(problems, i)
	}
	right := sample()
	for _, i := range problems {
		for _, car := range []int{0, 1, 2, -1, 3, math.MinInt, math.MaxInt} {
			if h, x := Begin(i, car), End(i, car); h != (Head{}) || x != (Tail{}) {
				t.Errorf("%+v: %+v, %+v", i, h, x)
			}
			for _, stop := range []int{1, 2, 6, 7, 40, 0, -1, math.MinInt, math.MaxInt} {
				h, x := Extend(i, car, headOf(right, 0, 4), stop), Before(i, car, stop, tailOf(right, 0, 1))
				if h != (Head{}) || x != (Tail{}) {
					t.Errorf("%+v: %+v, %+v", i, h, x)
				}
				if heads, tails := Heads(i, car, stop), Tails(i, car, stop); len(heads) != 0 || len(tails) != 0 {
					t.Errorf("%+v: %+v, %+v", i, heads, tails)
				}
			}
			if cost, ok := Meet(i, car, headOf(right, 0, 2), tailOf(right, 0, 4, 1)); cost != 0 || ok {
				t.Errorf("%+v: %d, %v", i, cost, ok)
			}
		}
	}
}

// Heads and tails of any numbers at all are taken without a panic.
func TestAnyNumbersAtAll(t *testing.T) {
	r := rand.New(rand.NewSource(2))
	some := []int{0, 1, -1, 4, 6, 7, 31, 32, 63, 64, 1000, math.MaxInt, math.MinInt, math.MaxInt - 1}
	any := func() int { return some[r.Intn(len(some))] }
	sets := []uint32{0, 1, 2, 4, 16, 18, 126, 127, 128, 1 << 31, math.MaxUint32}
	set := func() uint32 { return sets[r.Intn(len(sets))] }
	for range 200000 {
		h := Head{r.Intn(9) > 0, any(), any(), any(), set(), set(), any()}
		x := Tail{r.Intn(9) > 0, any(), any(), any(), any(), set(), set(), any()}
		Extend(sample(), any(), h, any())
		Before(sample(), any(), any(), x)
		if cost, ok := Meet(sample(), any(), h, x); !ok && cost != 0 {
			t.Fatalf("%+v, %+v: %d", h, x, cost)
		}
	}
}

func TestManyStops(t *testing.T) {
	stops := slices.Repeat([]int{2, 3, 9, -4}, 100000)
	heads, tails := Heads(sample(), 0, stops...), Tails(sample(), 0, stops...)
	if len(heads) != 400001 || len(tails) != 400001 {
		t.Fatal(len(heads), len(tails))
	}
	if !heads[2].OK || heads[3] != (Head{}) || heads[400000] != (Head{}) || tails[0] != (Tail{}) || !tails[400000].OK {
		t.Error("they are not what they are of few stops")
	}
}

func TestWhatIsHandedInIsNotChanged(t *testing.T) {
	i := sample()
	i.Cars = append(i.Cars, api.Car{Cap: 60, End: 1000})[:3]
	i.Stops = append(i.Stops, api.Stop{Close: 1000})[:6]
	i.Pairs = append(i.Pairs, [2]int{2, 3})[:2]
	memory := []int{2, 4, 3, 1, 4, -7}
	heads, tails := Heads(i, 0, memory[:4]...), Tails(i, 0, memory[:4]...)
	if len(heads) != 5 || len(tails) != 5 || !heads[4].OK || !tails[0].OK {
		t.Errorf("%+v, %+v", heads, tails)
	}
	wantMeet(t, i, 0, memory[:2], memory[2:4], 27)
	if got := Begin(i, 3); got != (Head{}) {
		t.Errorf("read behind a list's length: %+v", got)
	}
	wantHead(t, i, 0, []int{7}, Head{})
	wantTail(t, i, 0, []int{7}, Tail{})
	if !reflect.DeepEqual(i, sample()) || !slices.Equal(memory, []int{2, 4, 3, 1, 4, -7}) {
		t.Errorf("changed to %+v, %v", i, memory)
	}
	if i.Cars[:4][3] != (api.Car{Cap: 60, End: 1000}) || i.Stops[:7][6] != (api.Stop{Close: 1000}) || i.Pairs[:3][2] != [2]int{2, 3} {
		t.Error("written behind a list's length")
	}
}

func TestWhatIsHandedOutIsNewMemory(t *testing.T) {
	heads, tails := Heads(sample(), 0, 4, 1), Tails(sample(), 0, 4, 1)
	for k := range heads {
		heads[k], tails[k] = Head{}, Tail{}
	}
	wantHead(t, sample(), 0, []int{4, 1}, Head{true, 1, 10, 0, 0, setOf(4, 1), 5})
	wantTail(t, sample(), 0, []int{4, 1}, Tail{true, 4, 85, 0, 5, 0, setOf(4, 1), 7})
}
