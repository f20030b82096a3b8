package seen

import (
	"fmt"
	"math/rand"
	"slices"
	"testing"

	"drayman/api"
	"drayman/inst"
	"drayman/plan"
)

// The promise word by word, in the plainest way: of each key that there is, whether the command looks at it.

// onRoute tells whether the key is of the Whole of the car.
func onRoute(p api.Plan, car int, k Key) bool {
	if car < 0 || car >= len(p.Routes) {
		return false
	}
	return k == Key{Route, car} || k == Key{Ice, car} || k.Kind == Stop && slices.Contains(p.Routes[car], k.N)
}

func ofPair(i api.Inst, stop int, k Key) bool {
	mate := inst.Mate(i, stop)
	return k == Key{Stop, stop} || mate != 0 && k == Key{Stop, mate}
}

// ofAnyRoute tells whether the key is of the Whole of a car on which the stop or its mate is.
func ofAnyRoute(i api.Inst, p api.Plan, stop int, k Key) bool {
	for car, route := range p.Routes {
		mate := inst.Mate(i, stop)
		if onRoute(p, car, k) && (slices.Contains(route, stop) || mate != 0 && slices.Contains(route, mate)) {
			return true
		}
	}
	return false
}

func ofEdit(p api.Plan, d api.Delta, k Key) bool {
	for _, x := range d.Turns {
		if onRoute(p, x.Car, k) || k.Kind == Stop && slices.Contains(slices.Concat(x.Before, x.After), k.N) {
			return true
		}
	}
	for _, x := range d.Locks {
		if k == (Key{Stop, x.N}) {
			return true
		}
	}
	for _, x := range d.Ices {
		if k == (Key{Ice, x.N}) {
			return true
		}
	}
	return false
}

func isUnassigned(p api.Plan, k Key) bool {
	if k.Kind != Stop {
		return false
	}
	for _, route := range p.Routes {
		if slices.Contains(route, k.N) {
			return false
		}
	}
	return true
}

func looksAt(i api.Inst, p api.Plan, c api.Cmd, d api.Delta, k Key) bool {
	adds := ofPair(i, c.Stop, k) || onRoute(p, c.Car, k)
	dels := ofPair(i, c.Stop, k) || ofAnyRoute(i, p, c.Stop, k)
	return map[int]bool{
		api.Add:  adds,
		api.Del:  dels,
		api.Mov:  adds || dels,
		api.Lock: k == Key{Stop, c.Stop},
		api.Free: k == Key{Stop, c.Stop},
		api.Ice:  k == Key{Ice, c.Car},
		api.Thaw: k == Key{Ice, c.Car},
		api.Opt:  onRoute(p, c.Car, k) || onRoute(p, c.Other, k) || k.Kind == Pool || isUnassigned(p, k),
		api.Undo: ofEdit(p, d, k),
		api.Redo: ofEdit(p, d, k),
		api.Show: k == Key{Route, c.Car},
		api.Pool: k.Kind == Pool,
		api.Cost: k.Kind == Route || k.Kind == Pool,
	}[c.Op]
}

// plainOf goes through all keys that there are, rising by Kind, then N.
func plainOf(i api.Inst, p api.Plan, c api.Cmd, d api.Delta) []Key {
	var keys []Key
	ask := func(k Key) {
		if looksAt(i, p, c, d, k) {
			keys = append(keys, k)
		}
	}
	for car := range i.Cars {
		ask(Key{Route, car})
	}
	for stop := 1; stop <= len(i.Stops); stop++ {
		ask(Key{Stop, stop})
	}
	for car := range i.Cars {
		ask(Key{Ice, car})
	}
	ask(Key{Pool, 0})
	return keys
}

// drawnProblem has some cars, stops and pairs.
func drawnProblem(chance *rand.Rand) api.Inst {
	stops := chance.Intn(api.MaxStops + 1)
	i := api.Inst{Cars: make([]api.Car, 1+chance.Intn(api.MaxCars)), Stops: make([]api.Stop, stops), Travel: make([][]int, stops+1)}
	for from := range i.Travel {
		i.Travel[from] = make([]int, stops+1)
	}
	order := chance.Perm(stops)
	for k := range chance.Intn(stops/2 + 1) {
		i.Pairs = append(i.Pairs, [2]int{order[2*k] + 1, order[2*k+1] + 1})
	}
	return i
}

// drawnPlan has some of the stops on routes.
func drawnPlan(t *testing.T, chance *rand.Rand, i api.Inst) api.Plan {
	routes := make([][]int, len(i.Cars))
	for _, stop := range chance.Perm(len(i.Stops)) {
		if car := chance.Intn(len(routes) + 1); car < len(routes) {
			routes[car] = append(routes[car], stop+1)
		}
	}
	var d api.Delta
	for car, route := range routes {
		d.Turns = append(d.Turns, turn(car, nil, route))
	}
	return done(t, plan.New(i), d)
}

func drawnList(chance *rand.Rand, one func() int) []int {
	var list []int
	for range chance.Intn(4) {
		list = append(list, one())
	}
	return list
}

// drawnEdit names cars and stops that there are, and some that there are not.
func drawnEdit(chance *rand.Rand, car, stop func() int) api.Delta {
	var d api.Delta
	for range chance.Intn(3) {
		d.Turns = append(d.Turns, turn(car(), drawnList(chance, stop), drawnList(chance, stop)))
	}
	for _, n := range drawnList(chance, stop) {
		d.Locks = append(d.Locks, hold(n, chance.Intn(3)-1, chance.Intn(3)-1))
	}
	for _, n := range drawnList(chance, car) {
		d.Ices = append(d.Ices, hold(n, chance.Intn(3)-1, chance.Intn(3)-1))
	}
	return d
}

func TestOfAgainstThePlainestWay(t *testing.T) {
	chance := rand.New(rand.NewSource(10))
	for range 3000 {
		i := drawnProblem(chance)
		p := drawnPlan(t, chance, i)
		car := func() int { return chance.Intn(len(i.Cars)+2) - 1 }
		stop := func() int { return chance.Intn(len(i.Stops)+4) - 1 }
		for op := range 16 {
			c := api.Cmd{Op: op, Stop: stop(), Car: car(), At: chance.Intn(4), Mate: chance.Intn(4) - 1, Other: car()}
			d := drawnEdit(chance, car, stop)
			got, want := fmt.Sprint(Of(i, p, c, d)), fmt.Sprint(plainOf(i, p, c, d))
			if got != want {
				t.Fatalf("%+v, %+v of %+v: %s; want %s", c, d, p, got, want)
			}
		}
	}
}

// plainVersion is the version by the words of the plan's lists.
func plainVersion(p api.Plan, k Key) int {
	for car := range p.Routes {
		if k == (Key{Route, car}) {
			return p.RV[car]
		}
		if k == (Key{Ice, car}) {
			return p.IV[car]
		}
	}
	for stop := 1; stop < len(p.Lock); stop++ {
		if k == (Key{Stop, stop}) {
			return p.SV[stop]
		}
	}
	if k == (Key{Pool, 0}) {
		return p.PV
	}
	return -1
}

// A plan is edited on and on; now and then it is looked at.
func TestStillAgainstThePlainestWay(t *testing.T) {
	chance := rand.New(rand.NewSource(11))
	i := sample()
	p := drawnPlan(t, chance, i)
	met := [2]int{}
	for range 5000 {
		var keys []Key
		for range chance.Intn(10) {
			keys = append(keys, Key{chance.Intn(6), chance.Intn(10)})
		}
		v := Look(p, keys...)
		q := p
		for range chance.Intn(5) {
			q = done(t, q, step(chance, q))
		}
		want, told := true, 0
		for _, k := range keys {
			want = want && plainVersion(p, k) == plainVersion(q, k)
			if v[k] != plainVersion(p, k) {
				t.Fatalf("%v of %+v: %d", k, p, v[k])
			}
		}
		if Still(q, v) != want || len(v) > len(keys) {
			t.Fatalf("%v of %+v: %v", v, q, !want)
		}
		if want {
			told = 1
		}
		met[told]++
		p = q
	}
	if met[0] < 500 || met[1] < 500 {
		t.Error(met)
	}
}

// step is an edit that the plan takes: a stop goes or comes, a hold changes.
func step(chance *rand.Rand, p api.Plan) api.Delta {
	switch chance.Intn(3) {
	case 0:
		stop := 1 + chance.Intn(len(p.Lock)-1)
		return locks(hold(stop, p.Lock[stop], chance.Intn(3)-1))
	case 1:
		car := chance.Intn(len(p.Ice))
		return ices(hold(car, p.Ice[car], chance.Intn(3)-1))
	}
	car := chance.Intn(len(p.Routes))
	route := p.Routes[car]
	if left := plan.Unassigned(p); len(left) > 0 && chance.Intn(2) == 0 {
		return turns(turn(car, route, append(slices.Clone(route), left[0])))
	}
	return turns(turn(car, route, route[:len(route)/2]))
}
