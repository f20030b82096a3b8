package plan

import (
	"fmt"
	"math/rand"
	"slices"
	"testing"

	"drayman/api"
)

// refused fails unless the edit is refused with the error, and nothing stands beside it.
func refused(t *testing.T, p api.Plan, d api.Delta, want api.Errno) {
	t.Helper()
	was := fmt.Sprint(p)
	q, e := Apply(p, d)
	if e != want {
		t.Errorf("%+v of %+v: %d; want %d", d, p, e, want)
	}
	if !empty(q) || q.PV != 0 {
		t.Errorf("%+v: %d beside %+v", d, e, q)
	}
	if fmt.Sprint(p) != was {
		t.Errorf("%+v, refused, changed %v to %v", d, was, p)
	}
}

func TestBusy(t *testing.T) {
	same(t, busy(t), "{[[3 4 1] [] [2]] [-1 -1 -1 -1 0 3 -1] [-1 2 -1] [2 0 1] [0 1 1 1 2 1 0] [0 1 0] 2}")
}

func TestApply(t *testing.T) {
	for _, c := range []struct {
		what string
		d    api.Delta
		want string
	}{
		{"nothing", api.Delta{}, "{[[3 4 1] [] [2]] [-1 -1 -1 -1 0 3 -1] [-1 2 -1] [2 0 1] [0 1 1 1 2 1 0] [0 1 0] 2}"},
		{"empty lists", api.Delta{Turns: []api.Turn{}, Locks: []api.Hold{}, Ices: []api.Hold{}}, "{[[3 4 1] [] [2]] [-1 -1 -1 -1 0 3 -1] [-1 2 -1] [2 0 1] [0 1 1 1 2 1 0] [0 1 0] 2}"},
		{"a stop comes", turns(turn(1, nil, []int{6})), "{[[3 4 1] [6] [2]] [-1 -1 -1 -1 0 3 -1] [-1 2 -1] [2 1 1] [0 1 1 1 2 1 1] [0 1 0] 3}"},
		{"two come", turns(turn(2, []int{2}, []int{6, 2, 5})), "{[[3 4 1] [] [6 2 5]] [-1 -1 -1 -1 0 3 -1] [-1 2 -1] [2 0 2] [0 1 1 1 2 2 1] [0 1 0] 3}"},
		{"a stop goes", turns(turn(2, []int{2}, nil)), "{[[3 4 1] [] []] [-1 -1 -1 -1 0 3 -1] [-1 2 -1] [2 0 2] [0 1 2 1 2 1 0] [0 1 0] 3}"},
		{"a pair goes", turns(turn(0, []int{3, 4, 1}, []int{3})), "{[[3] [] [2]] [-1 -1 -1 -1 0 3 -1] [-1 2 -1] [3 0 1] [0 2 1 1 3 1 0] [0 1 0] 3}"},
		{"one comes for another", turns(turn(2, []int{2}, []int{5})), "{[[3 4 1] [] [5]] [-1 -1 -1 -1 0 3 -1] [-1 2 -1] [2 0 2] [0 1 2 1 2 2 0] [0 1 0] 3}"},
		{"within a route", turns(turn(0, []int{3, 4, 1}, []int{1, 3, 4})), "{[[1 3 4] [] [2]] [-1 -1 -1 -1 0 3 -1] [-1 2 -1] [3 0 1] [0 1 1 1 2 1 0] [0 1 0] 2}"},
		{"from one route to another", turns(turn(0, []int{3, 4, 1}, []int{4, 1}), turn(2, []int{2}, []int{2, 3})), "{[[4 1] [] [2 3]] [-1 -1 -1 -1 0 3 -1] [-1 2 -1] [3 0 2] [0 1 1 1 2 1 0] [0 1 0] 2}"},
		{"it is there ahead of its leaving", turns(turn(2, []int{2}, []int{2, 3}), turn(0, []int{3, 4, 1}, []int{4, 1})), "{[[4 1] [] [2 3]] [-1 -1 -1 -1 0 3 -1] [-1 2 -1] [3 0 2] [0 1 1 1 2 1 0] [0 1 0] 2}"},
		{"routes are exchanged", turns(turn(2, []int{2}, []int{3, 4, 1}), turn(0, []int{3, 4, 1}, []int{2})), "{[[2] [] [3 4 1]] [-1 -1 -1 -1 0 3 -1] [-1 2 -1] [3 0 2] [0 1 1 1 2 1 0] [0 1 0] 2}"},
		{"all round, with one more", turns(turn(0, []int{3, 4, 1}, []int{2, 6}), turn(1, nil, []int{3, 4, 1}), turn(2, []int{2}, nil)), "{[[2 6] [3 4 1] []] [-1 -1 -1 -1 0 3 -1] [-1 2 -1] [3 1 2] [0 1 1 1 2 1 1] [0 1 0] 3}"},
		{"a lock", locks(hold(6, -1, 5)), "{[[3 4 1] [] [2]] [-1 -1 -1 -1 0 3 5] [-1 2 -1] [2 0 1] [0 1 1 1 2 1 1] [0 1 0] 2}"},
		{"a lock of an assigned stop", locks(hold(3, -1, 0)), "{[[3 4 1] [] [2]] [-1 -1 -1 0 0 3 -1] [-1 2 -1] [2 0 1] [0 1 1 2 2 1 0] [0 1 0] 2}"},
		{"it is freed", locks(hold(4, 0, -1)), "{[[3 4 1] [] [2]] [-1 -1 -1 -1 -1 3 -1] [-1 2 -1] [2 0 1] [0 1 1 1 3 1 0] [0 1 0] 2}"},
		{"from holder to holder, and back to front", locks(hold(5, 3, 4), hold(1, -1, 4)), "{[[3 4 1] [] [2]] [-1 4 -1 -1 0 4 -1] [-1 2 -1] [2 0 1] [0 2 1 1 2 2 0] [0 1 0] 2}"},
		{"an ice", ices(hold(0, -1, 5)), "{[[3 4 1] [] [2]] [-1 -1 -1 -1 0 3 -1] [5 2 -1] [2 0 1] [0 1 1 1 2 1 0] [1 1 0] 2}"},
		{"it thaws", ices(hold(1, 2, -1)), "{[[3 4 1] [] [2]] [-1 -1 -1 -1 0 3 -1] [-1 -1 -1] [2 0 1] [0 1 1 1 2 1 0] [0 2 0] 2}"},
		{"all ice", ices(hold(2, -1, 1), hold(1, 2, 1), hold(0, -1, 1)), "{[[3 4 1] [] [2]] [-1 -1 -1 -1 0 3 -1] [1 1 1] [2 0 1] [0 1 1 1 2 1 0] [1 2 1] 2}"},
		{"a turn of no change", turns(turn(0, []int{3, 4, 1}, []int{3, 4, 1}), turn(1, nil, []int{})), "{[[3 4 1] [] [2]] [-1 -1 -1 -1 0 3 -1] [-1 2 -1] [2 0 1] [0 1 1 1 2 1 0] [0 1 0] 2}"},
		{"locks of no change", locks(hold(4, 0, 0), hold(1, -1, -1), hold(5, 3, 3)), "{[[3 4 1] [] [2]] [-1 -1 -1 -1 0 3 -1] [-1 2 -1] [2 0 1] [0 1 1 1 2 1 0] [0 1 0] 2}"},
		{"ices of no change", ices(hold(0, -1, -1), hold(1, 2, 2)), "{[[3 4 1] [] [2]] [-1 -1 -1 -1 0 3 -1] [-1 2 -1] [2 0 1] [0 1 1 1 2 1 0] [0 1 0] 2}"},
		{"some change, some not", api.Delta{Turns: []api.Turn{turn(2, []int{2}, []int{2}), turn(1, nil, []int{5})}, Locks: []api.Hold{hold(5, 3, 3), hold(4, 0, -1)}, Ices: []api.Hold{hold(1, 2, 2), hold(0, -1, 0)}}, "{[[3 4 1] [5] [2]] [-1 -1 -1 -1 -1 3 -1] [0 2 -1] [2 1 1] [0 1 1 1 3 2 0] [1 1 0] 3}"},
		{"a stop comes and is locked: one more, not two", api.Delta{Turns: []api.Turn{turn(1, nil, []int{6})}, Locks: []api.Hold{hold(6, -1, 1)}}, "{[[3 4 1] [6] [2]] [-1 -1 -1 -1 0 3 1] [-1 2 -1] [2 1 1] [0 1 1 1 2 1 1] [0 1 0] 3}"},
		{"a pair goes, half of it is freed", api.Delta{Turns: []api.Turn{turn(0, []int{3, 4, 1}, []int{3})}, Locks: []api.Hold{hold(4, 0, -1)}}, "{[[3] [] [2]] [-1 -1 -1 -1 -1 3 -1] [-1 2 -1] [3 0 1] [0 2 1 1 3 1 0] [0 1 0] 3}"},
		{"a stop moves within a route, and is locked", api.Delta{Turns: []api.Turn{turn(0, []int{3, 4, 1}, []int{4, 1, 3})}, Locks: []api.Hold{hold(3, -1, 1)}}, "{[[4 1 3] [] [2]] [-1 -1 -1 1 0 3 -1] [-1 2 -1] [3 0 1] [0 1 1 2 2 1 0] [0 1 0] 2}"},
		{"a car turns and ices", api.Delta{Turns: []api.Turn{turn(2, []int{2}, []int{2, 5})}, Ices: []api.Hold{hold(2, -1, 4)}}, "{[[3 4 1] [] [2 5]] [-1 -1 -1 -1 0 3 -1] [-1 2 4] [2 0 2] [0 1 1 1 2 2 0] [0 1 1] 3}"},
		// What a holder may be Apply does not ask.
		{"holders that there are not", api.Delta{Locks: []api.Hold{hold(1, -1, -7)}, Ices: []api.Hold{hold(0, -1, 99)}}, "{[[3 4 1] [] [2]] [-1 -7 -1 -1 0 3 -1] [99 2 -1] [2 0 1] [0 2 1 1 2 1 0] [1 1 0] 2}"},
		// Nor whether a car can drive what it shall, or somebody holds it.
		{"what can't be driven", turns(turn(1, nil, []int{6}), turn(0, []int{3, 4, 1}, []int{1, 4})), "{[[1 4] [6] [2]] [-1 -1 -1 -1 0 3 -1] [-1 2 -1] [3 1 1] [0 1 1 2 2 1 1] [0 1 0] 3}"},
	} {
		p := busy(t)
		q, e := Apply(p, c.d)
		if e != api.OK || fmt.Sprint(q) != c.want {
			t.Errorf("%s: %d, %v; want %v", c.what, e, q, c.want)
		}
		same(t, p, busy(t))
	}
}

// Versions only rise, also by what is taken back.
func TestVersionsRiseThereAndBack(t *testing.T) {
	p := New(sample())
	there := api.Delta{Turns: []api.Turn{turn(1, nil, []int{2})}, Locks: []api.Hold{hold(3, -1, 4)}, Ices: []api.Hold{hold(0, -1, 4)}}
	back := api.Delta{Turns: []api.Turn{turn(1, []int{2}, nil)}, Locks: []api.Hold{hold(3, 4, -1)}, Ices: []api.Hold{hold(0, 4, -1)}}
	q := done(t, p, there, back, there, back)
	same(t, q, "{[[] [] []] [-1 -1 -1 -1 -1 -1 -1] [-1 -1 -1] [0 4 0] [0 0 4 4 0 0 0] [4 0 0] 4}")
	if !Same(p, q) {
		t.Error("there and back is elsewhere")
	}
}

// badEdits are refused with ErrArg by the plan busy, each for one reason alone.
func badEdits() []api.Delta {
	list := []api.Delta{
		// one thing twice
		turns(turn(1, nil, nil), turn(1, nil, nil)), turns(turn(1, nil, []int{5}), turn(2, []int{2}, nil), turn(1, nil, []int{6})),
		locks(hold(1, -1, 2), hold(1, -1, 2)), locks(hold(4, 0, 0), hold(6, -1, 1), hold(4, 0, 0)), ices(hold(0, -1, 1), hold(0, -1, 1)), ices(hold(1, 2, 2), hold(0, -1, 1), hold(1, 2, 2)),
		// a stop in two places: of one route, of two that change, of one that does not
		turns(turn(1, nil, []int{5, 5})), turns(turn(1, nil, []int{5, 6, 5})), turns(turn(0, []int{3, 4, 1}, []int{3, 4, 1, 3})),
		turns(turn(1, nil, []int{6}), turn(2, []int{2}, []int{2, 6})), turns(turn(0, []int{3, 4, 1}, []int{2}), turn(1, nil, []int{2}), turn(2, []int{2}, nil)),
		turns(turn(1, nil, []int{1})), turns(turn(1, nil, []int{5, 3})), turns(turn(2, []int{2}, []int{2, 4})), turns(turn(2, []int{2}, []int{2}), turn(1, nil, []int{2})),
	}
	// cars and stops that there are not: 3 cars, 6 stops
	for _, n := range append(noNumbers, 3, 7) {
		list = append(list, turns(turn(n, nil, nil)), turns(turn(n, nil, []int{5})), turns(turn(1, nil, []int{5}), turn(n, nil, nil)), ices(hold(n, -1, 1)), ices(hold(n, -1, -1)), ices(hold(0, -1, 1), hold(n, -1, 1)))
	}
	for _, n := range append(noNumbers, 0, 7) {
		list = append(list, turns(turn(1, nil, []int{n})), turns(turn(1, nil, []int{5, n, 6})), turns(turn(2, []int{2}, []int{2, n})), locks(hold(n, -1, 1)), locks(hold(n, -1, -1)), locks(hold(1, -1, 1), hold(n, -1, 1)))
	}
	return list
}

// stale are edits whose Before is not as it is in the plan busy, each for one reason alone.
func stale() []api.Delta {
	return []api.Delta{
		turns(turn(0, nil, nil)), turns(turn(0, nil, []int{5})), turns(turn(0, []int{3, 4}, []int{5})), turns(turn(0, []int{3, 1, 4}, []int{5})), turns(turn(0, []int{3, 4, 1, 5}, []int{5})), turns(turn(0, []int{3, 4, 2}, []int{5})),
		turns(turn(1, []int{5}, nil)), turns(turn(1, []int{5}, []int{5})), turns(turn(1, []int{5, 5}, nil)), turns(turn(0, []int{3, 4, 1}, nil), turn(2, []int{5}, nil)), turns(turn(2, nil, nil), turn(1, nil, []int{5})),
		locks(hold(4, -1, 1)), locks(hold(4, 1, -1)), locks(hold(4, 1, 1)), locks(hold(4, 3, 0)), locks(hold(6, 0, -1)), locks(hold(6, -2, -1)), locks(hold(1, -1, 3), hold(5, -1, 3)), locks(hold(5, 0, 3), hold(1, -1, 3)),
		ices(hold(1, -1, 2)), ices(hold(1, 1, 1)), ices(hold(0, 0, -1)), ices(hold(0, 2, -1)), ices(hold(0, -1, 1), hold(1, -1, 1)), ices(hold(2, 0, 0), hold(1, 2, 1)),
	}
}

func TestApplyRefuses(t *testing.T) {
	for _, d := range badEdits() {
		refused(t, busy(t), d, api.ErrArg)
	}
	for _, d := range stale() {
		refused(t, busy(t), d, api.ErrConflict)
	}
}

// together is both edits in one, the first one's ahead.
func together(a, b api.Delta) api.Delta {
	return api.Delta{Turns: slices.Concat(a.Turns, b.Turns), Locks: slices.Concat(a.Locks, b.Locks), Ices: slices.Concat(a.Ices, b.Ices)}
}

// Of ErrArg and ErrConflict it is ErrArg, whichever stands ahead in the edit.
func TestErrArgComesAheadOfErrConflict(t *testing.T) {
	for _, bad := range badEdits() {
		for _, d := range []api.Delta{locks(hold(3, 5, -1)), ices(hold(2, 5, -1)), turns(turn(0, nil, []int{3, 4, 1})), turns(turn(2, nil, []int{2}))} {
			refused(t, busy(t), together(bad, d), api.ErrArg)
			refused(t, busy(t), together(d, bad), api.ErrArg)
		}
	}
	for _, d := range []api.Delta{
		turns(turn(0, nil, []int{5, 5})), turns(turn(0, []int{3}, []int{2})), turns(turn(0, []int{1}, []int{7})), turns(turn(2, []int{3}, []int{3})),
		locks(hold(4, 1, 1), hold(4, 2, 2)), ices(hold(1, 1, 1), hold(1, 0, 0)), turns(turn(2, []int{9}, nil), turn(2, []int{8}, nil)),
		// A Before names a stop that there is not, too.
		turns(turn(1, []int{0}, nil)), turns(turn(1, []int{7}, []int{5})), turns(turn(0, []int{3, 4, 1, -1}, nil)), turns(turn(0, []int{3, 4, 1 << 32}, nil)),
	} {
		refused(t, busy(t), d, api.ErrArg)
	}
}

// What a stop's place ahead of the edit is said to be does not count for where it would be then.
func TestTwoPlacesAreThoseOfThePlan(t *testing.T) {
	// 2 would be on car 1 alone, whatever its Before says.
	refused(t, busy(t), turns(turn(1, nil, []int{2}), turn(2, []int{5}, nil)), api.ErrConflict)
	// 2 stays on car 2, though an edit takes it for one of car 0.
	refused(t, busy(t), turns(turn(0, []int{2}, nil), turn(1, nil, []int{2})), api.ErrArg)
}

// The promise word by word, in the plainest way: the versions are told by what has become of the plan, not by the edit.

func plainTwice(d api.Delta) bool {
	met := map[string]int{}
	for _, x := range d.Turns {
		met[fmt.Sprint("turn ", x.Car)]++
	}
	for _, x := range d.Locks {
		met[fmt.Sprint("lock ", x.N)]++
	}
	for _, x := range d.Ices {
		met[fmt.Sprint("ice ", x.N)]++
	}
	for _, count := range met {
		if count > 1 {
			return true
		}
	}
	return false
}

func plainNone(cars, stops int, d api.Delta) bool {
	noCar := func(n int) bool { return n < 0 || n >= cars }
	noStop := func(n int) bool { return n < 1 || n > stops }
	for _, x := range d.Turns {
		if noCar(x.Car) || slices.ContainsFunc(x.Before, noStop) || slices.ContainsFunc(x.After, noStop) {
			return true
		}
	}
	return slices.ContainsFunc(d.Locks, func(x api.Hold) bool { return noStop(x.N) }) || slices.ContainsFunc(d.Ices, func(x api.Hold) bool { return noCar(x.N) })
}

// plainPlaces tells how often each stop comes on all routes.
func plainPlaces(routes [][]int, stops int) []int {
	places := make([]int, stops+1)
	for _, route := range routes {
		for _, stop := range route {
			places[stop]++
		}
	}
	return places
}

func plainStale(p api.Plan, d api.Delta) bool {
	stale := false
	for _, x := range d.Turns {
		stale = stale || fmt.Sprint(x.Before) != fmt.Sprint(p.Routes[x.Car])
	}
	for _, x := range d.Locks {
		stale = stale || x.Before != p.Lock[x.N]
	}
	for _, x := range d.Ices {
		stale = stale || x.Before != p.Ice[x.N]
	}
	return stale
}

func plainApply(p api.Plan, d api.Delta) (api.Plan, api.Errno) {
	cars, stops := len(p.Routes), len(p.Lock)-1
	if plainTwice(d) || plainNone(cars, stops, d) {
		return api.Plan{}, api.ErrArg
	}
	q := api.Plan{Routes: slices.Clone(p.Routes), Lock: slices.Clone(p.Lock), Ice: slices.Clone(p.Ice), RV: slices.Clone(p.RV), SV: slices.Clone(p.SV), IV: slices.Clone(p.IV), PV: p.PV}
	for _, x := range d.Turns {
		q.Routes[x.Car] = x.After
	}
	for _, x := range d.Locks {
		q.Lock[x.N] = x.After
	}
	for _, x := range d.Ices {
		q.Ice[x.N] = x.After
	}
	before, after := plainPlaces(p.Routes, stops), plainPlaces(q.Routes, stops)
	if slices.Max(after) > 1 {
		return api.Plan{}, api.ErrArg
	}
	if plainStale(p, d) {
		return api.Plan{}, api.ErrConflict
	}
	for car := range cars {
		if fmt.Sprint(p.Routes[car]) != fmt.Sprint(q.Routes[car]) {
			q.RV[car]++
		}
		if p.Ice[car] != q.Ice[car] {
			q.IV[car]++
		}
	}
	for stop := range stops + 1 {
		if p.Lock[stop] != q.Lock[stop] || before[stop] != after[stop] {
			q.SV[stop]++
		}
	}
	if fmt.Sprint(before) != fmt.Sprint(after) {
		q.PV++
	}
	return q, api.OK
}

// drawn is an edit of the plan, mostly one that may be done.
func drawn(chance *rand.Rand, p api.Plan) api.Delta {
	var d api.Delta
	stops := chance.Perm(len(p.Lock) - 1)
	for _, car := range chance.Perm(len(p.Routes))[:1+chance.Intn(len(p.Routes))] {
		after := slices.Clone(p.Routes[car])
		if chance.Intn(4) > 0 && len(stops) > 0 {
			take := chance.Intn(len(stops) + 1)
			after, stops = nil, slices.Clone(stops)
			for _, stop := range stops[:take] {
				after = append(after, stop+1)
			}
			stops = stops[take:]
		}
		d.Turns = append(d.Turns, turn(car, slices.Clone(p.Routes[car]), after))
	}
	for _, stop := range chance.Perm(len(p.Lock))[:chance.Intn(min(3, len(p.Lock)))] {
		if stop > 0 {
			d.Locks = append(d.Locks, hold(stop, p.Lock[stop], chance.Intn(4)-1))
		}
	}
	for _, car := range chance.Perm(len(p.Ice))[:chance.Intn(len(p.Ice))] {
		d.Ices = append(d.Ices, hold(car, p.Ice[car], chance.Intn(4)-1))
	}
	if chance.Intn(4) == 0 {
		breakIt(chance, &d)
	}
	return d
}

// breakIt changes a number of the edit, or says a thing twice.
func breakIt(chance *rand.Rand, d *api.Delta) {
	n := chance.Intn(14) - 2
	switch one := &d.Turns[chance.Intn(len(d.Turns))]; chance.Intn(7) {
	case 0:
		one.Car = n
	case 1:
		one.Before = append(one.Before, n)
	case 2:
		one.After = append(one.After, n)
	case 3:
		d.Turns = append(d.Turns, *one)
	case 4:
		d.Locks = append(d.Locks, hold(n, -1, 1))
	case 5:
		d.Ices = append(d.Ices, hold(n, -1, 1))
	case 6:
		if len(one.Before) > 1 {
			one.Before[0], one.Before[1] = one.Before[1], one.Before[0]
		}
	}
}

func TestApplyAgainstThePlainestWay(t *testing.T) {
	chance := rand.New(rand.NewSource(8))
	met := map[api.Errno]int{}
	for _, i := range []api.Inst{sample(), largest(), stopless()} {
		p := New(i)
		for range 4000 {
			d := drawn(chance, p)
			want, e := plainApply(p, d)
			q, f := Apply(p, d)
			if e != f || fmt.Sprint(q) != fmt.Sprint(want) {
				t.Fatalf("%+v of %v: %d, %v; want %d, %v", d, p, f, q, e, want)
			}
			met[e]++
			if e != api.OK {
				continue
			}
			places := plainPlaces(q.Routes, len(i.Stops))
			for stop := 1; stop <= len(i.Stops); stop++ {
				car, at := Where(q, stop)
				if on := car >= 0 && q.Routes[car][at] == stop; on != (places[stop] == 1) || on == slices.Contains(Unassigned(q), stop) {
					t.Fatalf("%v: stop %d at %d, %d; unassigned %v", q, stop, car, at, Unassigned(q))
				}
			}
			if Same(p, q) != (fmt.Sprint(p.Routes, p.Lock, p.Ice) == fmt.Sprint(q.Routes, q.Lock, q.Ice)) {
				t.Fatalf("Same of %v, %v", p, q)
			}
			p = q
		}
	}
	if met[api.OK] < 1000 || met[api.ErrArg] < 500 || met[api.ErrConflict] < 100 {
		t.Error(met)
	}
}
