package hold

import (
	"fmt"
	"slices"
	"testing"

	"drayman/api"
	"drayman/plan"
)

// roomy is the list with others behind its length.
func roomy[T any](list []T, others ...T) []T {
	return slices.Concat(list, others)[:len(list)]
}

// loosePlan is busy, with others behind the lengths of its lists: stops and cars of 5.
func loosePlan(t *testing.T) api.Plan {
	p := busy(t)
	for car := range p.Routes {
		p.Routes[car] = roomy(p.Routes[car], 2, 7)
	}
	p.Routes = roomy(p.Routes, []int{2})
	p.Lock, p.Ice = roomy(p.Lock, 5, 5), roomy(p.Ice, 5, 5)
	p.RV, p.SV, p.IV = roomy(p.RV, 96), roomy(p.SV, 97), roomy(p.IV, 98)
	return p
}

// looseEdit is one of busy that anybody may do; what lies behind its lists most may not.
func looseEdit() api.Delta {
	return api.Delta{
		Turns: roomy([]api.Turn{turn(1, roomy([]int{4, 5}, 2), roomy([]int{4, 8}, 7)), turn(0, roomy([]int{1, 2, 3}, 4), roomy([]int{3, 2}, 7))}, third(), first()),
		Locks: roomy([]api.Hold{hold(8, -1, 3), hold(1, -1, 2)}, hold(2, 5, -1)),
		Ices:  roomy([]api.Hold{hold(1, -1, 4), hold(0, -1, 4)}, hold(2, 0, -1)),
	}
}

// wholePlan tells all that the plan's memory holds, what lies behind the lengths as well.
func wholePlan(p api.Plan) string {
	text := fmt.Sprint(p.PV)
	for _, list := range append(slices.Clone(p.Routes[:cap(p.Routes)]), p.Lock, p.Ice, p.RV, p.SV, p.IV) {
		text += fmt.Sprint(len(list), list[:cap(list)])
	}
	return text
}

// wholeEdit tells all that the edit's memory holds.
func wholeEdit(d api.Delta) string {
	text := fmt.Sprint(d.Locks[:cap(d.Locks)], d.Ices[:cap(d.Ices)])
	for _, x := range d.Turns[:cap(d.Turns)] {
		text += fmt.Sprint(x.Car, x.Before[:cap(x.Before)], x.After[:cap(x.After)])
	}
	return text
}

func TestWhatIsHandedInStaysAsItWas(t *testing.T) {
	for _, bad := range []api.Delta{{}, turns(first(1, 3)), locks(hold(2, 5, 0)), ices(hold(2, 0, -1)), turns(third(), first(3, 2, 1))} {
		p, d := loosePlan(t), together(looseEdit(), bad)
		plan, edit := wholePlan(p), wholeEdit(d)
		for _, who := range asks {
			May(p, who, d)
			Release(p, who)
		}
		if wholePlan(p) != plan || wholeEdit(d) != edit {
			t.Errorf("%v, %v", p, d)
		}
	}
	p, d := loosePlan(t), looseEdit()
	plan, edit := wholePlan(p), wholeEdit(d)
	for _, who := range asks {
		asked(t, p, who, d, api.OK)
	}
	if wholePlan(p) != plan || wholeEdit(d) != edit {
		t.Errorf("%v, %v", p, d)
	}
}

// What lies behind a list's length has no say.
func TestWhatLiesBehindIsNotRead(t *testing.T) {
	for _, who := range asks {
		asked(t, loosePlan(t), who, looseEdit(), api.OK)
		asked(t, busy(t), who, looseEdit(), api.OK)
		asked(t, loosePlan(t), who, turns(turn(3, nil, []int{1}), first(1, 2, 3, 9, 10)), api.OK)
		same(t, Release(loosePlan(t), who), Release(busy(t), who))
	}
	same(t, Release(loosePlan(t), 5), "{[] [{2 5 -1} {7 5 -1}] []}")
}

func spoil(holds []api.Hold) {
	for at := range holds[:cap(holds)] {
		holds[:cap(holds)][at] = hold(77, 77, 78)
	}
}

func TestReleaseHasMemoryOfItsOwn(t *testing.T) {
	p := done(t, plan.New(sample()), locks(hold(1, -1, 2), hold(5, -1, 2)), ices(hold(1, -1, 2), hold(2, -1, 2)))
	was := fmt.Sprint(p)
	told, again := Release(p, 2), Release(p, 2)
	spoil(told.Locks)
	same(t, told.Ices, "[{1 2 -1} {2 2 -1}]")
	spoil(told.Ices)
	same(t, p, was)
	for _, list := range [][]int{p.Lock, p.Ice} {
		clear(list)
	}
	same(t, again, "{[] [{1 2 -1} {5 2 -1}] [{1 2 -1} {2 2 -1}]}")
}

// A long edit is told in time.
func TestManyAreToldInTime(t *testing.T) {
	const size = 300000
	var many api.Delta
	stops := make([]int, size)
	for k := range size {
		stops[k] = k%6 + 8
		many.Turns = append(many.Turns, turn(size-k+2, nil, []int{2}))
		many.Locks = append(many.Locks, hold(size-k, -1, 1))
		many.Ices = append(many.Ices, hold(size-k, -1, 1))
	}
	asked(t, busy(t), 3, many, api.OK)
	asked(t, busy(t), 3, turns(turn(1, stops, append([]int{4}, stops...))), api.OK)
	asked(t, busy(t), 3, turns(turn(1, nil, append(stops, 2))), api.ErrHeld)
	many.Ices = append(many.Ices, hold(2, 0, -1))
	asked(t, busy(t), 3, many, api.ErrIced)
	asked(t, busy(t), 0, many, api.OK)
}
