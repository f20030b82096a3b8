package plan

import (
	"fmt"
	"slices"
	"testing"

	"drayman/api"
)

// roomy is the list with others behind its length.
func roomy[T any](list []T, others ...T) []T {
	return slices.Concat(list, others)[:len(list)]
}

// loosePlan is busy, with others behind the lengths of its lists.
func loosePlan(t *testing.T) api.Plan {
	p := busy(t)
	for car := range p.Routes {
		p.Routes[car] = roomy(p.Routes[car], 91, 92)
	}
	p.Routes = roomy(p.Routes, []int{93})
	p.Lock, p.Ice = roomy(p.Lock, 94), roomy(p.Ice, 95)
	p.RV, p.SV, p.IV = roomy(p.RV, 96), roomy(p.SV, 97), roomy(p.IV, 98)
	return p
}

// looseEdit is one of busy, with others behind the lengths of its lists; one list is a Before and an After.
func looseEdit() api.Delta {
	shared := roomy([]int{3, 4, 1}, 81)
	return api.Delta{
		Turns: roomy([]api.Turn{turn(2, roomy([]int{2}, 82), shared), turn(0, shared, roomy([]int{6, 2}, 83)), turn(1, roomy([]int{}, 84), roomy([]int{5}, 85))}, turn(86, nil, nil)),
		Locks: roomy([]api.Hold{hold(5, 3, -1), hold(1, -1, 2)}, hold(87, 0, 0)),
		Ices:  roomy([]api.Hold{hold(1, 2, -1), hold(0, -1, 4)}, hold(88, 0, 0)),
	}
}

// lists are all lists of numbers of the plan.
func lists(p *api.Plan) [][]int {
	return append(slices.Clone(p.Routes), p.Lock, p.Ice, p.RV, p.SV, p.IV)
}

// wholePlan tells all that the plan's memory holds, what lies behind the lengths as well.
func wholePlan(p api.Plan) string {
	p.Routes = p.Routes[:cap(p.Routes)]
	text := ""
	for _, list := range lists(&p) {
		text += fmt.Sprint(len(list), list[:cap(list)])
	}
	return text + fmt.Sprint(p.PV)
}

// wholeEdit tells all that the edit's memory holds.
func wholeEdit(d api.Delta) string {
	text := fmt.Sprint(d.Locks[:cap(d.Locks)], d.Ices[:cap(d.Ices)])
	for _, x := range d.Turns[:cap(d.Turns)] {
		text += fmt.Sprint(x.Car, x.Before[:cap(x.Before)], x.After[:cap(x.After)])
	}
	return text
}

func spoilList(list []int) {
	for at := range list[:cap(list)] {
		list[:cap(list)][at] = 77
	}
}

// spoilPlan writes over all that the plan's memory holds.
func spoilPlan(p api.Plan) {
	for _, list := range lists(&p) {
		spoilList(list)
	}
	for car := range p.Routes[:cap(p.Routes)] {
		p.Routes[:cap(p.Routes)][car] = []int{77}
	}
}

// spoilEdit writes over all that the edit's memory holds.
func spoilEdit(d api.Delta) {
	for at, x := range d.Turns[:cap(d.Turns)] {
		spoilList(x.Before)
		spoilList(x.After)
		d.Turns[:cap(d.Turns)][at] = turn(77, []int{77}, nil)
	}
	for _, holds := range [][]api.Hold{d.Locks, d.Ices} {
		for at := range holds[:cap(holds)] {
			holds[:cap(holds)][at] = hold(77, 77, 78)
		}
	}
}

func TestWhatIsHandedInStaysAsItWas(t *testing.T) {
	p, d := loosePlan(t), looseEdit()
	plan, edit := wholePlan(p), wholeEdit(d)
	done(t, p, d)
	for _, bad := range slices.Concat(badEdits(), stale()) {
		Apply(p, bad)
	}
	Copy(p)
	Unassigned(p)
	Where(p, 1)
	Cost(sample(), p)
	Same(p, Copy(p))
	if wholePlan(p) != plan || wholeEdit(d) != edit {
		t.Errorf("%v, %v", p, d)
	}
}

// What lies behind a list's length has no say.
func TestWhatLiesBehindIsNotRead(t *testing.T) {
	want := "{[[6 2] [5] [3 4 1]] [-1 2 -1 -1 0 -1 -1] [4 -1 -1] [3 1 2] [0 2 1 1 2 2 1] [1 2 0] 3}"
	same(t, done(t, loosePlan(t), looseEdit()), want)
	same(t, done(t, busy(t), looseEdit()), want)
	if !Same(loosePlan(t), busy(t)) {
		t.Error("unlike")
	}
	same(t, Copy(loosePlan(t)), busy(t))
}

func TestWhatIsToldHasMemoryOfItsOwn(t *testing.T) {
	for k, call := range []func(p api.Plan, d api.Delta) api.Plan{
		func(p api.Plan, d api.Delta) api.Plan { return Copy(p) },
		func(p api.Plan, d api.Delta) api.Plan { return done(t, p, d) },
		func(p api.Plan, d api.Delta) api.Plan { return done(t, p, api.Delta{}) },
		func(p api.Plan, d api.Delta) api.Plan { return done(t, p, api.Delta{Turns: d.Turns}) },
		func(p api.Plan, d api.Delta) api.Plan {
			return done(t, p, turns(turn(0, p.Routes[0], p.Routes[0]), turn(2, p.Routes[2], nil)))
		},
		func(p api.Plan, d api.Delta) api.Plan { return New(sample()) },
	} {
		p, d := loosePlan(t), looseEdit()
		plan, edit := wholePlan(p), wholeEdit(d)
		told, again := call(p, d), call(p, d)
		want := fmt.Sprint(again)
		spoilPlan(told)
		if wholePlan(p) != plan || wholeEdit(d) != edit {
			t.Errorf("%d: what was told is what was handed in", k)
		}
		same(t, again, want)
		spoilPlan(p)
		spoilEdit(d)
		same(t, again, want)
	}
}

func TestNoTwoListsOfAnAnswerShareMemory(t *testing.T) {
	both := []int{2}
	p := busy(t)
	p.IV, p.Ice, p.Lock = p.RV, p.RV, p.SV
	for k, told := range []api.Plan{
		New(sample()), New(largest()), New(stopless()), Copy(busy(t)), Copy(p), done(t, p, api.Delta{}), done(t, busy(t), looseEdit()),
		done(t, busy(t), turns(turn(2, both, nil), turn(1, nil, both))),
	} {
		for at, list := range lists(&told) {
			was := make([][]int, 0)
			for _, other := range lists(&told) {
				was = append(was, slices.Clone(other))
			}
			spoilList(list)
			for other, now := range lists(&told) {
				if other != at && !slices.Equal(now, was[other]) {
					t.Errorf("%d: list %d is list %d as well", k, at, other)
				}
			}
			copy(list, was[at])
		}
	}
}

func TestUnassignedHasMemoryOfItsOwn(t *testing.T) {
	p := loosePlan(t)
	plan := wholePlan(p)
	told, again := Unassigned(p), Unassigned(p)
	spoilList(told)
	same(t, again, "[5 6]")
	if wholePlan(p) != plan {
		t.Error("what was told is what was handed in")
	}
}

// A long edit of no sense is refused in time.
func TestManyAreToldInTime(t *testing.T) {
	const size = 300000
	var many, after api.Delta
	stops := make([]int, size)
	for k := range size {
		stops[k] = k%6 + 1
		many.Turns = append(many.Turns, turn(size-k, nil, nil))
		many.Locks = append(many.Locks, hold(size-k, 0, 1))
		many.Ices = append(many.Ices, hold(size-k, 0, 1))
	}
	after.Turns = []api.Turn{turn(1, nil, stops)}
	refused(t, busy(t), many, api.ErrArg)
	refused(t, busy(t), after, api.ErrArg)
	refused(t, busy(t), turns(turn(1, stops, nil)), api.ErrConflict)
}
