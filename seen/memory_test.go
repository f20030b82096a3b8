package seen

import (
	"fmt"
	"slices"
	"testing"

	"drayman/api"
	"drayman/plan"
)

// roomy is the list with others behind its length.
func roomy[T any](list []T, others ...T) []T {
	return slices.Concat(list, others)[:len(list)]
}

// loosePlan is busy, with others behind the lengths of its lists.
func loosePlan(t *testing.T) api.Plan {
	p := busy(t)
	for car := range p.Routes {
		p.Routes[car] = roomy(p.Routes[car], 3, 4)
	}
	p.Routes = roomy(p.Routes, []int{3})
	p.Lock, p.Ice = roomy(p.Lock, 5, 5), roomy(p.Ice, 5, 5)
	p.RV, p.SV, p.IV = roomy(p.RV, 96), roomy(p.SV, 97), roomy(p.IV, 98)
	return p
}

// looseProblem is sample, with another pair behind its own.
func looseProblem() api.Inst {
	i := sample()
	i.Pairs = roomy(i.Pairs, [2]int{4, 5})
	return i
}

// looseEdit is anEdit, with others behind the lengths of its lists.
func looseEdit() api.Delta {
	d := anEdit()
	for at := range d.Turns {
		d.Turns[at].Before, d.Turns[at].After = roomy(d.Turns[at].Before, 1), roomy(d.Turns[at].After, 2)
	}
	return api.Delta{
		Turns: roomy(d.Turns, turn(0, []int{1}, nil)),
		Locks: roomy(d.Locks, hold(3, -1, 1)),
		Ices:  roomy(d.Ices, hold(0, 2, 1)),
	}
}

// wholePlan tells all that the plan's memory holds, what lies behind the lengths as well.
func wholePlan(p api.Plan) string {
	text := fmt.Sprint(p.PV)
	for _, list := range append(slices.Clone(p.Routes[:cap(p.Routes)]), p.Lock, p.Ice, p.RV, p.SV, p.IV) {
		text += fmt.Sprint(len(list), list[:cap(list)])
	}
	return text
}

// wholeEdit tells all that the edit's memory holds.
func wholeEdit(d api.Delta) string {
	text := fmt.Sprint(d.Locks[:cap(d.Locks)], d.Ices[:cap(d.Ices)])
	for _, x := range d.Turns[:cap(d.Turns)] {
		text += fmt.Sprint(x.Car, x.Before[:cap(x.Before)], x.After[:cap(x.After)])
	}
	return text
}

func wholeProblem(i api.Inst) string {
	return fmt.Sprint(i, i.Pairs[:cap(i.Pairs)])
}

func TestWhatIsHandedInStaysAsItWas(t *testing.T) {
	i, p, d := looseProblem(), loosePlan(t), looseEdit()
	keys, v := roomy(all(), Key{Route, 0}, Key{Pool, 0}), Look(p, all()...)
	wasI, wasP, wasD, wasV, wasK := wholeProblem(i), wholePlan(p), wholeEdit(d), fmt.Sprint(v), fmt.Sprint(keys[:cap(keys)])
	for n := -1; n < 16; n++ {
		for m := -1; m < 12; m++ {
			Of(i, p, api.Cmd{Op: n, Stop: m, Car: m % 4, Other: (m + 1) % 4}, d)
		}
		Whole(p, n)
	}
	for _, key := range keys {
		Version(p, key)
	}
	Look(p, keys...)
	Still(p, v)
	Still(plan.New(i), v)
	if wholeProblem(i) != wasI || wholePlan(p) != wasP || wholeEdit(d) != wasD || fmt.Sprint(v) != wasV || fmt.Sprint(keys[:cap(keys)]) != wasK {
		t.Errorf("%v, %v, %v, %v, %v", i, p, d, v, keys)
	}
}

// What lies behind a list's length has no say.
func TestWhatLiesBehindIsNotRead(t *testing.T) {
	for n := -1; n < 16; n++ {
		for m := -1; m < 12; m++ {
			c := api.Cmd{Op: n, Stop: m, Car: m % 4, Other: (m + 1) % 4}
			same(t, Of(looseProblem(), loosePlan(t), c, looseEdit()), Of(sample(), busy(t), c, anEdit()))
		}
		same(t, Whole(loosePlan(t), n), Whole(busy(t), n))
	}
	keys := roomy([]Key{{Route, 0}, {Stop, 9}, {Route, 3}, {Ice, 3}}, Key{Pool, 0})
	same(t, Look(loosePlan(t), keys...), "map[{1 0}:4 {1 3}:-1 {2 9}:-1 {3 3}:-1]")
}

func spoil(keys []Key) {
	for at := range keys[:cap(keys)] {
		keys[:cap(keys)][at] = Key{77, 78}
	}
}

func TestAnswersHaveMemoryOfTheirOwn(t *testing.T) {
	i, p, d := sample(), busy(t), anEdit()
	wasP, wasD := wholePlan(p), wholeEdit(d)
	for op := range 16 {
		c := api.Cmd{Op: op, Stop: 1, Car: 2, Other: 0}
		one, other := Of(i, p, c, d), Of(i, p, c, d)
		was := fmt.Sprint(other)
		spoil(one)
		same(t, other, was)
		same(t, Of(i, p, c, d), was)
	}
	for car := range 3 {
		one, other := Whole(p, car), Whole(p, car)
		was := fmt.Sprint(other)
		spoil(one)
		same(t, other, was)
		same(t, Whole(p, car), was)
	}
	if wholePlan(p) != wasP || wholeEdit(d) != wasD {
		t.Errorf("%v, %v", p, d)
	}
}

func TestAViewIsItsOwn(t *testing.T) {
	p := busy(t)
	keys := []Key{{Route, 0}, {Stop, 4}}
	one, other := Look(p, keys...), Look(p, keys...)
	one[Key{Route, 0}], one[Key{Pool, 0}] = 77, 78
	same(t, other, "map[{1 0}:4 {2 4}:3]")
	keys[0], p.RV[0], p.SV[4] = Key{Pool, 0}, 9, 9
	same(t, other, "map[{1 0}:4 {2 4}:3]")
	none := Look(p)
	none[Key{Stop, 4}] = 5
	same(t, Look(p), "map[]")
}

func TestNothingIsKept(t *testing.T) {
	p, d := busy(t), anEdit()
	told := Of(sample(), p, api.Cmd{Op: api.Undo}, d)
	was := fmt.Sprint(told)
	d.Turns[0].After[0], d.Locks[0].N, d.Ices[0].N, p.Routes[0][0] = 1, 1, 1, 8
	same(t, told, was)
}

// A long edit is told in time, and so are many keys.
func TestManyAreToldInTime(t *testing.T) {
	const size = 300000
	var many api.Delta
	keys := make([]Key, size)
	stops := make([]int, size)
	for k := range size {
		stops[k], keys[k] = k%12-1, Key{k % 6, k%13 - 1}
		many.Turns = append(many.Turns, turn(k%5-1, nil, []int{k}))
		many.Locks = append(many.Locks, hold(size-k, -1, 1))
		many.Ices = append(many.Ices, hold(size-k, -1, 1))
	}
	many.Turns = append(many.Turns, turn(0, stops, stops))
	ofBusy(t, api.Cmd{Op: api.Undo}, many, "[{1 0} {1 1} {1 2} {2 1} {2 2} {2 3} {2 4} {2 5} {2 6} {2 7} {2 8} {3 0} {3 1} {3 2}]")
	v := Look(busy(t), keys...)
	if len(v) != 78 || !Still(busy(t), v) {
		t.Error(len(v))
	}
}
