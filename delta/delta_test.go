package delta

import (
	"fmt"
	"math"
	"math/rand"
	"slices"
	"testing"

	"drayman/api"
)

// numbers are cars and stops that there are, that are below 0, and that are past all bounds; some are one number but for their upper half.
var numbers = []int{0, 1, 2, 3, 4, 5, 6, 7, 8, 9, 10, 11, -1, -2, 1000, 1 << 31, 1 << 32, 1<<32 + 1, -1 << 32, math.MinInt, math.MinInt + 1, math.MaxInt, math.MaxInt - 1}

func turn(car int, before, after []int) api.Turn {
	return api.Turn{Car: car, Before: before, After: after}
}

func hold(n, before, after int) api.Hold {
	return api.Hold{N: n, Before: before, After: after}
}

func turns(list ...api.Turn) api.Delta {
	return api.Delta{Turns: list}
}

func locks(list ...api.Hold) api.Delta {
	return api.Delta{Locks: list}
}

func ices(list ...api.Hold) api.Delta {
	return api.Delta{Ices: list}
}

// mixed is an edit with all kinds, each out of order, with some that change nothing.
func mixed() api.Delta {
	return api.Delta{
		Turns: []api.Turn{turn(2, []int{4, 1}, []int{1, 6}), turn(1, []int{5}, []int{5}), turn(0, nil, []int{4, 3})},
		Locks: []api.Hold{hold(9, -1, 2), hold(3, 2, -1), hold(7, 1, 1), hold(5, 0, 4)},
		Ices:  []api.Hold{hold(1, 3, -1), hold(2, -1, -1), hold(0, -1, 3)},
	}
}

// edits are of all kinds, those that Check refuses among them.
func edits() []api.Delta {
	list := []api.Delta{
		{}, {Turns: []api.Turn{}, Locks: []api.Hold{}, Ices: []api.Hold{}}, mixed(),
		turns(turn(0, []int{1}, nil)), turns(turn(1, nil, []int{})), turns(turn(1, []int{1, 2}, []int{2, 1}), turn(1, []int{3}, []int{1, 1, 2})),
		locks(hold(1, 2, 3), hold(1, 2, 4), hold(0, 1, 1)), ices(hold(1, 2, 3), hold(0, 5, 6), hold(1, 7, 8)),
		{Turns: make([]api.Turn, 3), Locks: make([]api.Hold, 3), Ices: make([]api.Hold, 3)},
	}
	chance := rand.New(rand.NewSource(7))
	for range 3000 {
		list = append(list, drawn(chance))
	}
	return list
}

// drawn is an edit of few numbers, so that many of them are alike.
func drawn(chance *rand.Rand) api.Delta {
	few := numbers[:2+chance.Intn(len(numbers)-1)]
	one := func() int { return few[chance.Intn(len(few))] }
	list := func() []int {
		var l []int
		for range chance.Intn(5) {
			l = append(l, one())
		}
		return l
	}
	holds := func() []api.Hold {
		var l []api.Hold
		for range chance.Intn(5) {
			l = append(l, hold(one(), one(), one()))
		}
		return l
	}
	d := api.Delta{Locks: holds(), Ices: holds()}
	for range chance.Intn(5) {
		d.Turns = append(d.Turns, turn(one(), list(), list()))
	}
	for at := range d.Turns {
		if chance.Intn(3) == 0 {
			d.Turns[at].After = slices.Clone(d.Turns[at].Before)
		}
	}
	return d
}

// text shows nil and the empty list alike.
func text(what any) string {
	return fmt.Sprint(what)
}

func want(t *testing.T, got, want any) {
	t.Helper()
	if text(got) != text(want) {
		t.Errorf("%v; want %v", got, want)
	}
}

func TestCheckTakes(t *testing.T) {
	list := []api.Delta{
		{}, {Turns: []api.Turn{}, Locks: []api.Hold{}, Ices: []api.Hold{}}, mixed(),
		turns(turn(0, []int{1}, []int{2})), locks(hold(1, -1, 0)), ices(hold(0, -1, 0)),
		turns(turn(0, nil, nil)), locks(hold(0, 0, 0)), ices(hold(0, 0, 0)),
		turns(turn(0, []int{1}, []int{2}), turn(1, []int{1}, []int{2}), turn(2, []int{1}, []int{2})),
		turns(turn(0, []int{1, 1}, []int{1, 1})),
		locks(hold(2, 3, 4), hold(1, 3, 4), hold(3, 3, 4)), ices(hold(2, 3, 4), hold(1, 3, 4), hold(3, 3, 4)),
		{Turns: []api.Turn{turn(1, nil, []int{2})}, Ices: []api.Hold{hold(1, -1, 0)}},
		{Turns: []api.Turn{turn(1, nil, []int{1})}, Locks: []api.Hold{hold(1, -1, 0)}},
		{Locks: []api.Hold{hold(1, -1, 0)}, Ices: []api.Hold{hold(1, -1, 0)}},
	}
	all := api.Delta{}
	for _, n := range numbers {
		list = append(list, turns(turn(n, []int{n}, nil)), locks(hold(n, n, -1)), ices(hold(n, -1, n)))
		all.Turns = append(all.Turns, turn(n, nil, []int{1}))
		all.Locks = append(all.Locks, hold(n, 0, 1))
		all.Ices = append(all.Ices, hold(n, 0, 1))
	}
	for _, d := range append(list, all) {
		if e := Check(d); e != api.OK {
			t.Errorf("%+v: %d", d, e)
		}
	}
}

func TestCheckRefuses(t *testing.T) {
	for _, n := range numbers {
		a, b := turn(n, []int{1}, []int{2}), turn(n, []int{3}, nil)
		u, v := turn(n+2, nil, nil), turn(n-2, nil, nil)
		x, y := hold(n, 1, 2), hold(n, 3, 4)
		p, q := hold(n+2, 0, 0), hold(n-2, 0, 0)
		for _, d := range []api.Delta{
			turns(a, b), turns(a, a), turns(a, turn(n, nil, nil)), turns(turn(n, nil, nil), turn(n, nil, nil)),
			turns(a, u, b), turns(a, u, v, b), turns(u, a, v, b), turns(a, v, b, u), turns(u, v, a, b), turns(a, b, u, v),
			locks(x, y), locks(x, x), locks(x, hold(n, 0, 0)), locks(hold(n, 0, 0), hold(n, 0, 0)),
			locks(x, p, y), locks(x, p, q, y), locks(p, x, q, y), locks(x, q, y, p), locks(p, q, x, y), locks(x, y, p, q),
			ices(x, y), ices(x, x), ices(x, hold(n, 0, 0)), ices(hold(n, 0, 0), hold(n, 0, 0)),
			ices(x, p, y), ices(x, p, q, y), ices(p, x, q, y), ices(x, q, y, p), ices(p, q, x, y), ices(x, y, p, q),
			{Turns: []api.Turn{a, b}, Locks: []api.Hold{x, p}, Ices: []api.Hold{x, p}},
			{Turns: []api.Turn{a, u}, Locks: []api.Hold{x, y}, Ices: []api.Hold{x, p}},
			{Turns: []api.Turn{a, u}, Locks: []api.Hold{x, p}, Ices: []api.Hold{x, y}},
			{Turns: []api.Turn{a, b}, Locks: []api.Hold{x, y}, Ices: []api.Hold{x, y}},
		} {
			if e := Check(d); e != api.ErrArg {
				t.Errorf("%+v: %d", d, e)
			}
		}
	}
}

func TestInverse(t *testing.T) {
	for _, c := range []struct{ d, want api.Delta }{
		{api.Delta{}, api.Delta{}},
		{turns(turn(1, []int{1, 2}, []int{3})), turns(turn(1, []int{3}, []int{1, 2}))},
		{turns(turn(1, nil, []int{3})), turns(turn(1, []int{3}, nil))},
		{turns(turn(1, []int{3}, nil)), turns(turn(1, nil, []int{3}))},
		{turns(turn(-3, []int{-1}, []int{0, 0})), turns(turn(-3, []int{0, 0}, []int{-1}))},
		{turns(turn(2, []int{2}, []int{1}), turn(0, []int{5}, []int{5}), turn(2, nil, nil)), turns(turn(2, []int{1}, []int{2}), turn(0, []int{5}, []int{5}), turn(2, nil, nil))},
		{locks(hold(4, -1, 2), hold(1, 2, -1), hold(1, 3, 3)), locks(hold(4, 2, -1), hold(1, -1, 2), hold(1, 3, 3))},
		{ices(hold(2, -1, 5), hold(0, 4, 4), hold(2, 1, 0)), ices(hold(2, 5, -1), hold(0, 4, 4), hold(2, 0, 1))},
		{mixed(), api.Delta{
			Turns: []api.Turn{turn(2, []int{1, 6}, []int{4, 1}), turn(1, []int{5}, []int{5}), turn(0, []int{4, 3}, nil)},
			Locks: []api.Hold{hold(9, 2, -1), hold(3, -1, 2), hold(7, 1, 1), hold(5, 4, 0)},
			Ices:  []api.Hold{hold(1, -1, 3), hold(2, -1, -1), hold(0, 3, -1)},
		}},
	} {
		want(t, Inverse(c.d), c.want)
	}
}

func TestInverseOfInverse(t *testing.T) {
	for _, d := range edits() {
		want(t, Inverse(Inverse(d)), d)
	}
}

func TestTidyDropsWhatChangesNothing(t *testing.T) {
	for _, d := range []api.Delta{
		{}, {Turns: []api.Turn{}, Locks: []api.Hold{}, Ices: []api.Hold{}},
		turns(turn(1, []int{2, 3}, []int{2, 3})), turns(turn(1, nil, nil)), turns(turn(1, nil, []int{})), turns(turn(1, []int{}, nil)),
		turns(turn(1, nil, nil), turn(1, []int{4}, []int{4}), turn(-1, []int{0, 0}, []int{0, 0})),
		locks(hold(1, -1, -1), hold(1, 0, 0), hold(-3, 5, 5)), ices(hold(1, -1, -1), hold(1, 0, 0), hold(-3, 5, 5)),
		{Turns: make([]api.Turn, 3), Locks: make([]api.Hold, 3), Ices: make([]api.Hold, 3)},
	} {
		want(t, Tidy(d), api.Delta{})
		if !Empty(d) {
			t.Errorf("%+v is not empty", d)
		}
	}
}

// Each of these says one thing that changes; Tidy leaves it as it is.
func TestTidyLeavesWhatChanges(t *testing.T) {
	for _, d := range []api.Delta{
		turns(turn(1, nil, []int{1})), turns(turn(1, []int{1}, nil)), turns(turn(1, []int{1, 2}, []int{2, 1})), turns(turn(1, []int{1}, []int{1, 1})),
		turns(turn(1, []int{1, 2}, []int{1})), turns(turn(1, []int{1}, []int{1, 2})), turns(turn(1, []int{1, 2}, []int{1, 3})), turns(turn(1, []int{0}, nil)),
		turns(turn(-5, []int{2}, []int{1})), turns(turn(math.MinInt, []int{math.MinInt}, []int{math.MaxInt})),
		locks(hold(1, -1, 0)), locks(hold(1, 0, -1)), locks(hold(0, 2, 3)), locks(hold(-9, math.MinInt, math.MaxInt)), locks(hold(1, 1, 1+1<<32)),
		ices(hold(1, -1, 0)), ices(hold(1, 0, -1)), ices(hold(0, 2, 3)), ices(hold(-9, math.MinInt, math.MaxInt)), ices(hold(1, 1, 1+1<<32)),
	} {
		want(t, Tidy(d), d)
		if Empty(d) {
			t.Errorf("%+v is empty", d)
		}
		still := api.Delta{
			Turns: append([]api.Turn{turn(0, nil, nil)}, append(d.Turns, turn(0, []int{8}, []int{8}))...),
			Locks: append([]api.Hold{hold(0, 4, 4)}, append(d.Locks, hold(2, 4, 4))...),
			Ices:  append([]api.Hold{hold(0, 4, 4)}, append(d.Ices, hold(2, 4, 4))...),
		}
		want(t, Tidy(still), d)
		if Empty(still) {
			t.Errorf("%+v is empty", still)
		}
	}
}

func TestTidySorts(t *testing.T) {
	want(t, Tidy(mixed()), api.Delta{
		Turns: []api.Turn{turn(0, nil, []int{4, 3}), turn(2, []int{4, 1}, []int{1, 6})},
		Locks: []api.Hold{hold(3, 2, -1), hold(5, 0, 4), hold(9, -1, 2)},
		Ices:  []api.Hold{hold(0, -1, 3), hold(1, 3, -1)},
	})
	var d, rising api.Delta
	for _, n := range numbers {
		d.Turns = append(d.Turns, turn(n, nil, []int{1}))
		d.Locks = append(d.Locks, hold(n, 0, 1))
		d.Ices = append(d.Ices, hold(n, 0, 1))
	}
	for _, n := range slices.Sorted(slices.Values(numbers)) {
		rising.Turns = append(rising.Turns, turn(n, nil, []int{1}))
		rising.Locks = append(rising.Locks, hold(n, 0, 1))
		rising.Ices = append(rising.Ices, hold(n, 0, 1))
	}
	want(t, Tidy(d), rising)
	want(t, Tidy(rising), rising)
}

// Long enough a list is no more sorted by putting one in behind the other, which would keep the order of like ones by itself.
func TestTidyKeepsTheOrderOfLikeOnes(t *testing.T) {
	for _, size := range []int{2, 3, 12, 13, 100, 1000} {
		var d, first, then api.Delta
		for k := range size {
			n := 5 - k%2
			d.Turns = append(d.Turns, turn(n, nil, []int{k}))
			d.Locks = append(d.Locks, hold(n, -1, k))
			d.Ices = append(d.Ices, hold(n, -1, k))
			part := &then
			if n == 4 {
				part = &first
			}
			part.Turns = append(part.Turns, turn(n, nil, []int{k}))
			part.Locks = append(part.Locks, hold(n, -1, k))
			part.Ices = append(part.Ices, hold(n, -1, k))
		}
		want(t, Tidy(d), api.Delta{Turns: append(first.Turns, then.Turns...), Locks: append(first.Locks, then.Locks...), Ices: append(first.Ices, then.Ices...)})
	}
}

func TestEmptyOfOneKindAlone(t *testing.T) {
	still := api.Delta{Turns: []api.Turn{turn(0, []int{1}, []int{1})}, Locks: []api.Hold{hold(1, 2, 2)}, Ices: []api.Hold{hold(0, 3, 3)}}
	if !Empty(api.Delta{}) || !Empty(still) {
		t.Error("nothing changes, and it is not empty")
	}
	for kind, change := range []func(d *api.Delta){
		func(d *api.Delta) { d.Turns = []api.Turn{turn(0, []int{1}, []int{2})} },
		func(d *api.Delta) { d.Locks = []api.Hold{hold(1, 2, 3)} },
		func(d *api.Delta) { d.Ices = []api.Hold{hold(0, 3, 2)} },
	} {
		for _, d := range []api.Delta{{}, still} {
			change(&d)
			if Empty(d) {
				t.Errorf("kind %d: %+v is empty", kind, d)
			}
		}
	}
	if Empty(mixed()) || Empty(Inverse(mixed())) {
		t.Error("all kinds change, and it is empty")
	}
}

func TestMoved(t *testing.T) {
	for _, c := range []struct {
		d    api.Delta
		want []int
	}{
		{api.Delta{}, nil},
		{turns(turn(0, nil, nil)), nil},
		{turns(turn(0, nil, []int{3})), []int{3}},
		{turns(turn(0, []int{3}, nil)), []int{3}},
		{turns(turn(0, []int{3}, []int{3})), nil},
		{turns(turn(0, []int{1, 2, 3}, []int{3, 1, 2})), nil},
		{turns(turn(0, []int{1, 2, 3}, []int{3, 1})), []int{2}},
		{turns(turn(0, []int{1, 3}, []int{3, 2, 1})), []int{2}},
		{turns(turn(0, []int{1}, []int{2})), []int{1, 2}},
		{turns(turn(0, []int{2}, []int{1})), []int{1, 2}},
		{turns(turn(0, []int{9, 4, 7}, []int{8, 5, 6})), []int{4, 5, 6, 7, 8, 9}},
		// From one route to another one, whichever of them stands ahead.
		{turns(turn(0, []int{1, 2}, []int{1}), turn(1, nil, []int{2})), nil},
		{turns(turn(1, nil, []int{2}), turn(0, []int{1, 2}, []int{1})), nil},
		{turns(turn(0, []int{1}, []int{2}), turn(1, []int{2}, []int{3}), turn(2, []int{3}, []int{1})), nil},
		{turns(turn(0, []int{1}, []int{2}), turn(1, []int{2}, []int{3}), turn(2, []int{4}, []int{1})), []int{3, 4}},
		{turns(turn(0, []int{9}, nil), turn(1, nil, []int{8}), turn(2, []int{7, 6}, []int{6, 5})), []int{5, 7, 8, 9}},
		// One that stands twice, in a list or in two.
		{turns(turn(0, []int{4, 4}, nil)), []int{4}},
		{turns(turn(0, nil, []int{4, 4})), []int{4}},
		{turns(turn(0, []int{4, 4}, []int{4})), nil},
		{turns(turn(0, []int{4}, []int{4, 4, 4})), nil},
		{turns(turn(0, []int{4}, nil), turn(1, []int{4}, nil)), []int{4}},
		{turns(turn(0, []int{4, 1, 4}, []int{6, 2, 6})), []int{1, 2, 4, 6}},
		// One of a Turn that changes nothing is among the stops of both sides.
		{turns(turn(0, []int{4}, []int{4}), turn(1, []int{4}, nil)), nil},
		{turns(turn(0, []int{4}, nil), turn(0, nil, []int{4})), nil},
		{turns(turn(-1, []int{0, -7}, []int{math.MaxInt}), turn(99, []int{math.MinInt}, []int{1 << 32})), []int{math.MinInt, -7, 0, 1 << 32, math.MaxInt}},
		{locks(hold(1, -1, 2)), nil},
		{ices(hold(1, -1, 2)), nil},
		{mixed(), []int{3, 6}},
	} {
		want(t, Moved(c.d), c.want)
		want(t, Moved(Inverse(c.d)), c.want)
	}
}

// What is asked here in the plainest way, number by number and one against each other, is the promise word by word.

func plainCheck(d api.Delta) api.Errno {
	for a := range d.Turns {
		for b := range a {
			if d.Turns[a].Car == d.Turns[b].Car {
				return api.ErrArg
			}
		}
	}
	for _, holds := range [][]api.Hold{d.Locks, d.Ices} {
		for a := range holds {
			for b := range a {
				if holds[a].N == holds[b].N {
					return api.ErrArg
				}
			}
		}
	}
	return api.OK
}

func plainTidy(d api.Delta) api.Delta {
	var tidy api.Delta
	for _, n := range slices.Sorted(slices.Values(numbers)) {
		for _, x := range d.Turns {
			if x.Car == n && text(x.Before) != text(x.After) {
				tidy.Turns = append(tidy.Turns, x)
			}
		}
		for _, x := range d.Locks {
			if x.N == n && x.Before != x.After {
				tidy.Locks = append(tidy.Locks, x)
			}
		}
		for _, x := range d.Ices {
			if x.N == n && x.Before != x.After {
				tidy.Ices = append(tidy.Ices, x)
			}
		}
	}
	return tidy
}

func plainMoved(d api.Delta) []int {
	var moved []int
	for _, n := range slices.Sorted(slices.Values(numbers)) {
		before := slices.ContainsFunc(d.Turns, func(x api.Turn) bool { return slices.Contains(x.Before, n) })
		after := slices.ContainsFunc(d.Turns, func(x api.Turn) bool { return slices.Contains(x.After, n) })
		if before != after {
			moved = append(moved, n)
		}
	}
	return moved
}

func TestAllCallsAgainstThePlainestWay(t *testing.T) {
	refused, empty, moved := 0, 0, 0
	for _, d := range edits() {
		tidy := plainTidy(d)
		want(t, Check(d), plainCheck(d))
		want(t, Tidy(d), tidy)
		want(t, Tidy(Tidy(d)), tidy)
		want(t, Empty(d), text(tidy) == text(api.Delta{}))
		want(t, Moved(d), plainMoved(d))
		if Check(d) == api.ErrArg {
			refused++
		}
		if Empty(d) {
			empty++
		}
		if len(Moved(d)) > 0 {
			moved++
		}
	}
	if size := len(edits()); refused < 100 || refused > size-100 || empty < 10 || moved < 100 || moved > size-100 {
		t.Errorf("%d refused, %d empty, %d moved", refused, empty, moved)
	}
}

func TestManyAreToldInTime(t *testing.T) {
	const size = 200000
	var d api.Delta
	for k := range size {
		d.Turns = append(d.Turns, turn(size-k, nil, []int{size - k}))
		d.Locks = append(d.Locks, hold(size-k, 0, 1))
		d.Ices = append(d.Ices, hold(size-k, 0, 1))
	}
	if Check(d) != api.OK || Empty(d) || len(Moved(d)) != size || len(Inverse(d).Turns) != size || Tidy(d).Locks[0].N != 1 {
		t.Error("many")
	}
	d.Ices[0].N = 1
	if Check(d) != api.ErrArg {
		t.Error("many, and one twice")
	}
}

// roomy is the list with others behind its length.
func roomy(list ...int) []int {
	return append(slices.Clone(list), 91, 92, 93)[:len(list)]
}

// loose is an edit whose lists have others behind their lengths; one is handed in as Before and as After of two cars.
func loose() api.Delta {
	both := roomy(2, 1)
	d := mixed()
	for at, x := range d.Turns {
		d.Turns[at] = turn(x.Car, roomy(x.Before...), roomy(x.After...))
	}
	d.Turns = append(d.Turns, turn(8, both, roomy(1)), turn(7, roomy(), both), turn(6, both, both))
	d.Turns = append(d.Turns, turn(95, roomy(95), nil))[:len(d.Turns)]
	d.Locks = append(d.Locks, hold(95, 95, 96))[:len(d.Locks)]
	d.Ices = append(d.Ices, hold(95, 95, 96))[:len(d.Ices)]
	return d
}

// whole tells all that the edit's memory holds, what lies behind the lengths as well.
func whole(d api.Delta) string {
	full := api.Delta{Locks: d.Locks[:cap(d.Locks)], Ices: d.Ices[:cap(d.Ices)]}
	for _, x := range d.Turns[:cap(d.Turns)] {
		full.Turns = append(full.Turns, turn(x.Car, x.Before[:cap(x.Before)], x.After[:cap(x.After)]))
	}
	return text(full)
}

// spoil writes over all that the edit's memory holds.
func spoil(d api.Delta) {
	for _, x := range d.Turns[:cap(d.Turns)] {
		spoilList(x.Before)
		spoilList(x.After)
	}
	for at := range d.Turns[:cap(d.Turns)] {
		d.Turns[:cap(d.Turns)][at] = turn(77, []int{77}, nil)
	}
	for _, holds := range [][]api.Hold{d.Locks, d.Ices} {
		for at := range holds[:cap(holds)] {
			holds[:cap(holds)][at] = hold(77, 77, 78)
		}
	}
}

func spoilList(list []int) {
	for at := range list[:cap(list)] {
		list[:cap(list)][at] = 77
	}
}

func TestWhatIsHandedInStaysAsItWas(t *testing.T) {
	d := loose()
	Check(d)
	Inverse(d)
	Empty(d)
	Tidy(d)
	Moved(d)
	want(t, whole(d), whole(loose()))
}

func TestWhatIsToldHasMemoryOfItsOwn(t *testing.T) {
	for _, call := range []func(api.Delta) api.Delta{Inverse, Tidy} {
		d := loose()
		told, again := call(d), call(d)
		spoil(told)
		want(t, whole(d), whole(loose()))
		want(t, again, call(loose()))
		spoil(d)
		want(t, again, call(loose()))
	}
	d := loose()
	told, again := Moved(d), Moved(d)
	spoilList(told)
	want(t, whole(d), whole(loose()))
	want(t, again, Moved(loose()))
	spoil(d)
	want(t, again, Moved(loose()))
}

func TestNoTwoListsOfAnAnswerShareMemory(t *testing.T) {
	for _, call := range []func(api.Delta) api.Delta{Inverse, Tidy} {
		told := call(loose())
		for at := range told.Turns {
			before, after := slices.Clone(told.Turns[at].Before), slices.Clone(told.Turns[at].After)
			spoilList(told.Turns[at].Before)
			want(t, told.Turns[at].After, after)
			copy(told.Turns[at].Before, before)
			spoilList(told.Turns[at].After)
			want(t, told.Turns[at].Before, before)
			copy(told.Turns[at].After, after)
			want(t, told, call(loose()))
		}
		locks, ices := text(told.Locks), text(told.Ices)
		for at := range told.Locks[:cap(told.Locks)] {
			told.Locks[:cap(told.Locks)][at] = hold(77, 77, 78)
		}
		want(t, told.Ices, ices)
		told = call(loose())
		for at := range told.Ices[:cap(told.Ices)] {
			told.Ices[:cap(told.Ices)][at] = hold(77, 77, 78)
		}
		want(t, told.Locks, locks)
	}
}
