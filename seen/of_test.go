package seen

import (
	"fmt"
	"math"
	"testing"

	"drayman/api"
	"drayman/plan"
)

// ofBusy fails unless the command looks at that in the plan busy.
func ofBusy(t *testing.T, c api.Cmd, d api.Delta, want string) {
	t.Helper()
	if got := fmt.Sprint(Of(sample(), busy(t), c, d)); got != want {
		t.Errorf("%+v: %s; want %s", c, got, want)
	}
}

// anEdit changes much: a command that is neither an undo nor a redo must not ask it.
func anEdit() api.Delta {
	return api.Delta{Turns: []api.Turn{turn(1, nil, []int{4, 7}), turn(2, []int{6}, nil)}, Locks: []api.Hold{hold(8, -1, 1)}, Ices: []api.Hold{hold(2, 1, -1)}}
}

func add(stop, car int) api.Cmd {
	return api.Cmd{Op: api.Add, Stop: stop, Car: car, Mate: -1, Other: -1}
}

func del(stop int) api.Cmd {
	return api.Cmd{Op: api.Del, Stop: stop, Mate: -1, Other: -1}
}

func mov(stop, car int) api.Cmd {
	return api.Cmd{Op: api.Mov, Stop: stop, Car: car, Mate: -1, Other: -1}
}

func opt(car, other int) api.Cmd {
	return api.Cmd{Op: api.Opt, Car: car, Mate: -1, Budget: 3, Seed: 1, Other: other}
}

func TestOfAdd(t *testing.T) {
	for _, c := range []struct {
		stop, car int
		want      string
	}{
		{4, 0, "[{1 0} {2 1} {2 2} {2 4} {2 5} {3 0}]"},
		{4, 1, "[{1 1} {2 4} {3 1}]"},
		{4, 2, "[{1 2} {2 4} {2 6} {3 2}]"},
		// both stops of a pair, whichever is asked for
		{8, 1, "[{1 1} {2 7} {2 8} {3 1}]"},
		{7, 1, "[{1 1} {2 7} {2 8} {3 1}]"},
		{7, 0, "[{1 0} {2 1} {2 2} {2 5} {2 7} {2 8} {3 0}]"},
		// The mate, or the stop itself, is on a route: that one is not looked at for this.
		{3, 1, "[{1 1} {2 3} {2 6} {3 1}]"},
		{6, 1, "[{1 1} {2 3} {2 6} {3 1}]"},
		{5, 1, "[{1 1} {2 5} {3 1}]"},
		{1, 2, "[{1 2} {2 1} {2 2} {2 6} {3 2}]"},
		// It is on the route that is asked for.
		{5, 0, "[{1 0} {2 1} {2 2} {2 5} {3 0}]"},
		{2, 0, "[{1 0} {2 1} {2 2} {2 5} {3 0}]"},
		{3, 2, "[{1 2} {2 3} {2 6} {3 2}]"},
		// stops, cars that there are not
		{0, 2, "[{1 2} {2 6} {3 2}]"},
		{9, 2, "[{1 2} {2 6} {3 2}]"},
		{4, 3, "[{2 4}]"},
		{7, -1, "[{2 7} {2 8}]"},
		{9, 3, "[]"},
	} {
		ofBusy(t, add(c.stop, c.car), api.Delta{}, c.want)
		ofBusy(t, add(c.stop, c.car), anEdit(), c.want)
	}
	for _, n := range noNumbers {
		ofBusy(t, add(n, 2), anEdit(), "[{1 2} {2 6} {3 2}]")
		ofBusy(t, add(4, n), anEdit(), "[{2 4}]")
		ofBusy(t, add(n, n), anEdit(), "[]")
	}
}

func TestOfDel(t *testing.T) {
	for _, c := range []struct {
		stop int
		want string
	}{
		{5, "[{1 0} {2 1} {2 2} {2 5} {3 0}]"},
		// Its mate is on the same route.
		{1, "[{1 0} {2 1} {2 2} {2 5} {3 0}]"},
		{2, "[{1 0} {2 1} {2 2} {2 5} {3 0}]"},
		// It is on a route, its mate is unassigned; and the other way round.
		{6, "[{1 2} {2 3} {2 6} {3 2}]"},
		{3, "[{1 2} {2 3} {2 6} {3 2}]"},
		// It is unassigned, with no mate, or with one that is as well.
		{4, "[{2 4}]"},
		{7, "[{2 7} {2 8}]"},
		{8, "[{2 7} {2 8}]"},
		{0, "[]"},
		{9, "[]"},
	} {
		ofBusy(t, del(c.stop), api.Delta{}, c.want)
		ofBusy(t, del(c.stop), anEdit(), c.want)
	}
	for _, n := range noNumbers {
		ofBusy(t, del(n), anEdit(), "[]")
		// A del has no car, whatever stands there.
		ofBusy(t, api.Cmd{Op: api.Del, Stop: 4, Car: n, Other: 2}, anEdit(), "[{2 4}]")
	}
	ofBusy(t, api.Cmd{Op: api.Del, Stop: 6, Car: 0, Other: 1}, anEdit(), "[{1 2} {2 3} {2 6} {3 2}]")
}

func TestOfDelWhoseMateIsElsewhere(t *testing.T) {
	p := done(t, busy(t), turns(turn(1, nil, []int{4, 3})))
	for _, stop := range []int{3, 6} {
		same(t, Of(sample(), p, del(stop), api.Delta{}), "[{1 1} {1 2} {2 3} {2 4} {2 6} {3 1} {3 2}]")
	}
	same(t, Of(sample(), p, del(4), api.Delta{}), "[{1 1} {2 3} {2 4} {3 1}]")
}

func TestOfMov(t *testing.T) {
	for _, c := range []struct {
		stop, car int
		want      string
	}{
		// between routes, with a mate and without
		{5, 1, "[{1 0} {1 1} {2 1} {2 2} {2 5} {3 0} {3 1}]"},
		{5, 2, "[{1 0} {1 2} {2 1} {2 2} {2 5} {2 6} {3 0} {3 2}]"},
		{1, 1, "[{1 0} {1 1} {2 1} {2 2} {2 5} {3 0} {3 1}]"},
		{2, 2, "[{1 0} {1 2} {2 1} {2 2} {2 5} {2 6} {3 0} {3 2}]"},
		{6, 1, "[{1 1} {1 2} {2 3} {2 6} {3 1} {3 2}]"},
		{3, 0, "[{1 0} {1 2} {2 1} {2 2} {2 3} {2 5} {2 6} {3 0} {3 2}]"},
		// within one
		{5, 0, "[{1 0} {2 1} {2 2} {2 5} {3 0}]"},
		{1, 0, "[{1 0} {2 1} {2 2} {2 5} {3 0}]"},
		{2, 0, "[{1 0} {2 1} {2 2} {2 5} {3 0}]"},
		{6, 2, "[{1 2} {2 3} {2 6} {3 2}]"},
		// unassigned
		{4, 0, "[{1 0} {2 1} {2 2} {2 4} {2 5} {3 0}]"},
		{7, 1, "[{1 1} {2 7} {2 8} {3 1}]"},
		// stops, cars that there are not
		{0, 2, "[{1 2} {2 6} {3 2}]"},
		{9, 1, "[{1 1} {3 1}]"},
		{4, 3, "[{2 4}]"},
		{5, 3, "[{1 0} {2 1} {2 2} {2 5} {3 0}]"},
		{6, -1, "[{1 2} {2 3} {2 6} {3 2}]"},
		{9, 3, "[]"},
	} {
		ofBusy(t, mov(c.stop, c.car), api.Delta{}, c.want)
		ofBusy(t, mov(c.stop, c.car), anEdit(), c.want)
	}
	for _, n := range noNumbers {
		ofBusy(t, mov(n, 1), anEdit(), "[{1 1} {3 1}]")
		ofBusy(t, mov(6, n), anEdit(), "[{1 2} {2 3} {2 6} {3 2}]")
		ofBusy(t, mov(n, n), anEdit(), "[]")
	}
}

func TestOfMovFromTwoRoutesToAThird(t *testing.T) {
	p := done(t, busy(t), turns(turn(1, nil, []int{4, 3})))
	for _, stop := range []int{3, 6} {
		same(t, Of(sample(), p, mov(stop, 0), api.Delta{}), "[{1 0} {1 1} {1 2} {2 1} {2 2} {2 3} {2 4} {2 5} {2 6} {3 0} {3 1} {3 2}]")
		same(t, Of(sample(), p, mov(stop, 1), api.Delta{}), "[{1 1} {1 2} {2 3} {2 4} {2 6} {3 1} {3 2}]")
	}
}

func TestOfHolds(t *testing.T) {
	for _, d := range []api.Delta{{}, anEdit()} {
		for _, op := range []int{api.Lock, api.Free} {
			for stop := 1; stop <= 8; stop++ {
				ofBusy(t, api.Cmd{Op: op, Stop: stop, Mate: -1, Other: -1}, d, fmt.Sprintf("[{2 %d}]", stop))
				ofBusy(t, api.Cmd{Op: op, Stop: stop, Car: 2, Other: 1}, d, fmt.Sprintf("[{2 %d}]", stop))
			}
			for _, n := range append(noNumbers, 0, 9) {
				ofBusy(t, api.Cmd{Op: op, Stop: n}, d, "[]")
			}
		}
		for _, op := range []int{api.Ice, api.Thaw} {
			for car := range 3 {
				ofBusy(t, api.Cmd{Op: op, Car: car, Mate: -1, Other: -1}, d, fmt.Sprintf("[{3 %d}]", car))
				ofBusy(t, api.Cmd{Op: op, Car: car, Stop: 5, Other: 1}, d, fmt.Sprintf("[{3 %d}]", car))
			}
			for _, n := range append(noNumbers, 3) {
				ofBusy(t, api.Cmd{Op: op, Car: n}, d, "[]")
			}
		}
	}
}

func TestOfOpt(t *testing.T) {
	for _, c := range []struct {
		car, other int
		want       string
	}{
		{0, 1, "[{1 0} {1 1} {2 1} {2 2} {2 3} {2 4} {2 5} {2 7} {2 8} {3 0} {3 1} {4 0}]"},
		{1, 0, "[{1 0} {1 1} {2 1} {2 2} {2 3} {2 4} {2 5} {2 7} {2 8} {3 0} {3 1} {4 0}]"},
		{2, 1, "[{1 1} {1 2} {2 3} {2 4} {2 6} {2 7} {2 8} {3 1} {3 2} {4 0}]"},
		{0, 2, "[{1 0} {1 2} {2 1} {2 2} {2 3} {2 4} {2 5} {2 6} {2 7} {2 8} {3 0} {3 2} {4 0}]"},
		// one car: no other one, or the same
		{2, -1, "[{1 2} {2 3} {2 4} {2 6} {2 7} {2 8} {3 2} {4 0}]"},
		{2, 2, "[{1 2} {2 3} {2 4} {2 6} {2 7} {2 8} {3 2} {4 0}]"},
		{1, 1, "[{1 1} {2 3} {2 4} {2 7} {2 8} {3 1} {4 0}]"},
		// cars that there are not
		{3, 1, "[{1 1} {2 3} {2 4} {2 7} {2 8} {3 1} {4 0}]"},
		{1, 3, "[{1 1} {2 3} {2 4} {2 7} {2 8} {3 1} {4 0}]"},
		{-1, -1, "[{2 3} {2 4} {2 7} {2 8} {4 0}]"},
		{3, 4, "[{2 3} {2 4} {2 7} {2 8} {4 0}]"},
	} {
		ofBusy(t, opt(c.car, c.other), api.Delta{}, c.want)
		ofBusy(t, opt(c.car, c.other), anEdit(), c.want)
	}
	for _, n := range noNumbers {
		ofBusy(t, opt(n, 1), anEdit(), "[{1 1} {2 3} {2 4} {2 7} {2 8} {3 1} {4 0}]")
		ofBusy(t, opt(1, n), anEdit(), "[{1 1} {2 3} {2 4} {2 7} {2 8} {3 1} {4 0}]")
		ofBusy(t, opt(n, n), anEdit(), "[{2 3} {2 4} {2 7} {2 8} {4 0}]")
	}
}

func TestOfOptWithNoneUnassigned(t *testing.T) {
	p := done(t, busy(t), turns(turn(1, nil, []int{4, 3, 8, 7})))
	same(t, Of(sample(), p, opt(2, -1), api.Delta{}), "[{1 2} {2 6} {3 2} {4 0}]")
	same(t, Of(sample(), p, opt(7, -1), api.Delta{}), "[{4 0}]")
	same(t, Of(sample(), p, opt(2, 1), api.Delta{}), "[{1 1} {1 2} {2 3} {2 4} {2 6} {2 7} {2 8} {3 1} {3 2} {4 0}]")
	same(t, Of(sample(), plan.New(sample()), opt(2, -1), api.Delta{}), "[{1 2} {2 1} {2 2} {2 3} {2 4} {2 5} {2 6} {2 7} {2 8} {3 2} {4 0}]")
}

func TestOfUndoAndRedo(t *testing.T) {
	for _, c := range []struct {
		d    api.Delta
		want string
	}{
		{api.Delta{}, "[]"},
		{api.Delta{Turns: []api.Turn{}, Locks: []api.Hold{}, Ices: []api.Hold{}}, "[]"},
		// a stop comes
		{turns(turn(1, nil, []int{4})), "[{1 1} {2 4} {3 1}]"},
		{turns(turn(2, []int{6}, []int{4, 6, 7})), "[{1 2} {2 4} {2 6} {2 7} {3 2}]"},
		// a stop goes
		{turns(turn(2, []int{6}, nil)), "[{1 2} {2 6} {3 2}]"},
		{turns(turn(0, []int{2, 5, 1}, []int{2, 1})), "[{1 0} {2 1} {2 2} {2 5} {3 0}]"},
		// from route to route
		{turns(turn(2, []int{6}, []int{5}), turn(0, []int{2, 5, 1}, []int{2, 6, 1})), "[{1 0} {1 2} {2 1} {2 2} {2 5} {2 6} {3 0} {3 2}]"},
		// what stands in the turn, and what stands on the route, though they are not alike
		{turns(turn(2, []int{3}, []int{7})), "[{1 2} {2 3} {2 6} {2 7} {3 2}]"},
		{turns(turn(1, []int{3}, nil)), "[{1 1} {2 3} {3 1}]"},
		{turns(turn(2, nil, nil)), "[{1 2} {2 6} {3 2}]"},
		{turns(turn(2, []int{6}, []int{6})), "[{1 2} {2 6} {3 2}]"},
		// holds: the stop alone, the hold on the route alone
		{locks(hold(8, -1, 1)), "[{2 8}]"},
		{locks(hold(5, 0, -1), hold(3, -1, 2)), "[{2 3} {2 5}]"},
		{locks(hold(5, 0, 0)), "[{2 5}]"},
		{ices(hold(1, -1, 4)), "[{3 1}]"},
		{ices(hold(2, 1, -1), hold(0, 2, 3)), "[{3 0} {3 2}]"},
		{ices(hold(1, -1, -1)), "[{3 1}]"},
		{anEdit(), "[{1 1} {1 2} {2 4} {2 6} {2 7} {2 8} {3 1} {3 2}]"},
		{api.Delta{Turns: []api.Turn{turn(1, nil, []int{4})}, Locks: []api.Hold{hold(4, -1, 1)}, Ices: []api.Hold{hold(1, -1, 1), hold(0, 2, 1)}}, "[{1 1} {2 4} {3 0} {3 1}]"},
		// one thing twice
		{turns(turn(1, nil, []int{4, 4}), turn(1, []int{4}, []int{8})), "[{1 1} {2 4} {2 8} {3 1}]"},
		{locks(hold(8, -1, 1), hold(8, 1, 2)), "[{2 8}]"},
		// stops, cars that there are not
		{turns(turn(3, nil, []int{4})), "[{2 4}]"},
		{turns(turn(-1, []int{5}, nil)), "[{2 5}]"},
		{turns(turn(1, []int{0, 9}, []int{-1, 4, 10})), "[{1 1} {2 4} {3 1}]"},
		{locks(hold(0, -1, 1), hold(9, -1, 1), hold(1, -1, 1)), "[{2 1}]"},
		{ices(hold(3, -1, 1), hold(-1, -1, 1), hold(0, -1, 1)), "[{3 0}]"},
	} {
		for _, op := range []int{api.Undo, api.Redo} {
			ofBusy(t, api.Cmd{Op: op, Mate: -1, Other: -1}, c.d, c.want)
			ofBusy(t, api.Cmd{Op: op, Stop: 3, Car: 1, Other: 2}, c.d, c.want)
		}
	}
	for _, n := range noNumbers {
		d := api.Delta{Turns: []api.Turn{turn(n, []int{n}, []int{n, 4})}, Locks: []api.Hold{hold(n, n, n)}, Ices: []api.Hold{hold(n, n, n)}}
		ofBusy(t, api.Cmd{Op: api.Undo}, d, "[{2 4}]")
		ofBusy(t, api.Cmd{Op: api.Redo}, d, "[{2 4}]")
	}
}

func TestOfAskers(t *testing.T) {
	for _, d := range []api.Delta{{}, anEdit()} {
		for car := range 3 {
			ofBusy(t, api.Cmd{Op: api.Show, Car: car, Mate: -1, Other: -1}, d, fmt.Sprintf("[{1 %d}]", car))
			ofBusy(t, api.Cmd{Op: api.Show, Car: car, Stop: 4, Other: 1}, d, fmt.Sprintf("[{1 %d}]", car))
		}
		for _, n := range append(noNumbers, 3) {
			ofBusy(t, api.Cmd{Op: api.Show, Car: n}, d, "[]")
			ofBusy(t, api.Cmd{Op: api.Pool, Stop: n, Car: n, Other: n}, d, "[{4 0}]")
			ofBusy(t, api.Cmd{Op: api.Cost, Stop: n, Car: n, Other: n}, d, "[{1 0} {1 1} {1 2} {4 0}]")
		}
		ofBusy(t, api.Cmd{Op: api.Pool, Stop: 4, Car: 1, Other: 2}, d, "[{4 0}]")
		ofBusy(t, api.Cmd{Op: api.Cost, Stop: 4, Car: 1, Other: 2}, d, "[{1 0} {1 1} {1 2} {4 0}]")
	}
}

func TestOfNoCommand(t *testing.T) {
	for _, op := range []int{0, 14, 15, 77, 1<<8 + api.Pool, 1<<32 + api.Add, -1, -api.Cost, -1<<32 + api.Opt, math.MinInt, math.MaxInt} {
		ofBusy(t, api.Cmd{Op: op, Stop: 4, Car: 1, Other: 2}, anEdit(), "[]")
	}
}

// A plan without stops, with one car; and none at all.
func TestOfPlansWithLittle(t *testing.T) {
	i := api.Inst{Cars: make([]api.Car, 1), Travel: [][]int{{0}}}
	little := map[int]string{api.Add: "[{1 0} {3 0}]", api.Mov: "[{1 0} {3 0}]", api.Ice: "[{3 0}]", api.Thaw: "[{3 0}]", api.Opt: "[{1 0} {3 0} {4 0}]", api.Undo: "[]", api.Redo: "[]", api.Show: "[{1 0}]", api.Pool: "[{4 0}]", api.Cost: "[{1 0} {4 0}]"}
	none := map[int]string{api.Opt: "[{4 0}]", api.Pool: "[{4 0}]", api.Cost: "[{4 0}]"}
	for op := range 16 {
		for stop := range 3 {
			c := api.Cmd{Op: op, Stop: stop, Other: 1}
			same(t, Of(i, plan.New(i), c, api.Delta{}), orNothing(little[op]))
			same(t, Of(api.Inst{}, api.Plan{}, c, anEdit()), orNothing(none[op]))
			same(t, Of(sample(), api.Plan{}, c, anEdit()), orNothing(none[op]))
		}
	}
}

func orNothing(text string) string {
	if text == "" {
		return "[]"
	}
	return text
}
