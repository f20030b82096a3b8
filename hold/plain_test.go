package hold

import (
	"fmt"
	"math/rand"
	"slices"
	"testing"

	"drayman/api"
	"drayman/delta"
	"drayman/plan"
)

// The promise word by word, in the plainest way: of edits that the plan takes, by where each stop is ahead of the edit and behind it.

func plainIced(p, q api.Plan, who int) bool {
	for car := range p.Routes {
		if fmt.Sprint(p.Routes[car]) != fmt.Sprint(q.Routes[car]) && p.Ice[car] != -1 {
			return true
		}
		if p.Ice[car] != q.Ice[car] && p.Ice[car] != -1 && p.Ice[car] != who {
			return true
		}
	}
	return false
}

func plainHeld(p, q api.Plan, who int) bool {
	for stop := 1; stop < len(p.Lock); stop++ {
		car, at := plan.Where(p, stop)
		car2, at2 := plan.Where(q, stop)
		moves := car != car2 || at != at2 || p.Lock[stop] != q.Lock[stop]
		if moves && p.Lock[stop] != -1 && p.Lock[stop] != who {
			return true
		}
	}
	return false
}

func plainMay(p, q api.Plan, who int) api.Errno {
	switch {
	case plainIced(p, q, who):
		return api.ErrIced
	case plainHeld(p, q, who):
		return api.ErrHeld
	}
	return api.OK
}

// drawnTurns are turns of one or two cars: their stops, and perhaps some that are unassigned, in another order, with some left out.
func drawnTurns(chance *rand.Rand, p api.Plan) []api.Turn {
	var list []api.Turn
	cars := chance.Perm(len(p.Routes))[:1+chance.Intn(2)]
	stops := plan.Unassigned(p)[:chance.Intn(min(2, len(plan.Unassigned(p))+1))]
	for _, car := range cars {
		stops = append(stops, p.Routes[car]...)
	}
	if chance.Intn(2) == 0 {
		chance.Shuffle(len(stops), func(a, b int) { stops[a], stops[b] = stops[b], stops[a] })
	}
	stops = stops[chance.Intn(min(2, len(stops)+1)):]
	for _, car := range cars {
		take := min(len(stops), len(p.Routes[car])+chance.Intn(2))
		list = append(list, turn(car, slices.Clone(p.Routes[car]), slices.Clone(stops[:take])))
		stops = stops[take:]
	}
	return list
}

// drawn is an edit that the plan takes.
func drawn(chance *rand.Rand, p api.Plan) api.Delta {
	var d api.Delta
	if chance.Intn(4) > 0 {
		d.Turns = drawnTurns(chance, p)
	}
	if chance.Intn(3) == 0 {
		for _, stop := range chance.Perm(len(p.Lock) - 1)[:1+chance.Intn(2)] {
			d.Locks = append(d.Locks, hold(stop+1, p.Lock[stop+1], chance.Intn(4)-1))
		}
	}
	if chance.Intn(4) == 0 {
		car := chance.Intn(len(p.Ice))
		d.Ices = append(d.Ices, hold(car, p.Ice[car], chance.Intn(4)-1))
	}
	return d
}

// Sessions 0 to 2 edit a plan, as far as they may; now and then one ends.
func TestMayAgainstThePlainestWay(t *testing.T) {
	chance := rand.New(rand.NewSource(9))
	met := map[api.Errno]int{}
	p := plan.New(sample())
	for round := range 20000 {
		who := chance.Intn(4) - 1
		if round%20 == 0 {
			d := Release(p, who)
			q := done(t, p, d)
			if e := May(p, who, d); e != api.OK {
				t.Fatalf("release of %d from %v: %d", who, p, e)
			}
			same(t, d, delta.Tidy(d))
			left(t, p, q, who)
			p = q
		}
		d := drawn(chance, p)
		q := done(t, p, d)
		want := plainMay(p, q, who)
		if e := May(p, who, d); e != want {
			t.Fatalf("%d asks for %+v of %v: %d; want %d", who, d, p, e, want)
		}
		met[want]++
		if want == api.OK {
			p = q
		}
	}
	if met[api.OK] < 2000 || met[api.ErrIced] < 2000 || met[api.ErrHeld] < 2000 {
		t.Error(met)
	}
}
