package plan

import (
	"slices"

	"drayman/api"
	"drayman/delta"
)

// A plan that is none may have lists of unlike lengths: there are only so many cars and stops as all of their lists have.

func carThere(p api.Plan, car int) bool {
	return car >= 0 && car < min(len(p.Routes), len(p.Ice), len(p.RV), len(p.IV))
}

func stopThere(p api.Plan, stop int) bool {
	return stop >= 1 && stop < min(len(p.Lock), len(p.SV))
}

func allStopsThere(p api.Plan, stops []int) bool {
	for _, stop := range stops {
		if !stopThere(p, stop) {
			return false
		}
	}
	return true
}

// allThere tells whether there are all cars and stops that the edit names, ahead of it as well as behind it.
func allThere(p api.Plan, d api.Delta) bool {
	for _, turn := range d.Turns {
		if !carThere(p, turn.Car) || !allStopsThere(p, turn.Before) || !allStopsThere(p, turn.After) {
			return false
		}
	}
	for _, lock := range d.Locks {
		if !stopThere(p, lock.N) {
			return false
		}
	}
	for _, ice := range d.Ices {
		if !carThere(p, ice.N) {
			return false
		}
	}
	return true
}

// asItIs tells whether the plan is what the edit takes it for; what the edit names is there, already.
func asItIs(p api.Plan, d api.Delta) bool {
	for _, turn := range d.Turns {
		if !slices.Equal(p.Routes[turn.Car], turn.Before) {
			return false
		}
	}
	for _, lock := range d.Locks {
		if p.Lock[lock.N] != lock.Before {
			return false
		}
	}
	for _, ice := range d.Ices {
		if p.Ice[ice.N] != ice.Before {
			return false
		}
	}
	return true
}

// change makes the plan as the edit says; what the edit names is there, already.
func change(p *api.Plan, d api.Delta) {
	for _, turn := range d.Turns {
		p.Routes[turn.Car] = slices.Clone(turn.After)
	}
	for _, lock := range d.Locks {
		p.Lock[lock.N] = lock.After
	}
	for _, ice := range d.Ices {
		p.Ice[ice.N] = ice.After
	}
}

// anyTwice tells whether a stop comes twice, on one route or on two.
func anyTwice(routes [][]int) bool {
	stops := slices.Concat(routes...)
	all := len(stops)
	slices.Sort(stops)
	return len(slices.Compact(stops)) < all
}

// raise raises the versions of what a tidy edit changes.
func raise(p *api.Plan, tidy api.Delta) {
	for _, turn := range tidy.Turns {
		p.RV[turn.Car]++
	}
	for _, ice := range tidy.Ices {
		p.IV[ice.N]++
	}
	stops := delta.Moved(tidy)
	if len(stops) > 0 {
		p.PV++
	}
	for _, lock := range tidy.Locks {
		stops = append(stops, lock.N)
	}
	slices.Sort(stops)
	// A stop that moves and changes its holder is one more, not two.
	for _, stop := range slices.Compact(stops) {
		p.SV[stop]++
	}
}
