package tab

import "drayman/api"

// A set of stops is a number with a digit for each; the stops asked of it are there, so that no digit is past the last one.

func digit(stop int) uint32 {
	return 1 << uint32(stop)
}

func has(set uint32, stop int) bool {
	return set&digit(stop) != 0
}

// stopsOnly tells whether each digit of the set is that of a stop.
func stopsOnly(i api.Inst, set uint32) bool {
	all := digit(len(i.Stops)+1) - digit(1)
	return set&^all == 0
}

// halves answers the firsts of the pairs of which the set has one stop alone: open, where that is the first one, need, where it is the second one.
func halves(i api.Inst, set uint32) (open, need uint32) {
	for _, pair := range i.Pairs {
		first, second := has(set, pair[0]), has(set, pair[1])
		if first && !second {
			open |= digit(pair[0])
		}
		if second && !first {
			need |= digit(pair[0])
		}
	}
	return open, need
}

// sums answers what all stops of the set load, what they unload (as a number below 0), and how long they take.
func sums(i api.Inst, set uint32) (loaded, unloaded, service int) {
	for at, stop := range i.Stops {
		if !has(set, at+1) {
			continue
		}
		loaded += max(0, stop.Demand)
		unloaded += min(0, stop.Demand)
		service += stop.Service
	}
	return loaded, unloaded, service
}
