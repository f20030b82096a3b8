package tab

import (
	"drayman/api"
	"drayman/inst"
)

// headAgrees tells whether the head's numbers agree with its stops, as those of each head that is made of the problem and the car do: with others neither a list may be asked nor a sum be made.
func headAgrees(i api.Inst, car api.Car, h Head) bool {
	if h.Set == 0 {
		return h == begin(car)
	}
	if !h.OK || !stopsOnly(i, h.Set) || !stopThere(i, h.Last) || !has(h.Set, h.Last) {
		return false
	}
	open, need := halves(i, h.Set)
	if need != 0 || h.Open != open || inst.First(i, h.Last) && !has(open, h.Last) {
		return false
	}
	last := i.Stops[h.Last-1]
	loaded, unloaded, service := sums(i, h.Set)
	if h.Load != loaded+unloaded || h.Load < 0 || h.Load > car.Cap {
		return false
	}
	if h.Leave < last.Open+last.Service || h.Leave > last.Close+last.Service {
		return false
	}
	// All time that is neither travel nor service is waiting.
	return h.Cost >= 0 && h.Cost <= h.Leave-car.Start-service
}

// tailAgrees tells of a tail what headAgrees tells of a head.
func tailAgrees(i api.Inst, car api.Car, t Tail) bool {
	if t.Set == 0 {
		return t == end(car)
	}
	if !t.OK || !stopsOnly(i, t.Set) || !stopThere(i, t.First) || !has(t.Set, t.First) {
		return false
	}
	open, need := halves(i, t.Set)
	if open != 0 || t.Need != need || isSecond(i, t.First) && !has(need, inst.Mate(i, t.First)) {
		return false
	}
	first := i.Stops[t.First-1]
	if t.Late < first.Open || t.Late > first.Close {
		return false
	}
	loaded, unloaded, service := sums(i, t.Set)
	if t.Low < unloaded || t.Low > min(0, loaded+unloaded) || t.High < max(0, loaded+unloaded) || t.High > loaded {
		return false
	}
	// All time that is neither travel nor service is to spare.
	return t.Cost >= 0 && t.Cost <= car.End-t.Late-service
}

func isSecond(i api.Inst, stop int) bool {
	return inst.Mate(i, stop) != 0 && !inst.First(i, stop)
}
