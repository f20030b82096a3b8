package seen

import (
	"cmp"
	"maps"
	"slices"

	"drayman/api"
	"drayman/inst"
	"drayman/plan"
)

// Of answers what the command looks at, each key once, by Kind, then N, rising; d is the edit that an undo or a redo would do.
func Of(i api.Inst, p api.Plan, c api.Cmd, d api.Delta) []Key {
	// A view has each key once, however often it is looked at.
	view := Look(p, lookedAt(i, p, c, d)...)
	maps.DeleteFunc(view, func(key Key, _ int) bool { return !there(p, key) })
	return slices.SortedFunc(maps.Keys(view), rising)
}

func rising(a, b Key) int {
	return cmp.Or(cmp.Compare(a.Kind, b.Kind), cmp.Compare(a.N, b.N))
}

// lookedAt answers the same in any order, with keys that are there twice, or not at all.
func lookedAt(i api.Inst, p api.Plan, c api.Cmd, d api.Delta) []Key {
	switch c.Op {
	case api.Add:
		return byAdd(i, p, c)
	case api.Del:
		return byDel(i, p, c)
	case api.Mov:
		return append(byAdd(i, p, c), byDel(i, p, c)...)
	case api.Lock, api.Free:
		return []Key{{Stop, c.Stop}}
	case api.Ice, api.Thaw:
		return []Key{{Ice, c.Car}}
	case api.Opt:
		return byOpt(p, c)
	case api.Undo, api.Redo:
		return byEdit(p, d)
	case api.Show:
		return []Key{{Route, c.Car}}
	case api.Pool:
		return []Key{{Pool, 0}}
	case api.Cost:
		return byCost(p)
	}
	return nil
}

// withMate answers the stop and its mate, 0 if it has none: no stop is numbered so.
func withMate(i api.Inst, stop int) []int {
	return []int{stop, inst.Mate(i, stop)}
}

func byAdd(i api.Inst, p api.Plan, c api.Cmd) []Key {
	return append(stopKeys(withMate(i, c.Stop)), Whole(p, c.Car)...)
}

func byDel(i api.Inst, p api.Plan, c api.Cmd) []Key {
	stops := withMate(i, c.Stop)
	keys := stopKeys(stops)
	for _, stop := range stops {
		car, _ := plan.Where(p, stop)
		keys = append(keys, Whole(p, car)...)
	}
	return keys
}

func byOpt(p api.Plan, c api.Cmd) []Key {
	keys := append(Whole(p, c.Car), Whole(p, c.Other)...)
	keys = append(keys, Key{Pool, 0})
	return append(keys, stopKeys(plan.Unassigned(p))...)
}

func byEdit(p api.Plan, d api.Delta) []Key {
	var keys []Key
	for _, turn := range d.Turns {
		keys = append(keys, Whole(p, turn.Car)...)
		keys = append(keys, stopKeys(turn.Before)...)
		keys = append(keys, stopKeys(turn.After)...)
	}
	for _, lock := range d.Locks {
		keys = append(keys, Key{Stop, lock.N})
	}
	for _, ice := range d.Ices {
		keys = append(keys, Key{Ice, ice.N})
	}
	return keys
}

func byCost(p api.Plan) []Key {
	keys := []Key{{Pool, 0}}
	for car := range p.Routes {
		keys = append(keys, Key{Route, car})
	}
	return keys
}
