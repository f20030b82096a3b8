package fits

import (
	"slices"

	"drayman/api"
)

// copyOf answers the problem in new memory: heads and tails are made of it at one time and asked at another, and must not part from it meanwhile.
func copyOf(i api.Inst) api.Inst {
	travel := make([][]int, len(i.Travel))
	for from, row := range i.Travel {
		travel[from] = slices.Clone(row)
	}
	return api.Inst{Cars: slices.Clone(i.Cars), Stops: slices.Clone(i.Stops), Pairs: slices.Clone(i.Pairs), Travel: travel}
}

func alike(a, b api.Inst) bool {
	if !slices.Equal(a.Cars, b.Cars) || !slices.Equal(a.Stops, b.Stops) || !slices.Equal(a.Pairs, b.Pairs) {
		return false
	}
	return slices.EqualFunc(a.Travel, b.Travel, slices.Equal[[]int])
}
