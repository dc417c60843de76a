package trove

import (
	"slices"

	"trove/api"
)

// fits tells whether a heap can be made so (P2).
func fits(c api.Config) bool {
	return within(c.Room, 1, api.MaxRoom) &&
		within(c.Locals, 1, api.MaxSlots) &&
		within(c.Globals, 1, api.MaxSlots) &&
		within(c.Weaks, 1, api.MaxSlots) &&
		within(len(c.Classes), 1, api.MaxClasses) &&
		!slices.ContainsFunc(c.Classes, badClass)
}

func badClass(kinds []int) bool {
	return len(kinds) > api.MaxFields || slices.ContainsFunc(kinds, badKind)
}

func badKind(kind int) bool { return kind != api.Number && kind != api.Reference }

func within(v, least, most int) bool { return v == min(max(v, least), most) }

// copied gives classes that share nothing with those handed in, which the caller may go on writing into.
func copied(classes [][]int) [][]int {
	out := make([][]int, len(classes))
	for i, kinds := range classes {
		out[i] = slices.Clone(kinds)
	}
	return out
}
