package graph

import (
	"slices"

	"strata/api"
)

// targetOf is the number of the stage that a target says.
func targetOf(stages []api.Stage, target string) (int, bool) {
	if target == "" {
		return len(stages) - 1, true
	}
	if place := placeOf(stages, target); place >= 0 {
		return place, true
	}
	number, is := numberOf(target, len(stages))
	return number, is && number < len(stages)
}

// needed are the numbers of the stages that the last one of them needs, and itself. Since a stage needs only earlier ones, all that need one have been met when it is reached from behind.
func needed(nodes []api.Node, last int) []int {
	need := []int{last}
	met := references(nodes[last])
	for number := last - 1; number >= 0; number-- {
		if slices.Contains(met, api.Ref{Kind: api.RStage, Stage: number}) {
			need = append(need, number)
			met = append(met, references(nodes[number])...)
		}
	}
	slices.Reverse(need)
	return need
}

// images are the names of the images that stages need, in the order in which they are met.
func images(nodes []api.Node, need []int) []string {
	var met []api.Ref
	var names []string
	for _, number := range need {
		for _, ref := range references(nodes[number]) {
			if ref.Kind == api.RImage && !slices.Contains(met, ref) {
				met = append(met, ref)
				names = append(names, ref.Name)
			}
		}
	}
	return names
}

// references are all of a node, in order.
func references(n api.Node) []api.Ref {
	return append([]api.Ref{n.Base}, n.Froms...)
}
