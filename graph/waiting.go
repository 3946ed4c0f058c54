package graph

import (
	"slices"

	"strata/api"
)

// waiting is what the stages of a plan wait for.
type waiting struct {
	stages  []int   // rising
	open    []int   // by number: how many references of the stage lead to what is in no wave so far
	waiters [][]int // by number: the stages that wait for it, once for each of their references
}

// newWaiting is how it stands ahead of the first wave.
func newWaiting(p api.Plan) waiting {
	w := waiting{open: make([]int, len(p.Nodes)), waiters: make([][]int, len(p.Nodes))}
	w.stages = stagesOf(p)
	for _, stage := range w.stages {
		for _, ref := range references(p.Nodes[stage]) {
			w.add(stage, ref)
		}
	}
	return w
}

// stagesOf are the stages of a plan, whose Need may hold any numbers.
func stagesOf(p api.Plan) []int {
	var stages []int
	for _, number := range p.Need {
		if isPlace(number, len(p.Nodes)) {
			stages = append(stages, number)
		}
	}
	slices.Sort(stages)
	return slices.Compact(stages)
}

func isPlace(number, size int) bool { return number >= 0 && number < size }

// add has a stage wait for what it refers to. What is none of the stages never comes, and the stage waits for ever.
func (w waiting) add(stage int, ref api.Ref) {
	if ref.Kind != api.RStage {
		return
	}
	w.open[stage]++
	if isPlace(ref.Stage, len(w.waiters)) {
		w.waiters[ref.Stage] = append(w.waiters[ref.Stage], stage)
	}
}

// first is the first wave.
func (w waiting) first() []int {
	var wave []int
	for _, stage := range w.stages {
		if w.open[stage] == 0 {
			wave = append(wave, stage)
		}
	}
	return wave
}

// behind is the wave behind this one.
func (w waiting) behind(wave []int) []int {
	var next []int
	for _, done := range wave {
		for _, stage := range w.waiters[done] {
			w.open[stage]--
			if w.open[stage] == 0 {
				next = append(next, stage)
			}
		}
	}
	slices.Sort(next)
	return next
}
