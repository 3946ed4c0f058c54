package graph

import (
	"slices"
	"strings"

	"strata/api"
	"strata/check"
)

// scratch is the base that is no image and no stage.
const scratch = "scratch"

// makeNodes tells of each stage what it begins with and what it copies from.
func makeNodes(f api.File, vars []api.Pair) ([]api.Node, error) {
	var nodes []api.Node
	for i, stage := range f.Stages {
		text, err := expanded(stage.Base, f.Escape, vars, stage.Line)
		if err != nil {
			return nil, err
		}
		base, no := baseOf(f.Stages, i, text)
		if no != api.OK {
			return nil, api.Fault{No: no, Line: stage.Line}
		}
		froms, err := fromsOf(f.Stages, i)
		if err != nil {
			return nil, err
		}
		nodes = append(nodes, api.Node{Base: base, Froms: froms})
	}
	return nodes, nil
}

// fromsOf tells of each step of the stage with that number what it copies from.
func fromsOf(stages []api.Stage, this int) ([]api.Ref, error) {
	froms := make([]api.Ref, len(stages[this].Steps))
	for i, step := range stages[this].Steps {
		if step.From == "" {
			continue
		}
		from, no := fromOf(stages, this, step.From)
		if no != api.OK {
			return nil, api.Fault{No: no, Line: step.Line}
		}
		froms[i] = from
	}
	return froms, nil
}

func baseOf(stages []api.Stage, this int, text string) (api.Ref, api.Errno) {
	switch text {
	case "":
		return api.Ref{}, api.ErrEmpty
	case scratch:
		return api.Ref{Kind: api.RScratch}, api.OK
	}
	return named(stages, this, text)
}

func fromOf(stages []api.Stage, this int, text string) (api.Ref, api.Errno) {
	if number, is := numberOf(text, len(stages)); is {
		if number == len(stages) {
			return api.Ref{}, api.ErrStage
		}
		return earlier(number, this)
	}
	return named(stages, this, text)
}

// named is the stage that has this name, or else the image.
func named(stages []api.Stage, this int, name string) (api.Ref, api.Errno) {
	if number := placeOf(stages, name); number >= 0 {
		return earlier(number, this)
	}
	if check.Ref(name) != nil {
		return api.Ref{}, api.ErrRef
	}
	return api.Ref{Kind: api.RImage, Name: fullForm(name)}, api.OK
}

// earlier is the stage with that number, which this one may only use if it stands behind it.
func earlier(number, this int) (api.Ref, api.Errno) {
	if number >= this {
		return api.Ref{}, api.ErrForward
	}
	return api.Ref{Kind: api.RStage, Stage: number}, api.OK
}

// placeOf is the number of the stage that has this name, which isn't empty; -1: there is none.
func placeOf(stages []api.Stage, name string) int {
	return slices.IndexFunc(stages, func(s api.Stage) bool { return s.Name == name })
}

// numberOf is the number that a text of digits alone says, or the limit, if it isn't below that.
func numberOf(text string, limit int) (int, bool) {
	number := 0
	for i := range len(text) {
		if text[i] < '0' || text[i] > '9' {
			return 0, false
		}
		number = min(10*number+int(text[i]-'0'), limit)
	}
	return number, text != ""
}

// fullForm is a reference with its tag.
func fullForm(ref string) string {
	if strings.Contains(ref, ":") {
		return ref
	}
	return ref + ":latest"
}
