package print

import (
	"slices"

	"strata/api"
)

// alike tells whether two files are the same but for the numbers of lines.
func alike(a, b api.File) bool {
	return a.Escape == b.Escape && slices.EqualFunc(a.Args, b.Args, alikeSteps) && slices.EqualFunc(a.Stages, b.Stages, alikeStages)
}

func alikeStages(a, b api.Stage) bool {
	return a.Base == b.Base && a.Name == b.Name && slices.EqualFunc(a.Steps, b.Steps, alikeSteps)
}

func alikeSteps(a, b api.Step) bool {
	return a.Op == b.Op && a.From == b.From && a.Mode == b.Mode && a.Force == b.Force && a.Bare == b.Bare &&
		slices.Equal(a.Pairs, b.Pairs) && slices.Equal(a.Words, b.Words) &&
		slices.EqualFunc(a.Docs, b.Docs, alikeDocs) && slices.Equal(a.Exec, b.Exec)
}

func alikeDocs(a, b api.Doc) bool {
	return a.Name == b.Name && a.Raw == b.Raw && a.Text == b.Text
}
