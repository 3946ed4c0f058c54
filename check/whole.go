package check

import "strata/api"

// checkFile gives up at the first thing that is wrong.
func checkFile(f api.File) {
	whole := place{escape: f.Escape}
	whole.refuseIf(f.Escape != '\\' && f.Escape != '`', api.ErrArg)
	whole.refuseIf(len(f.Stages) == 0, api.ErrShort)
	whole.refuseIf(len(f.Stages) > api.MaxStages || countSteps(f) > api.MaxSteps, api.ErrMany)
	for _, step := range f.Args {
		p := place{line: step.Line, escape: f.Escape}
		p.refuseIf(step.Op != api.OpArg, api.ErrOp)
		p.step(step)
	}
	for i, stage := range f.Stages {
		place{line: stage.Line, escape: f.Escape}.stage(stage, f.Stages[:i])
		for _, step := range stage.Steps {
			place{line: step.Line, escape: f.Escape}.step(step)
		}
	}
}

// countSteps counts the file's steps, its Args among them.
func countSteps(f api.File) int {
	count := len(f.Args)
	for _, stage := range f.Stages {
		count += len(stage.Steps)
	}
	return count
}

// stage looks at what a stage begins with.
func (p place) stage(s api.Stage, earlier []api.Stage) {
	p.readable(s.Base, s.Name)
	p.refuseIf(s.Base == "", api.ErrShort)
	p.word(s.Base)
	if s.Name == "" {
		return
	}
	p.refuseIf(!isStageName(s.Name), api.ErrName)
	for _, other := range earlier {
		p.refuseIf(other.Name == s.Name, api.ErrTwice)
	}
}
