package parse

import "strata/api"

// reader puts a file together out of its statements.
type reader struct {
	file         api.File
	steps        int // of the Args and of all stages
	instructions map[string]instruction
}

// take reads a statement.
func (r *reader) take(s statement) error {
	read, known := r.instructions[s.instruction()]
	if !known {
		return s.faultAtHead(api.ErrOp)
	}
	return read(r, s)
}

// step takes a statement that is a step, of which its instruction reads what stands behind it.
func (r *reader) step(s statement, op api.Op, read func(statement, *api.Step) error) error {
	if len(r.file.Stages) == 0 && op != api.OpArg {
		return s.faultAtHead(api.ErrStage)
	}
	if r.steps == api.MaxSteps {
		return s.faultAtHead(api.ErrMany)
	}
	step := api.Step{Op: op, Line: s.line.Line}
	if err := read(s, &step); err != nil {
		return err
	}
	r.put(step)
	return nil
}

// put puts a step behind those of the stage begun last, or of the Args if there is none yet.
func (r *reader) put(step api.Step) {
	r.steps++
	if begun := len(r.file.Stages); begun > 0 {
		last := &r.file.Stages[begun-1]
		last.Steps = append(last.Steps, step)
		return
	}
	r.file.Args = append(r.file.Args, step)
}

// stage takes a statement that begins a stage.
func (r *reader) stage(s statement) error {
	if len(r.file.Stages) == api.MaxStages {
		return s.faultAtHead(api.ErrMany)
	}
	stage, err := s.stage()
	if err != nil {
		return err
	}
	r.file.Stages = append(r.file.Stages, stage)
	return nil
}
