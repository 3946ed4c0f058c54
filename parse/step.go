package parse

import (
	"strings"

	"strata/api"
	"strata/json"
)

// stage is the stage that FROM begins.
func (s statement) stage() (api.Stage, error) {
	list, err := s.arguments(1, 3)
	if err != nil {
		return api.Stage{}, err
	}
	stage := api.Stage{Line: s.line.Line, Base: list[0].Raw}
	if len(list) == 1 {
		return stage, nil
	}
	if len(list) == 2 {
		return api.Stage{}, s.faultAtHead(api.ErrShort)
	}
	if small(list[1].Raw) != "as" {
		return api.Stage{}, s.fault(api.ErrForm, list[1].At)
	}
	stage.Name = small(list[2].Raw)
	return stage, nil
}

// variable keeps in the step what ARG says.
func (s statement) variable(step *api.Step) error {
	list, err := s.arguments(1, 1)
	if err != nil {
		return err
	}
	if !strings.Contains(list[0].Raw, "=") {
		step.Pairs, step.Bare = []api.Pair{{Key: list[0].Raw}}, true
		return nil
	}
	step.Pairs, err = s.cutPairs(list)
	return err
}

// pairs keeps in the step what ENV or LABEL says.
func (s statement) pairs(step *api.Step) error {
	list, err := s.arguments(1, many)
	if err != nil {
		return err
	}
	step.Pairs, err = s.cutPairs(list)
	return err
}

// cutPairs cuts each argument into a key and a value.
func (s statement) cutPairs(list []api.Word) ([]api.Pair, error) {
	var pairs []api.Pair
	for _, word := range list {
		key, value, cut := strings.Cut(word.Raw, "=")
		if !cut || key == "" {
			return nil, s.fault(api.ErrForm, word.At)
		}
		pairs = append(pairs, api.Pair{Key: key, Val: value})
	}
	return pairs, nil
}

// exec keeps in the step what CMD or ENTRYPOINT says. Its rest isn't cut into words: quotes and escapes are those of JSON.
func (s statement) exec(step *api.Step) error {
	rest, begin := s.rest()
	list, err := json.Parse(rest)
	if err != nil {
		return s.faultFrom(err, begin)
	}
	if list.Kind != api.JList {
		return s.fault(api.ErrForm, begin)
	}
	for _, item := range list.Items {
		if item.Kind != api.JText {
			return s.fault(api.ErrForm, begin)
		}
		step.Exec = append(step.Exec, item.Text)
	}
	if len(step.Exec) > api.MaxWords {
		return s.fault(api.ErrMany, begin)
	}
	return nil
}
