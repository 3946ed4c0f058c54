package graph

import (
	"slices"

	"strata/api"
	"strata/expand"
)

// variables are the file's variables, of which the last one of a name counts. One that has no value stands there with an empty one, since nobody tells the two apart.
func variables(f api.File, args []api.Pair) ([]api.Pair, error) {
	var vars []api.Pair
	for _, step := range f.Args {
		pair := step.Pairs[0]
		val, is := givenValue(args, pair.Key)
		if !is {
			text, err := expanded(pair.Val, f.Escape, vars, step.Line)
			if err != nil {
				return nil, err
			}
			val = text
		}
		vars = append(vars, api.Pair{Key: pair.Key, Val: val})
	}
	return vars, nil
}

// givenValue is the value that was given for a variable, if there is one.
func givenValue(args []api.Pair, key string) (string, bool) {
	for _, given := range slices.Backward(args) {
		if given.Key == key {
			return given.Val, true
		}
	}
	return "", false
}

// expanded is a word of that line as it is meant. All else that could be wrong with it, layer check has refused.
func expanded(raw string, escape byte, vars []api.Pair, line int) (string, error) {
	text, err := expand.Word(raw, escape, vars)
	if err != nil {
		return "", api.Fault{No: api.ErrMany, Line: line}
	}
	return text, nil
}
