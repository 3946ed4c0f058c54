package graph_test

import (
	"errors"
	"maps"
	"math/big"
	"regexp"
	"slices"
	"strings"

	"strata/api"
	"strata/check"
	"strata/expand"
)

// A second telling of the chapter: variables stand in a map, numbers are big ones, what is needed grows until it grows no more, and of each wave every stage is asked anew.

// wrong is an error with its place; no number: nothing is wrong.
type wrong struct {
	api.Fault
	noPlace bool
}

var digits = regexp.MustCompile(`^[0-9]+$`)

// plainPlan is what Make is to answer.
func plainPlan(f api.File, args []api.Pair, target string) (api.Plan, wrong) {
	var fault api.Fault
	if errors.As(check.File(f), &fault) {
		return api.Plan{}, wrong{Fault: fault}
	}
	values := map[string]string{}
	for _, s := range f.Args {
		if no := plainArg(values, s, f.Escape, args); no != api.OK {
			return api.Plan{}, wrong{Fault: api.Fault{No: no, Line: s.Line}}
		}
	}
	var p api.Plan
	for i, s := range f.Stages {
		base, err := expand.Word(s.Base, f.Escape, pairsOf(values))
		ref, no := plainBase(f, i, base)
		if err != nil {
			no = api.ErrMany
		}
		if no != api.OK {
			return api.Plan{}, wrong{Fault: api.Fault{No: no, Line: s.Line}}
		}
		n := api.Node{Base: ref}
		for _, step := range s.Steps {
			ref, no := plainFrom(f, i, step.From)
			if no != api.OK {
				return api.Plan{}, wrong{Fault: api.Fault{No: no, Line: step.Line}}
			}
			n.Froms = append(n.Froms, ref)
		}
		p.Nodes = append(p.Nodes, n)
	}
	p.Target = plainTarget(f, target)
	if p.Target < 0 {
		return api.Plan{}, wrong{Fault: api.Fault{No: api.ErrStage}, noPlace: true}
	}
	p.Need = plainNeed(p)
	p.Images = plainImages(p)
	return p, wrong{}
}

// plainArg does an ARG ahead of the first stage.
func plainArg(values map[string]string, s api.Step, escape byte, args []api.Pair) api.Errno {
	key := s.Pairs[0].Key
	given := map[string]string{}
	for _, pair := range args {
		given[pair.Key] = pair.Val
	}
	if val, is := given[key]; is {
		values[key] = val
		return api.OK
	}
	if s.Bare {
		delete(values, key)
		return api.OK
	}
	val, err := expand.Word(s.Pairs[0].Val, escape, pairsOf(values))
	if err != nil {
		return api.ErrMany
	}
	values[key] = val
	return api.OK
}

func pairsOf(values map[string]string) []api.Pair {
	var list []api.Pair
	for key, val := range values {
		list = append(list, api.Pair{Key: key, Val: val})
	}
	return list
}

func plainBase(f api.File, this int, base string) (api.Ref, api.Errno) {
	if base == "" {
		return api.Ref{}, api.ErrEmpty
	}
	if base == "scratch" {
		return api.Ref{}, api.OK
	}
	return plainName(f, this, base)
}

func plainFrom(f api.File, this int, from string) (api.Ref, api.Errno) {
	if from == "" {
		return api.Ref{}, api.OK
	}
	if !digits.MatchString(from) {
		return plainName(f, this, from)
	}
	number, _ := new(big.Int).SetString(from, 10)
	switch {
	case number.Cmp(big.NewInt(int64(this))) < 0:
		return api.Ref{Kind: 1, Stage: int(number.Int64())}, api.OK
	case number.Cmp(big.NewInt(int64(len(f.Stages)))) >= 0:
		return api.Ref{}, api.ErrStage
	}
	return api.Ref{}, api.ErrForward
}

func plainName(f api.File, this int, name string) (api.Ref, api.Errno) {
	for i, s := range f.Stages {
		if s.Name != name {
			continue
		}
		if i < this {
			return api.Ref{Kind: 1, Stage: i}, api.OK
		}
		return api.Ref{}, api.ErrForward
	}
	if check.Ref(name) != nil {
		return api.Ref{}, api.ErrRef
	}
	if strings.Count(name, ":") == 0 {
		name += ":latest"
	}
	return api.Ref{Kind: 2, Name: name}, api.OK
}

// plainTarget is -1, where there is no such stage.
func plainTarget(f api.File, target string) int {
	if target == "" {
		target = big.NewInt(int64(len(f.Stages) - 1)).String()
	}
	for i, s := range f.Stages {
		if s.Name == target || digits.MatchString(target) && strings.TrimLeft(target, "0") == strings.TrimLeft(big.NewInt(int64(i)).String(), "0") {
			return i
		}
	}
	return -1
}

// needs tells the numbers that a node names.
func needs(n api.Node) []int {
	var list []int
	for _, ref := range append([]api.Ref{n.Base}, n.Froms...) {
		if ref.Kind == 1 {
			list = append(list, ref.Stage)
		}
	}
	return list
}

func plainNeed(p api.Plan) []int {
	need := map[int]bool{p.Target: true}
	for before := 0; before < len(need); {
		before = len(need)
		for _, i := range slices.Collect(maps.Keys(need)) {
			for _, other := range needs(p.Nodes[i]) {
				need[other] = true
			}
		}
	}
	return slices.Sorted(maps.Keys(need))
}

func plainImages(p api.Plan) []string {
	var names []string
	met := map[string]bool{"": true}
	for i, n := range p.Nodes {
		if !slices.Contains(p.Need, i) {
			continue
		}
		for _, ref := range append([]api.Ref{n.Base}, n.Froms...) {
			if !met[ref.Name] {
				met[ref.Name] = true
				names = append(names, ref.Name)
			}
		}
	}
	return names
}

// plainWaves is what Waves is to answer.
func plainWaves(p api.Plan) [][]int {
	wave := map[int]int{} // from 1 on, of those that stand in one
	var waves [][]int
	for {
		var next []int
		for i, n := range p.Nodes {
			ready := slices.Contains(p.Need, i) && wave[i] == 0
			for _, other := range needs(n) {
				ready = ready && wave[other] > 0
			}
			if ready {
				next = append(next, i)
			}
		}
		if len(next) == 0 {
			return waves
		}
		waves = append(waves, next)
		for _, i := range next {
			wave[i] = len(waves)
		}
	}
}
