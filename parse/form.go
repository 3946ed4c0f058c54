package parse

import (
	"slices"
	"strings"

	"strata/api"
)

// Flags; those that end with = have a value behind it.
const (
	fromFlag  = "--from="
	chmodFlag = "--chmod="
	modeFlag  = "--mode="
	forceFlag = "--force"
)

// form is how many arguments an instruction has, and which flags stand ahead of them.
type form struct {
	flags       []string
	least, most int
}

// words keeps in the step what its flags and arguments say.
func (f form) words(s statement, step *api.Step) error {
	list, err := f.arguments(s, step)
	if err != nil {
		return err
	}
	step.Words = raws(list)
	return nil
}

// wordsAndDocs is words of COPY: its sources may be documents, its destination may not.
func (f form) wordsAndDocs(s statement, step *api.Step) error {
	list, err := f.arguments(s, step)
	if err != nil {
		return err
	}
	if last := list[len(list)-1]; strings.HasPrefix(last.Raw, "<<") {
		return s.fault(api.ErrForm, last.At)
	}
	step.Words, step.Docs = raws(list), s.line.Docs
	return nil
}

// raws are words as they are written.
func raws(list []api.Word) []string {
	var texts []string
	for _, word := range list {
		texts = append(texts, word.Raw)
	}
	return texts
}

// arguments are the words behind the flags; what these say is kept in the step.
func (f form) arguments(s statement, step *api.Step) ([]api.Word, error) {
	list, err := s.words()
	if err != nil {
		return nil, err
	}
	list, err = f.takeFlags(s, list, step)
	if err != nil {
		return nil, err
	}
	return s.counted(list, f.least, f.most)
}

// takeFlags keeps in the step what the flags say, and leaves the arguments. Where there are no flags, a word may begin as they do.
func (f form) takeFlags(s statement, list []api.Word, step *api.Step) ([]api.Word, error) {
	if len(f.flags) == 0 {
		return list, nil
	}
	var met []string
	for len(list) > 0 && strings.HasPrefix(list[0].Raw, "--") {
		flag, value, known := f.flag(list[0].Raw)
		if !known {
			return nil, s.fault(api.ErrFlag, list[0].At)
		}
		if slices.Contains(met, flag) {
			return nil, s.fault(api.ErrTwice, list[0].At)
		}
		met = append(met, flag)
		keepFlag(step, flag, value)
		list = list[1:]
	}
	return list, nil
}

// flag is the flag that a word is, if the instruction knows it, and the value that it has.
func (f form) flag(word string) (string, string, bool) {
	for _, flag := range f.flags {
		value, begins := strings.CutPrefix(word, flag)
		if begins && strings.HasSuffix(flag, "=") == (value != "") {
			return flag, value, true
		}
	}
	return "", "", false
}

func keepFlag(step *api.Step, flag, value string) {
	switch flag {
	case fromFlag:
		step.From = value
	case chmodFlag, modeFlag:
		step.Mode = value
	case forceFlag:
		step.Force = true
	}
}
