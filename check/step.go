package check

import (
	"math"
	"slices"
	"strings"

	"strata/api"
)

// step looks at a step. What is asked of it hangs on what was asked ahead: the order is the chapter's.
func (p place) step(s api.Step) {
	p.refuseIf(s.Op < api.OpArg || s.Op > api.OpEntrypoint, api.ErrOp)
	p.texts(s)
	p.flags(s)
	p.fields(s)
	p.counts(s)
	p.flagValues(s)
	p.pairs(s)
	p.words(s)
	p.documents(s)
}

// texts wants all texts of UTF-8.
func (p place) texts(s api.Step) {
	p.readable(s.From, s.Mode)
	for _, pair := range s.Pairs {
		p.readable(pair.Key, pair.Val)
	}
	p.readable(s.Words...)
	for _, doc := range s.Docs {
		p.readable(doc.Name, doc.Text)
	}
	p.readable(s.Exec...)
}

// flags wants no flag that the instruction has not.
func (p place) flags(s api.Step) {
	p.refuseIf(s.From != "" && !isOneOf(s.Op, api.OpCopy), api.ErrFlag)
	p.refuseIf(s.Mode != "" && !isOneOf(s.Op, api.OpCopy, api.OpAdd, api.OpMkdir), api.ErrFlag)
	p.refuseIf(s.Force && !isOneOf(s.Op, api.OpRm), api.ErrFlag)
}

// fields wants no arguments of another kind than the instruction's.
func (p place) fields(s api.Step) {
	hasPairs := isOneOf(s.Op, api.OpArg, api.OpEnv, api.OpLabel)
	hasExec := isOneOf(s.Op, api.OpCmd, api.OpEntrypoint)
	p.refuseIf(len(s.Pairs) > 0 && !hasPairs, api.ErrForm)
	p.refuseIf(len(s.Words) > 0 && (hasPairs || hasExec), api.ErrForm)
	p.refuseIf(len(s.Docs) > 0 && !isOneOf(s.Op, api.OpCopy), api.ErrForm)
	p.refuseIf(len(s.Exec) > 0 && !hasExec, api.ErrForm)
	p.refuseIf(s.Bare && (!isOneOf(s.Op, api.OpArg) || slices.ContainsFunc(s.Pairs, hasValue)), api.ErrForm)
}

func isOneOf(op api.Op, ops ...api.Op) bool { return slices.Contains(ops, op) }

func hasValue(pair api.Pair) bool { return pair.Val != "" }

// counts wants neither too few nor too many arguments. There are pairs or words, not both.
func (p place) counts(s api.Step) {
	count := len(s.Pairs) + len(s.Words)
	least, most := bounds(s.Op)
	p.refuseIf(count < least, api.ErrShort)
	p.refuseIf(count > most, api.ErrLong)
	p.refuseIf(count > api.MaxWords || len(s.Exec) > api.MaxWords, api.ErrMany)
}

// bounds are how many pairs or words an instruction has, at the least and at the most.
func bounds(op api.Op) (least, most int) {
	switch op {
	case api.OpCmd, api.OpEntrypoint:
		return 0, 0
	case api.OpArg, api.OpWorkdir, api.OpUser:
		return 1, 1
	case api.OpLink:
		return 2, 2
	case api.OpCopy, api.OpAdd, api.OpMode:
		return 2, math.MaxInt
	}
	return 1, math.MaxInt
}

// flagValues looks at what the flags say.
func (p place) flagValues(s api.Step) {
	p.refuseIf(s.From != "" && !isSource(s.From), api.ErrRef)
	p.refuseIf(s.Mode != "" && !isMode(s.Mode), api.ErrMode)
}

// pairs looks at keys and values.
func (p place) pairs(s api.Step) {
	isKey := isVariable
	if s.Op == api.OpLabel {
		isKey = isLabelKey
	}
	for _, pair := range s.Pairs {
		p.refuseIf(!isKey(pair.Key), api.ErrName)
		p.word(pair.Val)
	}
}

// words looks at words; those that open documents must do so for the step's own, one by one.
func (p place) words(s api.Step) {
	docs := s.Docs
	for i, word := range s.Words {
		if s.Op != api.OpCopy || !strings.HasPrefix(word, opens) {
			p.word(word)
			continue
		}
		p.refuseIf(i == len(s.Words)-1, api.ErrForm)
		p.refuseIf(len(docs) == 0 || !opensDocument(word, docs[0]), api.ErrDoc)
		docs = docs[1:]
	}
	p.refuseIf(len(docs) > 0, api.ErrDoc)
}

// documents looks at the documents' texts.
func (p place) documents(s api.Step) {
	for _, doc := range s.Docs {
		p.document(doc)
	}
}
