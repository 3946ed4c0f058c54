package parse

import "strata/api"

// instruction reads a statement that begins with its word.
type instruction func(*reader, statement) error

// instructions stand under their words, in small letters.
func instructions() map[string]instruction {
	return map[string]instruction{
		"from":       (*reader).from,
		"arg":        (*reader).arg,
		"env":        (*reader).env,
		"label":      (*reader).label,
		"workdir":    (*reader).workdir,
		"copy":       (*reader).copy,
		"add":        (*reader).add,
		"rm":         (*reader).rm,
		"mkdir":      (*reader).mkdir,
		"link":       (*reader).link,
		"mode":       (*reader).mode,
		"user":       (*reader).user,
		"expose":     (*reader).expose,
		"cmd":        (*reader).cmd,
		"entrypoint": (*reader).entrypoint,
	}
}

// many is more arguments than any statement can have: a line has no more words.
const many = api.MaxWords

func (r *reader) from(s statement) error { return r.stage(s) }

func (r *reader) arg(s statement) error { return r.step(s, api.OpArg, statement.variable) }

func (r *reader) env(s statement) error { return r.step(s, api.OpEnv, statement.pairs) }

func (r *reader) label(s statement) error { return r.step(s, api.OpLabel, statement.pairs) }

func (r *reader) workdir(s statement) error {
	return r.step(s, api.OpWorkdir, form{least: 1, most: 1}.words)
}

func (r *reader) copy(s statement) error {
	return r.step(s, api.OpCopy, form{flags: []string{fromFlag, chmodFlag}, least: 2, most: many}.wordsAndDocs)
}

func (r *reader) add(s statement) error {
	return r.step(s, api.OpAdd, form{flags: []string{chmodFlag}, least: 2, most: many}.words)
}

func (r *reader) rm(s statement) error {
	return r.step(s, api.OpRm, form{flags: []string{forceFlag}, least: 1, most: many}.words)
}

func (r *reader) mkdir(s statement) error {
	return r.step(s, api.OpMkdir, form{flags: []string{modeFlag}, least: 1, most: many}.words)
}

func (r *reader) link(s statement) error {
	return r.step(s, api.OpLink, form{least: 2, most: 2}.words)
}

func (r *reader) mode(s statement) error {
	return r.step(s, api.OpMode, form{least: 2, most: many}.words)
}

func (r *reader) user(s statement) error {
	return r.step(s, api.OpUser, form{least: 1, most: 1}.words)
}

func (r *reader) expose(s statement) error {
	return r.step(s, api.OpExpose, form{least: 1, most: many}.words)
}

func (r *reader) cmd(s statement) error { return r.step(s, api.OpCmd, statement.exec) }

func (r *reader) entrypoint(s statement) error { return r.step(s, api.OpEntrypoint, statement.exec) }
