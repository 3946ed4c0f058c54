package expand

// piece is a part of a word or of a document, as it was read.
type piece interface {
	// put does to the text what the piece means there.
	put(t *text)
	// asks is the name of the variable on which the piece hangs, "" if there is none.
	asks() string
}

// literal is bytes that mean themselves.
type literal string

func (l literal) put(t *text)  { t.lay(string(l)) }
func (l literal) asks() string { return "" }

// variable is a variable's value.
type variable string

func (v variable) put(t *text)  { t.lay(t.value(string(v))) }
func (v variable) asks() string { return string(v) }

// ifEmpty is a variable's value, and begins a text that is taken where that is empty.
type ifEmpty string

func (v ifEmpty) put(t *text) {
	value := t.value(string(v))
	t.lay(value)
	t.begin(value == "")
}

func (v ifEmpty) asks() string { return string(v) }

// ifFull begins a text that is taken where a variable's value is not empty.
type ifFull string

func (v ifFull) put(t *text)  { t.begin(t.value(string(v)) != "") }
func (v ifFull) asks() string { return string(v) }

// ending ends the text that was begun last.
type ending struct{}

func (ending) put(t *text)  { t.end() }
func (ending) asks() string { return "" }
