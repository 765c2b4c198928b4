package parse

import (
	"frankpledge/api"
	"frankpledge/fault"
	"frankpledge/lex"
)

// parser goes along the tokens of a text.
type parser struct {
	tokens []lex.Token // those that are left; the end is always one of them
	open   int         // how many nested parts are open
	err    error
}

func (p *parser) next() lex.Token { return p.tokens[0] }

// skip is never called at the end.
func (p *parser) skip() lex.Token {
	t := p.next()
	p.tokens = p.tokens[1:]
	return t
}

// fail keeps the first fault alone. It leaves only the end, where no part finds
// anything more, so that nobody has to ask for faults on the way.
func (p *parser) fail(code api.Errno) {
	if p.err == nil {
		p.err = fault.New(code, p.next().At)
	}
	p.tokens = p.tokens[len(p.tokens)-1:]
}

func (p *parser) end() error {
	if p.next().Kind != lex.End {
		p.fail(api.ErrSyntax)
	}
	return p.err
}

// take takes a word or sign if it comes next; then the others must follow it.
// The tokens' texts tell them from all other kinds: a text has its apostrophes,
// and the end has none.
func (p *parser) take(first string, others ...string) bool {
	if p.next().Text != first {
		return false
	}
	p.skip()
	p.must(others...)
	return true
}

// must takes words or signs in a row.
func (p *parser) must(words ...string) {
	for _, word := range words {
		if !p.take(word) {
			p.fail(api.ErrSyntax)
		}
	}
}

func (p *parser) name() string {
	if t := p.next(); t.Kind != lex.Word || isKept(t.Text) {
		p.fail(api.ErrSyntax)
		return ""
	}
	return p.skip().Text
}

// isKept is true for the words of the grammar, which are no names.
func isKept(word string) bool {
	switch word {
	case "select", "from", "join", "on", "where", "group", "by", "order", "asc", "desc", "limit",
		"insert", "into", "values", "update", "set", "delete",
		"and", "or", "not", "is", "null", "true", "false", "count", "sum", "min", "max":
		return true
	}
	return false
}

// list parses one part or more, with commas between.
func list[T any](p *parser, part func() T) []T {
	l := []T{part()}
	for p.take(",") {
		l = append(l, part())
	}
	return l
}
