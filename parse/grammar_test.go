package parse_test

import (
	"slices"
	"strings"

	"frankpledge/api"
	"frankpledge/fault"
	"frankpledge/lex"
)

// grammar is the document's, with the signs ( and ) in apostrophes, and a ^ ahead
// of what counts as open around its tokens.
const grammar = `
statement:  ( select | insert | update | delete ) [ ; ] End
expression: expr End
select:  SELECT ( * | expr { , expr } ) FROM name [ JOIN name ON expr ] [ WHERE expr ] [ GROUP BY expr { , expr } ] [ ORDER BY expr [ ASC | DESC ] { , expr [ ASC | DESC ] } ] [ LIMIT whole ]
insert:  INSERT INTO name VALUES '(' expr { , expr } ')' { , '(' expr { , expr } ')' }
update:  UPDATE name SET name = expr { , name = expr } [ WHERE expr ]
delete:  DELETE FROM name [ WHERE expr ]
expr:    and { OR and }
and:     not { AND not }
not:     NOT ^not | test
test:    sum [ ( = | <> | < | <= | > | >= ) sum | IS [ NOT ] NULL ]
sum:     product { ( + | - ) product }
product: sign { ( * | / ) sign }
sign:    - ^sign | one
one:     number | text | bytes | NULL | TRUE | FALSE | name [ . name ] | '(' ^expr ')' | COUNT '(' ( * | ^expr ) ')' | ( SUM | MIN | MAX ) '(' ^expr ')'
`

// node is a piece of a rule.
type node struct {
	kind  nodeKind
	text  string
	parts []*node
}

type nodeKind int

const (
	terminal nodeKind = iota // of a class, or with a text
	rule
	nest // a rule that counts as open
	row
	choice
	option
	many
)

// reader reads the grammar's own text.
type reader struct {
	rules map[string]*node
	left  []string
}

func rules() map[string]*node {
	m := map[string]*node{}
	lines := strings.Split(strings.TrimSpace(grammar), "\n")
	for _, line := range lines {
		name, _, _ := strings.Cut(line, ":")
		m[name] = nil
	}
	for _, line := range lines {
		name, body, _ := strings.Cut(line, ":")
		r := &reader{m, strings.Fields(body)}
		m[name] = r.choice()
	}
	return m
}

func (r *reader) choice() *node {
	n := &node{kind: choice, parts: []*node{r.row()}}
	for len(r.left) > 0 && r.left[0] == "|" {
		r.left = r.left[1:]
		n.parts = append(n.parts, r.row())
	}
	return n
}

func (r *reader) row() *node {
	n := &node{kind: row}
	for len(r.left) > 0 && !strings.Contains("|)]}", r.left[0]) {
		n.parts = append(n.parts, r.piece())
	}
	return n
}

func (r *reader) piece() *node {
	s := r.left[0]
	r.left = r.left[1:]
	switch s {
	case "(", "[", "{":
		inner := r.choice()
		r.left = r.left[1:]
		return &node{kind: map[string]nodeKind{"(": choice, "[": option, "{": many}[s], parts: []*node{inner}}
	case "'('", "')'":
		return &node{text: s[1:2]}
	}
	if name, nested := strings.CutPrefix(s, "^"); nested {
		return &node{kind: nest, text: name}
	}
	if _, ok := r.rules[s]; ok {
		return &node{kind: rule, text: s}
	}
	return &node{text: s}
}

// kept are the words that are no names.
func kept() []string {
	var l []string
	for _, s := range strings.Fields(grammar) {
		if word := strings.ToLower(s); word != s && s != "End" && !slices.Contains(l, word) {
			l = append(l, word)
		}
	}
	return l
}

// book reads texts as the grammar says: it goes all ways at once.
type book struct {
	rules map[string]*node
	kept  []string
}

func open() *book { return &book{rules(), kept()} }

// stack is what is still to be read; each piece knows how many parts are open
// around it.
type stack struct {
	top   *node
	open  int
	under *stack
}

func (b *book) start(name string) []*stack {
	return b.expand(&stack{top: &node{kind: rule, text: name}}, nil)
}

// expand lists all ways to go on up to the next token: the top of each is a
// terminal, or a part that may not be opened any more.
func (b *book) expand(s *stack, l []*stack) []*stack {
	if s == nil {
		return l
	}
	push := func(n *node, under *stack) *stack { return &stack{n, s.open, under} }
	switch n := s.top; n.kind {
	case terminal:
		return append(l, s)
	case rule:
		return b.expand(push(b.rules[n.text], s.under), l)
	case nest:
		if s.open == 64 {
			return append(l, s)
		}
		return b.expand(&stack{b.rules[n.text], s.open + 1, s.under}, l)
	case row:
		under := s.under
		for _, part := range slices.Backward(n.parts) {
			under = push(part, under)
		}
		return b.expand(under, l)
	case choice:
		for _, part := range n.parts {
			l = b.expand(push(part, s.under), l)
		}
		return l
	case option:
		return b.expand(s.under, b.expand(push(n.parts[0], s.under), l))
	default:
		return b.expand(s.under, b.expand(push(n.parts[0], s), l))
	}
}

// step reads a token: what may follow it, or the code of the fault at it.
func (b *book) step(ways []*stack, t lex.Token) ([]*stack, api.Errno) {
	var l []*stack
	code := api.ErrSyntax
	matched := false
	for _, s := range ways {
		switch {
		case s.top.kind == nest:
			code = api.ErrDeep
		case b.matches(s.top.text, t):
			matched = true
			l = b.expand(s.under, l)
		}
	}
	if matched {
		return l, api.OK
	}
	return nil, code
}

func (b *book) matches(class string, t lex.Token) bool {
	switch class {
	case "name":
		return t.Kind == lex.Word && !slices.Contains(b.kept, t.Text)
	case "number":
		return t.Kind == lex.Number
	case "whole":
		return t.Kind == lex.Number && t.Value.Kind == api.Int
	case "text":
		return t.Kind == lex.Text
	case "bytes":
		return t.Kind == lex.Bytes
	case "End":
		return t.Kind == lex.End
	}
	return (t.Kind == lex.Word || t.Kind == lex.Sign) && t.Text == strings.ToLower(class)
}

// read reads a whole text: its tokens without the end, or the codes of its fault
// and their place.
func (b *book) read(start, s string) ([]lex.Token, []api.Errno, int) {
	tokens, e := lex.Lex(s)
	if e != nil {
		return nil, []api.Errno{api.ErrSyntax, api.ErrSign}, fault.At(e)
	}
	ways := b.start(start)
	for _, t := range tokens {
		var code api.Errno
		if ways, code = b.step(ways, t); code != api.OK {
			return nil, []api.Errno{code}, t.At
		}
	}
	return tokens[:len(tokens)-1], nil, -1
}
