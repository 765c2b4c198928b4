package parse

import (
	"frankpledge/api"
	"frankpledge/lex"
)

// level is which parts an operator stands between.
type level int

const (
	none level = iota // it is no operator
	ors
	ands
	tests
	sums
	products
)

// operator is what a sign or word between two parts stands for. Signs of one level
// fall through to its first one, and count on the way by how much their op comes
// behind that of the first one.
func operator(text string) (api.Op, level) {
	behind := api.Op(0)
	switch text {
	case "or":
		return api.Or, ors
	case "and":
		return api.And, ands
	case ">=":
		behind++
		fallthrough
	case ">":
		behind++
		fallthrough
	case "<=":
		behind++
		fallthrough
	case "<":
		behind++
		fallthrough
	case "<>":
		behind++
		fallthrough
	case "=":
		return api.Eq + behind, tests
	case "-":
		behind++
		fallthrough
	case "+":
		return api.Add + behind, sums
	case "/":
		behind++
		fallthrough
	case "*":
		return api.Mul + behind, products
	}
	return api.NoOp, none
}

func (p *parser) expr() api.Expr    { return p.chain(p.and, ors) }
func (p *parser) and() api.Expr     { return p.chain(p.not, ands) }
func (p *parser) not() api.Expr     { return p.prefix("not", api.Not, p.not, p.test) }
func (p *parser) sum() api.Expr     { return p.chain(p.product, sums) }
func (p *parser) product() api.Expr { return p.chain(p.sign, products) }
func (p *parser) sign() api.Expr    { return p.prefix("-", api.Neg, p.sign, p.one) }

// chain parses parts with operators of a level between, from the left.
func (p *parser) chain(part func() api.Expr, l level) api.Expr {
	e := part()
	for p.comes(l) {
		e = p.pair(e, part)
	}
	return e
}

// comes tells whether an operator of a level comes next.
func (p *parser) comes(l level) bool {
	_, found := operator(p.next().Text)
	return found == l
}

// pair takes an operator, and the part behind it.
func (p *parser) pair(left api.Expr, part func() api.Expr) api.Expr {
	t := p.skip()
	op, _ := operator(t.Text)
	return api.Expr{Op: op, Kids: []api.Expr{left, part()}, At: t.At}
}

// prefix parses a part, or what may stand ahead of it, again and again.
func (p *parser) prefix(text string, op api.Op, again, part func() api.Expr) api.Expr {
	at := p.next().At
	if !p.take(text) {
		return part()
	}
	return api.Expr{Op: op, Kids: []api.Expr{p.nested(again)}, At: at}
}

// nested parses a part within another one, unless too many are open: then it does
// not look at what comes next.
func (p *parser) nested(part func() api.Expr) api.Expr {
	if p.open == api.MaxDeep {
		p.fail(api.ErrDeep)
		return api.Expr{}
	}
	p.open++
	e := part()
	p.open--
	return e
}

// test has one comparison at the most: what it answers is no sum.
func (p *parser) test() api.Expr {
	left := p.sum()
	at := p.next().At
	switch {
	case p.comes(tests):
		return p.pair(left, p.sum)
	case p.take("is"):
		return p.null(left, at)
	}
	return left
}

// null parses what follows an IS. The NOT there has no part of its own within it.
func (p *parser) null(left api.Expr, at int) api.Expr {
	not := p.take("not")
	p.must("null")
	e := api.Expr{Op: api.IsNull, Kids: []api.Expr{left}, At: at}
	if not {
		e = api.Expr{Op: api.Not, Kids: []api.Expr{e}, At: at}
	}
	return e
}

// one parses what has no operator. A word has no value, which is Null; the truths
// fall through to it.
func (p *parser) one() api.Expr {
	t := p.next()
	v := t.Value
	switch t.Text {
	case "(":
		return p.parentheses()
	case "count", "sum", "min", "max":
		return p.aggregate()
	case "true":
		v.N = 1
		fallthrough
	case "false":
		v.Kind = api.Bool
		fallthrough
	case "null":
		return p.literal(v)
	}
	if t.Kind == lex.Number || t.Kind == lex.Text || t.Kind == lex.Bytes {
		return p.literal(v)
	}
	return p.column()
}

func (p *parser) literal(v api.Value) api.Expr {
	return api.Expr{Op: api.Lit, Value: v, At: p.skip().At}
}

func (p *parser) column() api.Expr {
	e := api.Expr{Op: api.Col, At: p.next().At}
	e.Name = p.name()
	if p.take(".") {
		e.Table, e.Name = e.Name, p.name()
	}
	return e
}

// parentheses leave no trace.
func (p *parser) parentheses() api.Expr {
	p.must("(")
	e := p.nested(p.expr)
	p.must(")")
	return e
}

// aggregate begins at its word. What COUNT counts may be rows, without a part.
func (p *parser) aggregate() api.Expr {
	t := p.skip()
	e := api.Expr{Op: folds(t.Text), At: t.At}
	p.must("(")
	if e.Op != api.Count || !p.take("*") {
		e.Kids = []api.Expr{p.nested(p.expr)}
	}
	p.must(")")
	return e
}

func folds(word string) api.Op {
	switch word {
	case "count":
		return api.Count
	case "sum":
		return api.Sum
	case "min":
		return api.Min
	}
	return api.Max
}
