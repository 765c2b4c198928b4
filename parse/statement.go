package parse

import (
	"frankpledge/api"
	"frankpledge/lex"
)

func (p *parser) statement() api.Stmt {
	s := api.Stmt{Limit: -1}
	switch {
	case p.take("select"):
		p.selects(&s)
	case p.take("insert", "into"):
		s.Kind = api.Insert
		p.table(&s)
		p.must("values")
		s.Rows = list(p, p.row)
	case p.take("update"):
		s.Kind = api.Update
		p.table(&s)
		p.must("set")
		s.Sets = list(p, p.set)
		p.where(&s)
	case p.take("delete", "from"):
		s.Kind = api.Delete
		p.table(&s)
		p.where(&s)
	default:
		p.fail(api.ErrSyntax)
	}
	p.take(";")
	return s
}

func (p *parser) selects(s *api.Stmt) {
	s.Kind = api.Select
	if !p.take("*") {
		s.Items = list(p, p.expr)
	}
	p.must("from")
	p.table(s)
	if p.take("join") {
		s.Join = p.name()
		p.must("on")
		s.On = p.expr()
	}
	p.where(s)
	if p.take("group", "by") {
		s.Group = list(p, p.expr)
	}
	if p.take("order", "by") {
		s.Order = list(p, p.order)
	}
	if p.take("limit") {
		s.Limit = p.limit()
	}
}

func (p *parser) table(s *api.Stmt) {
	s.At = p.next().At
	s.Table = p.name()
}

func (p *parser) where(s *api.Stmt) {
	if p.take("where") {
		s.Where = p.expr()
	}
}

func (p *parser) row() []api.Expr {
	p.must("(")
	l := list(p, p.expr)
	p.must(")")
	return l
}

func (p *parser) set() api.Set {
	s := api.Set{At: p.next().At}
	s.Name = p.name()
	p.must("=")
	s.To = p.expr()
	return s
}

func (p *parser) order() api.Order {
	o := api.Order{By: p.expr()}
	if !p.take("asc") {
		o.Down = p.take("desc")
	}
	return o
}

func (p *parser) limit() int {
	if t := p.next(); t.Kind != lex.Number || t.Value.Kind != api.Int {
		p.fail(api.ErrSyntax)
		return 0
	}
	return int(p.skip().Value.N)
}
