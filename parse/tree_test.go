package parse_test

import (
	"slices"

	"frankpledge/api"
	"frankpledge/lex"
)

// The trees here come from splitting: an expression that the grammar allows is
// split at the last one of its weakest operators outside of parentheses.

// outside lists the tokens that stand outside of parentheses, with their numbers.
func outside(l []lex.Token, see func(i int, t lex.Token)) {
	deep := 0
	for i, t := range l {
		switch t.Text {
		case "(":
			deep++
		case ")":
			deep--
		default:
			if deep == 0 {
				see(i, t)
			}
		}
	}
}

// last is the number of the last operator of these, -1 if there is none.
func last(l []lex.Token, operators ...string) int {
	at := -1
	outside(l, func(i int, t lex.Token) {
		if slices.Contains(operators, t.Text) && i > 0 && ends(l[i-1]) {
			at = i
		}
	})
	return at
}

// ends tells whether a part may end with a token, so that a minus behind it has
// two sides.
func ends(t lex.Token) bool {
	if t.Kind == lex.Word {
		return !slices.Contains([]string{"and", "or", "not", "is"}, t.Text)
	}
	return t.Kind != lex.Sign || t.Text == ")"
}

// pieces splits at the commas outside of parentheses.
func pieces(l []lex.Token) [][]lex.Token {
	var all [][]lex.Token
	from := 0
	outside(l, func(i int, t lex.Token) {
		if t.Text == "," {
			all = append(all, l[from:i])
			from = i + 1
		}
	})
	return append(all, l[from:])
}

func op(text string) api.Op {
	return map[string]api.Op{
		"or": api.Or, "and": api.And, "not": api.Not, "=": api.Eq, "<>": api.Ne, "<": api.Lt, "<=": api.Le, ">": api.Gt, ">=": api.Ge,
		"+": api.Add, "-": api.Sub, "*": api.Mul, "/": api.Div, "count": api.Count, "sum": api.Sum, "min": api.Min, "max": api.Max,
	}[text]
}

func tree(l []lex.Token) api.Expr {
	for _, level := range [][]string{{"or"}, {"and"}} {
		if i := last(l, level...); i >= 0 {
			return on(op(l[i].Text), l[i].At, tree(l[:i]), tree(l[i+1:]))
		}
	}
	if l[0].Text == "not" {
		return on(api.Not, l[0].At, tree(l[1:]))
	}
	if i := last(l, "is"); i >= 0 {
		e := on(api.IsNull, l[i].At, tree(l[:i]))
		if len(l) == i+3 {
			e = on(api.Not, l[i].At, e)
		}
		return e
	}
	for _, level := range [][]string{{"=", "<>", "<", "<=", ">", ">="}, {"+", "-"}, {"*", "/"}} {
		if i := last(l, level...); i >= 0 {
			return on(op(l[i].Text), l[i].At, tree(l[:i]), tree(l[i+1:]))
		}
	}
	if l[0].Text == "-" {
		return on(api.Neg, l[0].At, tree(l[1:]))
	}
	return leaf(l)
}

// leaf has no operator outside of parentheses.
func leaf(l []lex.Token) api.Expr {
	t := l[0]
	switch {
	case t.Text == "(":
		return tree(l[1 : len(l)-1])
	case len(l) > 3 && l[1].Text == "(" && l[2].Text != "*":
		return on(op(t.Text), t.At, tree(l[2:len(l)-1]))
	case len(l) > 3:
		return on(op(t.Text), t.At)
	case len(l) == 3:
		return col(t.Text, l[2].Text, t.At)
	case t.Kind != lex.Word:
		return lit(t.Value, t.At)
	case t.Text == "null":
		return lit(api.Value{}, t.At)
	case t.Text == "true":
		return lit(truth(1), t.At)
	case t.Text == "false":
		return lit(truth(0), t.At)
	}
	return col("", t.Text, t.At)
}

func trees(l []lex.Token) []api.Expr {
	var all []api.Expr
	for _, piece := range pieces(l) {
		all = append(all, tree(piece))
	}
	return all
}

// clause is what stands behind a word of a statement, up to the next one of the
// words that begin a clause.
func clause(l []lex.Token, word string) ([]lex.Token, bool) {
	clauses := []string{"select", "into", "update", "from", "join", "on", "values", "set", "where", "group", "order", "limit", ";"}
	is := func(words ...string) func(lex.Token) bool {
		return func(t lex.Token) bool { return slices.Contains(words, t.Text) }
	}
	from := slices.IndexFunc(l, is(word))
	if from < 0 {
		return nil, false
	}
	l = l[from+1:]
	if to := slices.IndexFunc(l, is(clauses...)); to >= 0 {
		l = l[:to]
	}
	return l, true
}

func stmt(l []lex.Token) api.Stmt {
	kinds := map[string]api.StmtKind{"select": api.Select, "insert": api.Insert, "update": api.Update, "delete": api.Delete}
	tables := map[string]string{"select": "from", "insert": "into", "update": "update", "delete": "from"}
	table, _ := clause(l, tables[l[0].Text])
	s := api.Stmt{Kind: kinds[l[0].Text], Table: table[0].Text, At: table[0].At, Limit: -1}
	if x, ok := clause(l, "select"); ok && (len(x) > 1 || x[0].Text != "*") {
		s.Items = trees(x)
	}
	if x, ok := clause(l, "join"); ok {
		s.Join = x[0].Text
	}
	if x, ok := clause(l, "on"); ok {
		s.On = tree(x)
	}
	if x, ok := clause(l, "where"); ok {
		s.Where = tree(x)
	}
	if x, ok := clause(l, "group"); ok {
		s.Group = trees(x[1:])
	}
	if x, ok := clause(l, "limit"); ok {
		s.Limit = int(x[0].Value.N)
	}
	if x, ok := clause(l, "order"); ok {
		for _, piece := range pieces(x[1:]) {
			end := piece[len(piece)-1].Text
			if end == "asc" || end == "desc" {
				piece = piece[:len(piece)-1]
			}
			s.Order = append(s.Order, api.Order{By: tree(piece), Down: end == "desc"})
		}
	}
	if x, ok := clause(l, "values"); ok {
		for _, piece := range pieces(x) {
			s.Rows = append(s.Rows, trees(piece[1:len(piece)-1]))
		}
	}
	if x, ok := clause(l, "set"); ok {
		for _, piece := range pieces(x) {
			s.Sets = append(s.Sets, api.Set{Name: piece[0].Text, To: tree(piece[2:]), At: piece[0].At})
		}
	}
	return s
}
