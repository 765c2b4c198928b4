package parse_test

import (
	"math/rand/v2"
	"slices"
	"strings"
	"testing"

	"frankpledge/api"
	"frankpledge/lex"
	"frankpledge/parse"
	"frankpledge/value"
)

// check holds Parse and Expression against the grammar and the trees by
// splitting; it reports which of them took the text.
func check(t *testing.T, b *book, s string) (isStatement, isExpression bool) {
	t.Helper()
	tokens, codes, at := b.read("statement", s)
	if codes == nil {
		statement(t, s, stmt(tokens))
		isStatement = true
	} else {
		noStatement(t, s, at, codes...)
	}
	tokens, codes, at = b.read("expression", s)
	if codes == nil {
		expression(t, s, tree(tokens))
		isExpression = true
	} else {
		noExpression(t, s, at, codes...)
	}
	return isStatement, isExpression
}

// P17.1: all expressions up to a size, made of some tokens, and each of their
// beginnings with any token behind it.
func TestAllShortExpressions(t *testing.T) {
	b := open()
	read := 0
	var grow func(ways []*stack, s string, tokens []string, size int)
	grow = func(ways []*stack, s string, tokens []string, size int) {
		if _, ok := check(t, b, s); ok {
			read++
		}
		for _, token := range tokens {
			longer := s + token + " "
			l, _ := lex.Lex(token)
			next, code := b.step(ways, l[0])
			switch {
			case code != api.OK:
				noExpression(t, longer, len(s), api.ErrSyntax)
			case size > 0:
				grow(next, longer, tokens, size-1)
			}
		}
	}
	for _, x := range []struct {
		tokens string
		size   int
	}{
		{"a 1 'b' x'00' ( ) * , + - / = <> . ; not and or is null true count sum select from", 4},
		{"a ( ) - * not and is null count", 7},
		{"a + - * =", 9},
		{"a or and not =", 8},
	} {
		grow(b.start("expression"), "", strings.Fields(x.tokens), x.size)
		if t.Failed() {
			return
		}
	}
	if read < 8000 {
		t.Errorf("only %d expressions", read)
	}
}

// writer makes a text of tokens.
type writer struct {
	r      *rand.Rand
	b      *book
	tokens []string
	open   int
}

func pick[T any](r *rand.Rand, l []T) T { return l[r.IntN(len(l))] }

// write follows a rule at random. When much is written already, or too many parts
// are open, options are left out, and the first one of the choices is taken.
func (w *writer) write(n *node, small bool) {
	small = small || len(w.tokens) > 60 || w.open > 8
	switch n.kind {
	case terminal:
		w.tokens = append(w.tokens, w.token(n.text))
	case nest:
		w.open++
		w.write(w.b.rules[n.text], small)
		w.open--
	case rule:
		w.write(w.b.rules[n.text], small)
	case row:
		for _, part := range n.parts {
			w.write(part, small)
		}
	case choice:
		parts := n.parts
		if small && len(parts) == 2 && parts[0].parts[0].text == "NOT" || small && parts[0].parts[0].text == "-" {
			parts = parts[1:]
		} else if small && parts[0].parts[0].text == "number" {
			parts = parts[:7]
		}
		w.write(pick(w.r, parts), small)
	case option, many:
		for w.r.IntN(4) == 0 && !small {
			w.write(n.parts[0], small)
			if n.kind == option {
				return
			}
		}
	}
}

func (w *writer) token(class string) string {
	switch class {
	case "End":
		return ""
	case "name":
		return pick(w.r, []string{"a", "b", "t", "u", "x", "selects", "end"})
	case "number":
		return pick(w.r, []string{"0", "1", "2.5", "10.0001"})
	case "whole":
		return pick(w.r, []string{"0", "5", "1000"})
	case "text":
		return pick(w.r, []string{"''", "'a'", "'it''s'", "'('", "'select'"})
	case "bytes":
		return pick(w.r, []string{"x''", "X'00fF'"})
	}
	if w.r.IntN(2) == 0 {
		return strings.ToLower(class)
	}
	return class
}

// lay puts white space between tokens, where it may also be left out where signs
// stand.
func lay(r *rand.Rand, tokens []string) string {
	var s strings.Builder
	for _, token := range tokens {
		if r.IntN(3) > 0 || token != "(" && token != ")" && token != "," {
			s.WriteString(pick(r, []string{" ", " ", " ", "\n", "\t ", "\r\n"}))
		}
		s.WriteString(token)
	}
	return s.String()
}

// change changes a list of tokens at one place.
func change(r *rand.Rand, tokens []string) []string {
	l := slices.Clone(tokens)
	words := append(kept(), strings.Fields("a b . , ; ( ) * - + / = < <= > >= <> 1 2.5 'a' x'00' #")...)
	switch i := r.IntN(len(l)); r.IntN(5) {
	case 0:
		return slices.Delete(l, i, i+1)
	case 1:
		return slices.Insert(l, i, pick(r, words))
	case 2:
		l[i] = pick(r, words)
	case 3:
		j := r.IntN(len(l))
		l[i], l[j] = l[j], l[i]
	case 4:
		return l[:i]
	}
	return l
}

// P17.1: statements and expressions of all kinds, and the same with one to three
// changes.
func TestRandomTexts(t *testing.T) {
	r := rand.New(rand.NewPCG(17, 1))
	b := open()
	statements, expressions, others := 0, 0, 0
	for range 15000 {
		w := &writer{r: r, b: b}
		w.write(&node{kind: rule, text: pick(r, []string{"statement", "statement", "expression"})}, false)
		tokens := w.tokens
		for range 4 {
			s, e := check(t, b, lay(r, tokens))
			if s {
				statements++
			}
			if e {
				expressions++
			}
			if !s && !e {
				others++
			}
			if len(tokens) > 0 {
				tokens = change(r, tokens)
			}
		}
		if t.Failed() {
			return
		}
	}
	if statements < 10000 || expressions < 5000 || others < 10000 {
		t.Errorf("only %d statements, %d expressions, %d others", statements, expressions, others)
	}
}

// P17.1: any bytes.
func TestRandomBytes(t *testing.T) {
	r := rand.New(rand.NewPCG(17, 2))
	b := open()
	for range 20000 {
		s := make([]byte, r.IntN(12))
		for i := range s {
			s[i] = pick(r, []byte("aAnot1'x.()*-<=,; \n\x00\xe9#"))
		}
		check(t, b, string(s))
	}
}

// openers are what opens a part, and what closes it.
func openers() [][2]string {
	return [][2]string{{"(", ")"}, {"not ", ""}, {"-", ""}, {"count(", ")"}, {"sum(", ")"}, {"min (", ")"}, {"max( ", ")"}, {"1 - (", ")"}, {"(a or not ", ")"}, {"(a - -", ")"}}
}

// P17.1 (ErrDeep): many parts open within each other, about the limit, with
// anything within.
func TestDeepTexts(t *testing.T) {
	r := rand.New(rand.NewPCG(17, 3))
	b := open()
	inner := []string{"", "a", "1", "*", ")", "(", "not", "not a", "-", "-a", "- -a", "a is not null", "a is null", "a - b", "a and b", "count(*)", "count(", "count(a)", "count()", "count(1", "sum(*)", "sum(a)", "sum", "(a)", "((a))", "(a) + (b)", "-a * -b", "not a and not b", ",", "from", ";", "is", "=", "."}
	read, deep := 0, 0
	for range 2000 {
		var left, right string
		some := openers()
		if r.IntN(2) == 0 {
			some = some[:1+r.IntN(len(some))]
		}
		not := false
		for n := 58 + r.IntN(8); n > 0; n-- {
			x := pick(r, some)
			for not && x[0] == "not " || x[0] == "not " && strings.HasSuffix(left, "-") {
				x = some[0]
			}
			left += x[0]
			right = x[1] + right
		}
		s := left + pick(r, inner) + right
		_, ok := check(t, b, s)
		if ok {
			read++
		}
		if _, codes, _ := b.read("expression", s); slices.Equal(codes, []api.Errno{api.ErrDeep}) {
			deep++
		}
		check(t, b, "select a from t where "+s)
		check(t, b, "insert into t values ("+s+")")
		if t.Failed() {
			return
		}
	}
	if read < 300 || deep < 300 {
		t.Errorf("only %d expressions, %d too deep", read, deep)
	}
}

// P17.1 (ErrDeep): each way to open a part, 64 times and once more.
func TestDeepEdges(t *testing.T) {
	for _, x := range openers()[:7] {
		for _, inner := range []string{"a", "1", "", ")", "*", ",", "from", "null", "("} {
			s := strings.Repeat(x[0], 65) + inner
			at := len(s) - len(inner)
			if x[0] == "count(" && inner == "*" {
				noExpression(t, s, at+1, api.ErrSyntax)
				continue
			}
			noExpression(t, s, at, api.ErrDeep)
		}
		inside := strings.Repeat(x[0], 64)
		for _, end := range []string{"a", "1", "null", "count(*)", "a is null", "a is not null", "a + b * c", "t.a"} {
			s := inside + end + strings.Repeat(x[1], 64)
			if e, err := parse.Expression(s); err != nil || parse.Deep(e) < 2 && x[0] != "(" {
				t.Errorf("%q: %v, %v", s, e, err)
			}
		}
		noExpression(t, inside, len(inside), api.ErrSyntax)
		noExpression(t, inside+"count(a", len(inside)+6, api.ErrDeep)
		noExpression(t, inside+"(", len(inside)+1, api.ErrDeep)
		noExpression(t, inside+"- ", len(inside)+2, api.ErrDeep)
		noExpression(t, inside+"a - ", len(inside)+4, api.ErrSyntax)
		noExpression(t, inside+"count(*", len(inside)+7, api.ErrSyntax)
		noExpression(t, inside+"sum *", len(inside)+4, api.ErrSyntax)
	}
}

// P17.1 (ErrDeep): parts that are closed again don't count, nor do the parentheses
// of rows, nor chains of operators.
func TestNotDeep(t *testing.T) {
	part := strings.Repeat("(", 64) + "a" + strings.Repeat(")", 64)
	e, err := parse.Expression(part + "+" + part + "or" + part)
	if err != nil || parse.Deep(e) != 3 {
		t.Errorf("%v, %v", e, err)
	}
	s, err := parse.Parse("insert into t values (" + part + "," + part + "), (" + part + ")")
	if err != nil || len(s.Rows) != 2 || len(s.Rows[0]) != 2 {
		t.Errorf("%v, %v", s, err)
	}
	noStatement(t, "insert into t values (("+part+"))", 87, api.ErrDeep)
	e, err = parse.Expression("a" + strings.Repeat("-a", 499))
	if err != nil || parse.Deep(e) != 500 {
		t.Errorf("%v, %d deep", err, parse.Deep(e))
	}
	e, err = parse.Expression("a" + strings.Repeat(" and not-a", 99))
	if err != nil || parse.Deep(e) != 102 {
		t.Errorf("%v, %d deep", err, parse.Deep(e))
	}
	e, err = parse.Expression("count(*)" + strings.Repeat("+ sum (a)", 99))
	if err != nil || parse.Deep(e) != 101 {
		t.Errorf("%v, %d deep", err, parse.Deep(e))
	}
	for _, token := range []string{"(", "not ", "-", "count(", "(-", "not(", "-count (", "a-", "1<", "a or not "} {
		check(t, open(), strings.Repeat(token, 1000/len(token)))
	}
}

// P17.1: the deepest part counts, wherever it is; what isn't there does not.
func TestDeep(t *testing.T) {
	a, none := col("", "a", 0), api.Expr{}
	for _, x := range []struct {
		e    api.Expr
		want int
	}{
		{none, 0}, {a, 1}, {num(1, 0), 1}, {on(api.Count, 0), 1}, {on(api.Neg, 0, a), 2}, {on(api.Add, 0, a, a), 2},
		{on(api.Add, 0, on(api.Neg, 0, a), a), 3}, {on(api.Add, 0, a, on(api.Neg, 0, a)), 3}, {on(api.Add, 0, a, on(api.Neg, 0, a), a), 3},
		{on(api.NoOp, 0, a), 2}, {on(api.NoOp, 0, none), 1}, {on(api.Neg, 0, none), 1}, {on(api.Add, 0, none, a), 2}, {on(api.Op(-1), 0), 1}, {on(api.Op(99), 0, on(api.Op(99), 0)), 2},
		{api.Expr{Name: "a", Value: whole(1), Kind: api.Int, Number: 1, At: 1}, 0}, {api.Expr{Op: api.Lit, Kids: []api.Expr{}}, 1}, {api.Expr{Kids: []api.Expr{}}, 0},
	} {
		if got := parse.Deep(x.e); got != x.want {
			t.Errorf("Deep(%v) = %d, not %d", x.e, got, x.want)
		}
	}
	e := a
	for range 1 << 16 {
		e = on(api.Neg, 0, e)
	}
	if got := parse.Deep(e); got != 1<<16+1 {
		t.Errorf("%d deep", got)
	}
}

// P1: kids that are shared are not counted once for each way to them, and kids that
// hold themselves do not keep Deep busy forever.
func TestDeepOfSharedKids(t *testing.T) {
	e := col("", "a", 0)
	for range 1000 {
		e = on(api.Add, 0, e, e)
	}
	if got := parse.Deep(e); got != 1001 {
		t.Errorf("%d deep", got)
	}
	kids := []api.Expr{e, on(api.Neg, 0, on(api.Neg, 0, e)), e}
	for _, some := range [][]api.Expr{kids[:1], kids[2:], kids[1:]} {
		if got := parse.Deep(on(api.Add, 0, on(api.Neg, 0, some...), on(api.Add, 0, kids...))); got != 1005 {
			t.Errorf("%d deep beside %d kids", got, len(some))
		}
	}
	loop := []api.Expr{on(api.Add, 0), e}
	loop[0].Kids = loop
	parse.Deep(loop[0])
}

// grown is a tree at random, as a text may have it.
func grown(r *rand.Rand, deep int) api.Expr {
	if deep == 0 || r.IntN(5) == 0 {
		return pick(r, []api.Expr{
			lit(api.Value{}, 0), lit(truth(0), 0), lit(truth(1), 0), num(r.Int64(), 0), lit(decimal(r.Int64()), 0), lit(text("it's"), 0), lit(text(""), 0), lit(bytes("\x00\xff"), 0),
			col("", "a", 0), col("t", "b_1", 0), on(api.Count, 0),
		})
	}
	op := pick(r, []api.Op{api.Add, api.Sub, api.Mul, api.Div, api.Neg, api.Eq, api.Ne, api.Lt, api.Le, api.Gt, api.Ge, api.And, api.Or, api.Not, api.IsNull, api.Count, api.Sum, api.Min, api.Max})
	e := on(op, 0, grown(r, deep-1))
	if op >= api.Add && op <= api.Div || op >= api.Eq && op <= api.Or {
		e.Kids = append(e.Kids, grown(r, deep-1))
	}
	return e
}

// written is a tree's text, with parentheses around each part.
func written(e api.Expr) string {
	var kids []string
	for _, kid := range e.Kids {
		kids = append(kids, "("+written(kid)+")")
	}
	signs := map[api.Op]string{api.Add: "+", api.Sub: "-", api.Mul: "*", api.Div: "/", api.Eq: "=", api.Ne: "<>", api.Lt: "<", api.Le: "<=", api.Gt: ">", api.Ge: ">=", api.And: "and", api.Or: "or",
		api.Neg: "-", api.Not: "not", api.Count: "count", api.Sum: "sum", api.Min: "min", api.Max: "max"}
	switch {
	case e.Op == api.Lit:
		return value.Text(e.Value)
	case e.Op == api.Col && e.Table != "":
		return e.Table + "." + e.Name
	case e.Op == api.Col:
		return e.Name
	case e.Op == api.IsNull:
		return kids[0] + "is null"
	case e.Op == api.Not && e.Kids[0].Op == api.IsNull && len(e.Kids[0].Kids[0].Kids) == 0:
		return written(e.Kids[0].Kids[0]) + " is not null"
	case e.Op == api.Count && len(kids) == 0:
		return "count(*)"
	case len(kids) == 1:
		return signs[e.Op] + kids[0]
	}
	return kids[0] + signs[e.Op] + kids[1]
}

// bare is a tree without its indices.
func bare(e api.Expr) api.Expr {
	e.At = 0
	kids := e.Kids
	e.Kids = nil
	for _, kid := range kids {
		e.Kids = append(e.Kids, bare(kid))
	}
	return e
}

// P17.2: a tree that is written is the same again, as an expression and in a
// statement.
func TestRoundTrip(t *testing.T) {
	r := rand.New(rand.NewPCG(17, 4))
	read := 0
	for range 30000 {
		e := grown(r, 1+r.IntN(6))
		s := written(e)
		if len(s) > 900 {
			continue
		}
		read++
		got, err := parse.Expression(s)
		if err != nil || !same(bare(got), e) {
			t.Fatalf("%q is %v, %v, not %v", s, got, err, e)
		}
		x, err := parse.Parse("update t set a = " + s + " where " + strings.ToUpper("a"))
		if err != nil || !same(bare(x.Sets[0].To), e) {
			t.Fatalf("%q is %v, %v, not %v", s, x, err, e)
		}
		x, err = parse.Parse("select " + s + " from t order by a desc")
		if err != nil || len(x.Items) != 1 || !same(bare(x.Items[0]), e) || len(x.Order) != 1 {
			t.Fatalf("%q is %v, %v, not %v", s, x, err, e)
		}
	}
	if read < 20000 {
		t.Errorf("only %d trees", read)
	}
}
