package parse_test

import (
	"slices"
	"strings"
	"sync"
	"testing"

	"frankpledge/api"
	"frankpledge/fault"
	"frankpledge/parse"
)

func whole(n int64) api.Value   { return api.Value{Kind: api.Int, N: n} }
func decimal(n int64) api.Value { return api.Value{Kind: api.Dec, N: n} }
func truth(n int64) api.Value   { return api.Value{Kind: api.Bool, N: n} }
func text(s string) api.Value   { return api.Value{Kind: api.Text, S: s} }
func bytes(s string) api.Value  { return api.Value{Kind: api.Bytes, S: s} }

func on(op api.Op, at int, kids ...api.Expr) api.Expr { return api.Expr{Op: op, Kids: kids, At: at} }
func lit(v api.Value, at int) api.Expr                { return api.Expr{Op: api.Lit, Value: v, At: at} }
func num(n int64, at int) api.Expr                    { return lit(whole(n), at) }

func col(table, name string, at int) api.Expr {
	return api.Expr{Op: api.Col, Table: table, Name: name, At: at}
}

// same compares all fields; empty lists are equal, nil or not.
func same(a, b api.Expr) bool {
	return a.Op == b.Op && a.Value == b.Value && a.Table == b.Table && a.Name == b.Name && a.Number == b.Number && a.Kind == b.Kind && a.At == b.At &&
		slices.EqualFunc(a.Kids, b.Kids, same)
}

func sameStmt(a, b api.Stmt) bool {
	list := func(a, b []api.Expr) bool { return slices.EqualFunc(a, b, same) }
	return a.Kind == b.Kind && a.Table == b.Table && a.Join == b.Join && a.Limit == b.Limit && a.At == b.At &&
		same(a.On, b.On) && same(a.Where, b.Where) && list(a.Items, b.Items) && list(a.Group, b.Group) && slices.EqualFunc(a.Rows, b.Rows, list) &&
		slices.EqualFunc(a.Order, b.Order, func(a, b api.Order) bool { return a.Down == b.Down && same(a.By, b.By) }) &&
		slices.EqualFunc(a.Sets, b.Sets, func(a, b api.Set) bool { return a.Name == b.Name && a.At == b.At && same(a.To, b.To) })
}

// expression fails unless a text is just this expression.
func expression(t *testing.T, s string, want api.Expr) {
	t.Helper()
	if got, e := parse.Expression(s); e != nil || !same(got, want) {
		t.Errorf("Expression(%q) = %v, %v, not %v", s, got, e, want)
	}
}

// statement fails unless a text is just this statement; without a limit, its
// Limit is -1.
func statement(t *testing.T, s string, want api.Stmt) {
	t.Helper()
	if got, e := parse.Parse(s); e != nil || !sameStmt(got, want) {
		t.Errorf("Parse(%q) = %v, %v, not %v", s, got, e, want)
	}
}

// refused fails unless there are just these codes, all at one place, and nothing
// beside them.
func refused(t *testing.T, s string, e error, empty bool, at int, codes ...api.Errno) {
	t.Helper()
	if !slices.Equal(fault.Codes(e), codes) || !slices.Equal(fault.Places(e), slices.Repeat([]int{at}, len(codes))) {
		t.Errorf("%q has %v, not %d at %d", s, e, codes, at)
	}
	if !empty {
		t.Errorf("%q has an answer beside a fault", s)
	}
}

func noExpression(t *testing.T, s string, at int, codes ...api.Errno) {
	t.Helper()
	got, e := parse.Expression(s)
	refused(t, s, e, same(got, api.Expr{}), at, codes...)
}

func noStatement(t *testing.T, s string, at int, codes ...api.Errno) {
	t.Helper()
	got, e := parse.Parse(s)
	refused(t, s, e, sameStmt(got, api.Stmt{}), at, codes...)
}

// P17.1: what has no operator.
func TestOnes(t *testing.T) {
	expression(t, "1", num(1, 0))
	expression(t, " 007 ", num(7, 1))
	expression(t, "1.5", lit(decimal(15000), 0))
	expression(t, "'it''s'", lit(text("it's"), 0))
	expression(t, "''", lit(text(""), 0))
	expression(t, "x'0aF0'", lit(bytes("\x0a\xf0"), 0))
	expression(t, "\n Null", lit(api.Value{}, 2))
	expression(t, "TRUE", lit(truth(1), 0))
	expression(t, "false", lit(truth(0), 0))
	expression(t, "a", col("", "a", 0))
	expression(t, "\tT . A_1", col("t", "a_1", 1))
	expression(t, "x.x", col("x", "x", 0))
	expression(t, "( ((a)) )", col("", "a", 4))
	expression(t, "'count'", lit(text("count"), 0))
	expression(t, "'null'", lit(text("null"), 0))
	expression(t, "9223372036854775807", num(1<<63-1, 0))
}

// P17.1: aggregates; Count of all rows has no kids.
func TestAggregates(t *testing.T) {
	expression(t, "count(*)", on(api.Count, 0))
	expression(t, " COUNT ( * ) ", on(api.Count, 1))
	expression(t, "count(a)", on(api.Count, 0, col("", "a", 6)))
	expression(t, "Sum(a.b)", on(api.Sum, 0, col("a", "b", 4)))
	expression(t, "min((1))", on(api.Min, 0, num(1, 5)))
	expression(t, "max(a or b)", on(api.Max, 0, on(api.Or, 6, col("", "a", 4), col("", "b", 9))))
	expression(t, "sum(count(*))", on(api.Sum, 0, on(api.Count, 4)))
	expression(t, "count(*) * 2", on(api.Mul, 9, on(api.Count, 0), num(2, 11)))
	for s, at := range map[string]int{"sum(*)": 4, "min(*)": 4, "max(*)": 4, "count(* )*": 10, "count(**)": 7, "count(*,a)": 7, "count(a,b)": 7, "count()": 6, "sum()": 4, "count": 5, "count *": 6, "count a": 6, "sum (": 5, "count(": 6, "count(*": 7, "count(a": 7, "count.a": 5, "a.count": 2, "count(* + 1)": 8, "count((*))": 7} {
		noExpression(t, s, at, api.ErrSyntax)
	}
}

// P17.1: each binary operator, and the index of its sign or word.
func TestBinary(t *testing.T) {
	for s, op := range map[string]api.Op{"or": api.Or, "and": api.And, "=": api.Eq, "<>": api.Ne, "<": api.Lt, "<=": api.Le, ">": api.Gt, ">=": api.Ge, "+": api.Add, "-": api.Sub, "*": api.Mul, "/": api.Div, "OR": api.Or, "aNd": api.And} {
		expression(t, "a "+s+" 1", on(op, 2, col("", "a", 0), num(1, 3+len(s))))
		noExpression(t, "a "+s, 2+len(s), api.ErrSyntax)
		if s != "-" {
			noExpression(t, s+" a", 0, api.ErrSyntax)
			noExpression(t, "a "+s+" "+s+" a", 3+len(s), api.ErrSyntax)
		}
	}
}

// P17.1: which operators bind tighter.
func TestLevels(t *testing.T) {
	a, b, c := func(at int) api.Expr { return col("", "a", at) }, func(at int) api.Expr { return col("", "b", at) }, func(at int) api.Expr { return col("", "c", at) }
	expression(t, "a or b and c", on(api.Or, 2, a(0), on(api.And, 7, b(5), c(11))))
	expression(t, "a and b or c", on(api.Or, 8, on(api.And, 2, a(0), b(6)), c(11)))
	expression(t, "not a and b", on(api.And, 6, on(api.Not, 0, a(4)), b(10)))
	expression(t, "not a = b", on(api.Not, 0, on(api.Eq, 6, a(4), b(8))))
	expression(t, "not a is null", on(api.Not, 0, on(api.IsNull, 6, a(4))))
	expression(t, "not not a", on(api.Not, 0, on(api.Not, 4, a(8))))
	expression(t, "a and not b or c", on(api.Or, 12, on(api.And, 2, a(0), on(api.Not, 6, b(10))), c(15)))
	expression(t, "a+b<c", on(api.Lt, 3, on(api.Add, 1, a(0), b(2)), c(4)))
	expression(t, "a<b+c", on(api.Lt, 1, a(0), on(api.Add, 3, b(2), c(4))))
	expression(t, "a+b*c", on(api.Add, 1, a(0), on(api.Mul, 3, b(2), c(4))))
	expression(t, "a*b+c", on(api.Add, 3, on(api.Mul, 1, a(0), b(2)), c(4)))
	expression(t, "-a*b", on(api.Mul, 2, on(api.Neg, 0, a(1)), b(3)))
	expression(t, "a--b", on(api.Sub, 1, a(0), on(api.Neg, 2, b(3))))
	expression(t, "a*-b-c", on(api.Sub, 4, on(api.Mul, 1, a(0), on(api.Neg, 2, b(3))), c(5)))
	expression(t, "--1", on(api.Neg, 0, on(api.Neg, 1, num(1, 2))))
	expression(t, "-a is null", on(api.IsNull, 3, on(api.Neg, 0, a(1))))
	expression(t, "a+b is null", on(api.IsNull, 4, on(api.Add, 1, a(0), b(2))))
	expression(t, "(a or b) and c", on(api.And, 9, on(api.Or, 3, a(1), b(6)), c(13)))
	expression(t, "a-(b-c)", on(api.Sub, 1, a(0), on(api.Sub, 4, b(3), c(5))))
	expression(t, "-(a+b)", on(api.Neg, 0, on(api.Add, 3, a(2), b(4))))
	expression(t, "(a=b)=c", on(api.Eq, 5, on(api.Eq, 2, a(1), b(3)), c(6)))
	expression(t, "a=(not b)", on(api.Eq, 1, a(0), on(api.Not, 3, b(7))))
}

// P17.1: binary operators of one level go from the left, comparisons not at all.
func TestFromTheLeft(t *testing.T) {
	a, b, c := col("", "a", 0), col("", "b", 2), col("", "c", 4)
	level := func(signs string, ops ...api.Op) {
		for i, x := range ops {
			for j, y := range ops {
				s := "a" + signs[i:i+1] + "b" + signs[j:j+1] + "c"
				expression(t, s, on(y, 3, on(x, 1, a, b), c))
			}
		}
	}
	level("+-", api.Add, api.Sub)
	level("*/", api.Mul, api.Div)
	expression(t, "a or b or c", on(api.Or, 7, on(api.Or, 2, a, col("", "b", 5)), col("", "c", 10)))
	expression(t, "a and b and c", on(api.And, 8, on(api.And, 2, a, col("", "b", 6)), col("", "c", 12)))
	signs := []string{"=", "<>", "<", "<=", ">", ">=", "is null", "is not null"}
	for i, x := range signs {
		for j, y := range signs {
			right, rest := " b ", " c"
			if i > 5 {
				right = " "
			}
			if j > 5 {
				rest = ""
			}
			noExpression(t, "a "+x+right+y+rest, 2+len(x)+len(right), api.ErrSyntax)
		}
	}
}

// P17.1: IS NULL and IS NOT NULL are at their IS.
func TestIsNull(t *testing.T) {
	expression(t, "a is null", on(api.IsNull, 2, col("", "a", 0)))
	expression(t, "1 Is Not Null", on(api.Not, 2, on(api.IsNull, 2, num(1, 0))))
	expression(t, "null is null", on(api.IsNull, 5, lit(api.Value{}, 0)))
	expression(t, "not a is not null and b", on(api.And, 18, on(api.Not, 0, on(api.Not, 6, on(api.IsNull, 6, col("", "a", 4)))), col("", "b", 22)))
	for s, at := range map[string]int{"a is": 4, "a is not": 8, "a is b": 5, "a is true": 5, "a is not b": 9, "a is not not null": 9, "a not null": 2, "a is null null": 10, "is null": 0, "a is (null)": 5, "a null": 2, "a is 'null'": 5} {
		noExpression(t, s, at, api.ErrSyntax)
	}
}

// P17.1: selects, with each of their clauses alone and all together.
func TestSelects(t *testing.T) {
	sel := func(change func(s *api.Stmt)) api.Stmt {
		s := api.Stmt{Kind: api.Select, Table: "t", Limit: -1, At: 14}
		change(&s)
		return s
	}
	statement(t, "select * from  t", api.Stmt{Kind: api.Select, Table: "t", Limit: -1, At: 15})
	statement(t, "select * FROM t;", sel(func(s *api.Stmt) {}))
	statement(t, "select * from t limit 0", sel(func(s *api.Stmt) { s.Limit = 0 }))
	statement(t, "select * from t limit 9223372036854775807 ;", sel(func(s *api.Stmt) { s.Limit = 1<<63 - 1 }))
	statement(t, "select * from t join u on a=1", sel(func(s *api.Stmt) { s.Join, s.On = "u", on(api.Eq, 27, col("", "a", 26), num(1, 28)) }))
	statement(t, "select * from t where a", sel(func(s *api.Stmt) { s.Where = col("", "a", 22) }))
	statement(t, "select * from t group by a, 1", sel(func(s *api.Stmt) { s.Group = []api.Expr{col("", "a", 25), num(1, 28)} }))
	statement(t, "select * from t order by a", sel(func(s *api.Stmt) { s.Order = []api.Order{{By: col("", "a", 25)}} }))
	statement(t, "select * from t order by a desc, 1 asc, b", sel(func(s *api.Stmt) {
		s.Order = []api.Order{{By: col("", "a", 25), Down: true}, {By: num(1, 33)}, {By: col("", "b", 40)}}
	}))
	statement(t, "select a, count(*), -1 from t join t on t.a where b group by a order by c desc limit 7", api.Stmt{
		Kind: api.Select, Table: "t", Join: "t", At: 28, Limit: 7,
		Items: []api.Expr{col("", "a", 7), on(api.Count, 10), on(api.Neg, 20, num(1, 21))},
		On:    col("t", "a", 40), Where: col("", "b", 50), Group: []api.Expr{col("", "a", 61)},
		Order: []api.Order{{By: col("", "c", 72), Down: true}},
	})
}

// P17.1: inserts, updates and deletes.
func TestChanges(t *testing.T) {
	statement(t, "insert into t values (1)", api.Stmt{Kind: api.Insert, Table: "t", At: 12, Limit: -1, Rows: [][]api.Expr{{num(1, 22)}}})
	statement(t, "INSERT INTO T VALUES(1,a),((2)) , (null);", api.Stmt{Kind: api.Insert, Table: "t", At: 12, Limit: -1,
		Rows: [][]api.Expr{{num(1, 21), col("", "a", 23)}, {num(2, 28)}, {lit(api.Value{}, 35)}}})
	statement(t, "update t set a = b = 1", api.Stmt{Kind: api.Update, Table: "t", At: 7, Limit: -1,
		Sets: []api.Set{{Name: "a", At: 13, To: on(api.Eq, 19, col("", "b", 17), num(1, 21))}}})
	statement(t, "update t set a=1,a=u.a where c or d", api.Stmt{Kind: api.Update, Table: "t", At: 7, Limit: -1,
		Sets:  []api.Set{{Name: "a", At: 13, To: num(1, 15)}, {Name: "a", At: 17, To: col("u", "a", 19)}},
		Where: on(api.Or, 31, col("", "c", 29), col("", "d", 34))})
	statement(t, "delete from t", api.Stmt{Kind: api.Delete, Table: "t", At: 12, Limit: -1})
	statement(t, "delete from t where 1;", api.Stmt{Kind: api.Delete, Table: "t", At: 12, Limit: -1, Where: num(1, 20)})
}

// P17.1: the first token that cannot occur at its position.
func TestSyntaxFaults(t *testing.T) {
	for s, at := range map[string]int{
		"": 0, " \n": 2, ";": 0, "1": 0, "a": 0, "select": 6, "select *": 8, "select * a": 9, "select *, a from t": 8, "select a, * from t": 10, "select a b from t": 9, "select a,": 9, "select a, from t": 10, "select ,": 7, "select select": 7,
		"select * from": 13, "select * from 1": 14, "select * from 't'": 14, "select * from (t)": 14, "select * from t u": 16, "select * from t, u": 15, "select * from t.u": 15, "select * from t 1": 16, "select * from t from": 16, "select * from t ; ;": 18, "select * from t ; a": 18,
		"select * from t join": 20, "select * from t join u": 22, "select * from t join u where a": 23, "select * from t join u on": 25, "select * from t join u on a join v on b": 28, "select * from t on a": 16, "select * from t join on a": 21,
		"select * from t where": 21, "select * from t where where": 22, "select * from t where a b": 24, "select * from t where a, b": 23, "select * from t where a where b": 24, "select * from t where a join u on b": 24,
		"select * from t group": 21, "select * from t group a": 22, "select * from t group by": 24, "select * from t group by *": 25, "select * from t group by a,": 27, "select * from t group by a desc": 27, "select * from t by a": 16, "select * from t group by a where b": 27, "select * from t group by by": 25,
		"select * from t order": 21, "select * from t order a": 22, "select * from t order by": 24, "select * from t order by a asc desc": 31, "select * from t order by a desc desc": 32, "select * from t order by asc": 25, "select * from t order by a, ": 28, "select * from t order by a group by a": 27, "select * from t order by a desc b": 32,
		"select * from t limit": 21, "select * from t limit a": 22, "select * from t limit -1": 22, "select * from t limit 1.0": 22, "select * from t limit '1'": 22, "select * from t limit (1)": 22, "select * from t limit 1 + 1": 24, "select * from t limit 1, 2": 23, "select * from t limit null": 22, "select * from t limit 1 where a": 24, "select * from t limit 1 order by a": 24,
		"insert": 6, "insert t": 7, "insert into": 11, "insert into 1": 12, "insert into t": 13, "insert into t (a) values (1)": 14, "insert into t values": 20, "insert into t values 1": 21, "insert into t values ()": 22, "insert into t values (1": 23, "insert into t values (1,)": 24, "insert into t values (1) (2)": 25, "insert into t values (1),": 25, "insert into t values (1), 2": 26, "insert into t values (1) where a": 25, "insert into t values (*)": 22, "insert into values (1)": 12, "insert into t values (1;": 23, "insert values": 7,
		"update": 6, "update t": 8, "update t a": 9, "update t set": 12, "update t set 1": 13, "update t set a": 14, "update t set a 1": 15, "update t set a =": 16, "update t set a = 1,": 19, "update t set a = 1, 2": 20, "update t set t.a = 1": 14, "update t set a = 1 b = 2": 19, "update t set a = 1 where": 24, "update t set (a) = 1": 13, "update t where a": 9, "update from t": 7, "update t set a = *": 17, "update t set a <= 1": 15, "update t set a = b = c = d": 23,
		"delete": 6, "delete t": 7, "delete from": 11, "delete from t t": 14, "delete from t where": 19, "delete from t limit 1": 14, "delete * from t": 7, "delete from t order by a": 14, "delete from t join u on a": 14, "delete from t set": 14,
		"selects * from t": 0, "'select' * from t": 0, "select * 'from' t": 9, "begin": 0, "commit": 0, "create": 0,
	} {
		noStatement(t, s, at, api.ErrSyntax)
	}
	for s, at := range map[string]int{
		"": 0, "  ": 2, ";": 0, "a;": 1, "a b": 2, "a,b": 1, "(a": 2, "a)": 1, "()": 1, ")": 0, "(a))": 3, "(a,b)": 2, "a.": 2, "a..b": 2, "a.b.c": 3, "a.1": 2, "a.*": 2, "a.(b)": 2, ".a": 0, "1 2": 2, "'a' 'b'": 4, "*": 0, "+1": 0, "1 + ": 4, "1 + + 1": 4, "- + 1": 2, "1 * / 2": 4, "not": 3, "a = not b": 4, "- not a": 2, "1 + not a": 4, "a not b": 2, "and a": 0, "a and": 5, "a and or b": 6, "a or and b": 5, "a <> = b": 5, "a < > b": 4, "a == b": 3, "a = < b": 4, "select": 0, "(select a from t)": 1, "a from t": 2, "true.a": 4, "a.true": 2, "null null": 5, "a asc": 2, "a(b)": 1, "a (b)": 2, "1(2)": 1, "-": 1, "(-)": 2, "1 is null + 1": 10, "a + b = c = d": 10,
	} {
		noExpression(t, s, at, api.ErrSyntax)
	}
}

// P17.1: what lex refuses is refused at its place, ahead of what comes before it.
func TestLexFaults(t *testing.T) {
	for s, at := range map[string]int{"#": 0, "select # from t": 7, "a b #": 4, ") 'a": 2, "1.": 0, "a.1.": 2, "select * from t limit 99999999999999999999": 22, "(((x'0'": 3, strings.Repeat(" ", 1001): 0, "a " + strings.Repeat("a", 999): 0, strings.Repeat("(", 100) + "#": 100} {
		noStatement(t, s, at, api.ErrSyntax, api.ErrSign)
		noExpression(t, s, at, api.ErrSyntax, api.ErrSign)
	}
	noExpression(t, strings.Repeat(" ", 1000), 1000, api.ErrSyntax)
	noStatement(t, strings.Repeat(" ", 1000), 1000, api.ErrSyntax)
	expression(t, strings.Repeat("a", 1000), col("", strings.Repeat("a", 1000), 0))
}

// P17.1: the words of the grammar are no names, wherever a name stands; any other
// word is one.
func TestNames(t *testing.T) {
	words := strings.Fields("select from join on where group by order asc desc limit insert into values update set delete and or not is null true false count sum min max")
	if list := kept(); len(list) != len(words) {
		t.Errorf("the grammar keeps %v", list)
	}
	forms := []string{"select * from %", "select * from t join % on a", "insert into % values (1)", "update % set a = 1", "update t set % = 1", "update t set a = 1, % = 1", "delete from %"}
	for _, word := range words {
		for _, s := range []string{word, strings.ToUpper(word)} {
			for _, form := range forms {
				noStatement(t, strings.Replace(form, "%", s, 1), strings.Index(form, "%"), api.ErrSyntax)
			}
			noExpression(t, "a."+s, 2, api.ErrSyntax)
			noStatement(t, "select a."+s+" from t", 9, api.ErrSyntax)
		}
	}
	for _, word := range strings.Fields("end as in like between having distinct table create all any x a_ null_ nulls selec selects from1 avg sign name number text bytes expr statement one sets key int begin commit by_ bys ascend ands ors nots iss trues falses counts sums mins maxs xs") {
		expression(t, word, col("", word, 0))
		expression(t, word+"."+strings.ToUpper(word), col(word, word, 0))
		for _, form := range forms {
			if s, e := parse.Parse(strings.Replace(form, "%", word, 1)); e != nil || !slices.Contains([]string{s.Table, s.Join, name(s.Sets)}, word) {
				t.Errorf("%s: %q is no name: %v, %v", form, word, s, e)
			}
		}
	}
}

// name is that of the last one.
func name(l []api.Set) string {
	if len(l) == 0 {
		return ""
	}
	return l[len(l)-1].Name
}

// Rule 4 and P2: answers share no memory with each other, nor lists of one answer,
// and are the same again, in goroutines side by side.
func TestNewMemory(t *testing.T) {
	const s = "select a, b, c from t where a + b group by a, b, c order by a, b, c"
	const r = "insert into t values (1, 2, 3), (4, 5, 6), (7, 8, 9)"
	want, _ := parse.Parse(s)
	other, _ := parse.Parse(s)
	for _, l := range [][]api.Expr{other.Items, other.Group, other.Where.Kids} {
		_ = append(l, num(9, 9))
		for i := range l {
			l[i] = num(9, 9)
		}
	}
	other.Order[0] = api.Order{Down: true}
	var all sync.WaitGroup
	for range 8 {
		all.Go(func() {
			for range 100 {
				statement(t, s, want)
			}
		})
	}
	all.Wait()
	rows, _ := parse.Parse(r)
	for i := range rows.Rows {
		_ = append(rows.Rows[i], num(9, 9), num(9, 9))
		rows.Rows[i][0] = num(9, 9)
	}
	for i, row := range rows.Rows {
		if len(row) != 3 || !same(row[0], num(9, 9)) || row[1].Value.N != int64(3*i+2) {
			t.Errorf("row %d is %v", i, row)
		}
	}
}

// The examples of README.md.
func TestReadmeExamples(t *testing.T) {
	a, b := col("", "a", 0), col("", "b", 4)
	x := on(api.Sub, 6, on(api.Sub, 2, a, b), on(api.Mul, 10, num(2, 8), col("", "c", 12)))
	expression(t, "a - b - 2 * c", x)
	if n := parse.Deep(x); n != 3 {
		t.Errorf("%d deep", n)
	}
	expression(t, "b is not null", on(api.Not, 2, on(api.IsNull, 2, col("", "b", 0))))
	noExpression(t, "a = b = c", 6, api.ErrSyntax)
	statement(t, "Select count(*) from t where not a order by b desc limit 5;", api.Stmt{Kind: api.Select, Table: "t", At: 21, Limit: 5,
		Items: []api.Expr{on(api.Count, 7)}, Where: on(api.Not, 29, col("", "a", 33)), Order: []api.Order{{By: col("", "b", 44), Down: true}}})
	noStatement(t, "delete t", 7, api.ErrSyntax)
	noStatement(t, "select # from t", 7, api.ErrSyntax, api.ErrSign)
}
