package rules

import (
	"testing"

	"frankpledge/api"
	"frankpledge/catalog"
	"frankpledge/check"
	"frankpledge/commit"
	"frankpledge/coordinator"
	"frankpledge/desk"
	"frankpledge/disk"
	"frankpledge/engine"
	"frankpledge/eval"
	"frankpledge/exec"
	"frankpledge/fault"
	"frankpledge/key"
	"frankpledge/letter"
	"frankpledge/lex"
	"frankpledge/lock"
	"frankpledge/net"
	"frankpledge/number"
	"frankpledge/parse"
	"frankpledge/participant"
	"frankpledge/row"
	"frankpledge/shard"
	"frankpledge/split"
	"frankpledge/table"
	"frankpledge/value"
	"frankpledge/wal"
)

// Each call of the chapters, with its signature: this file builds only as long
// as all of them stand.

// 01-fault.md
var (
	_ func(code api.Errno, at int) error          = fault.New
	_ func(e error, code api.Errno, at int) error = fault.Wrap
	_ func(a, b error) error                      = fault.Join
	_ func(e error) api.Errno                     = fault.Code
	_ func(e error) int                           = fault.At
	_ func(e error, code api.Errno) bool          = fault.Has
	_ func(e error) []api.Errno                   = fault.Codes
	_ func(e error) []int                         = fault.Places
	_ func(e error) int                           = fault.Deep
)

// 02-value.md
var (
	_ func(v api.Value) bool                  = value.Right
	_ func(a, b api.Value) int                = value.Order
	_ func(a, b []api.Value) int              = value.Rows
	_ func(a, b api.Value) (api.Value, error) = value.And
	_ func(a, b api.Value) (api.Value, error) = value.Or
	_ func(a api.Value) (api.Value, error)    = value.Not
	_ func(v api.Value) string                = value.Text
	_ func(s string) (api.Value, error)       = value.Read
)

// 03-number.md
var (
	_ func(op api.Op, a, b api.Value) (api.Value, error) = number.Reckon
	_ func(a api.Value) (api.Value, error)               = number.Neg
	_ func(op api.Op, a, b api.Value) (api.Value, error) = number.Compare
	_ func(a, b api.Value) (int, error)                  = number.Sign
)

// 04-key.md
var (
	_ func(l []api.Value) ([]byte, api.Errno) = key.Encode
	_ func(b []byte) ([]api.Value, api.Errno) = key.Decode
	_ func(b []byte) []byte                   = key.Next
)

// 05-row.md
var (
	_ func(l []api.Value) ([]byte, api.Errno) = row.Encode
	_ func(b []byte) ([]api.Value, api.Errno) = row.Decode
	_ func(n int64) []byte                    = row.Short
	_ func(b []byte) (int64, int, bool)       = row.Long
)

// 06-disk.md
var (
	_ func() *disk.Disk                                    = disk.New
	_ func(d *disk.Disk, b []byte) (int, api.Errno)        = (*disk.Disk).Append
	_ func(d *disk.Disk) api.Errno                         = (*disk.Disk).Sync
	_ func(d *disk.Disk, to int) api.Errno                 = (*disk.Disk).Drop
	_ func(d *disk.Disk, to int) api.Errno                 = (*disk.Disk).Cut
	_ func(d *disk.Disk, from, to int) ([]byte, api.Errno) = (*disk.Disk).Read
	_ func(d *disk.Disk) int                               = (*disk.Disk).Begin
	_ func(d *disk.Disk) int                               = (*disk.Disk).End
	_ func(d *disk.Disk) int                               = (*disk.Disk).Safe
	_ func(d *disk.Disk, keep int) *disk.Disk              = (*disk.Disk).Power
)

// 07-wal.md
var (
	_ func(b []byte) uint16                            = wal.Check
	_ func(d *disk.Disk) (*wal.Wal, api.Errno)         = wal.Open
	_ func(w *wal.Wal, b []byte) (int, api.Errno)      = (*wal.Wal).Append
	_ func(w *wal.Wal) api.Errno                       = (*wal.Wal).Sync
	_ func(w *wal.Wal, number int) api.Errno           = (*wal.Wal).Trim
	_ func(w *wal.Wal) []int                           = (*wal.Wal).Numbers
	_ func(w *wal.Wal, number int) ([]byte, api.Errno) = (*wal.Wal).Read
	_ func(w *wal.Wal) int                             = (*wal.Wal).Safe
)

// 08-table.md
var (
	_ func() *table.Table                                           = table.New
	_ func(t *table.Table, key, row []byte) ([]byte, bool)          = (*table.Table).Put
	_ func(t *table.Table, key []byte) ([]byte, bool)               = (*table.Table).Drop
	_ func(t *table.Table, key []byte) ([]byte, bool)               = (*table.Table).Get
	_ func(t *table.Table, from, to []byte, most int) []table.Entry = (*table.Table).Range
	_ func(t *table.Table, to []byte) (table.Entry, bool)           = (*table.Table).Last
	_ func(t *table.Table) int                                      = (*table.Table).Len
	_ func(t *table.Table) *table.Table                             = (*table.Table).Copy
)

// 09-lock.md
var (
	_ func(a, b lock.Lock) bool                          = lock.Clash
	_ func() *lock.Locks                                 = lock.New
	_ func(l *lock.Locks, x lock.Lock) (bool, api.Errno) = (*lock.Locks).Ask
	_ func(l *lock.Locks, tx int) []int                  = (*lock.Locks).Drop
	_ func(l *lock.Locks, tx int) []int                  = (*lock.Locks).Cancel
	_ func(l *lock.Locks, tx int) []lock.Lock            = (*lock.Locks).Granted
	_ func(l *lock.Locks) []lock.Lock                    = (*lock.Locks).Waiting
)

// 10-shard.md
var (
	_ func(d *disk.Disk) (*shard.Shard, api.Errno)                                           = shard.Open
	_ func(s *shard.Shard, tx int) api.Errno                                                 = (*shard.Shard).Begin
	_ func(s *shard.Shard, tx int, space string, key, row []byte) api.Errno                  = (*shard.Shard).Put
	_ func(s *shard.Shard, tx int, space string, key []byte) api.Errno                       = (*shard.Shard).Drop
	_ func(s *shard.Shard, tx int, space string, key []byte) ([]byte, api.Errno)             = (*shard.Shard).Get
	_ func(s *shard.Shard, tx int, space string, from, to []byte) ([]table.Entry, api.Errno) = (*shard.Shard).Range
	_ func(s *shard.Shard, tx int) int                                                       = (*shard.Shard).Mark
	_ func(s *shard.Shard, tx int, mark int) api.Errno                                       = (*shard.Shard).Back
	_ func(s *shard.Shard, tx int) api.Errno                                                 = (*shard.Shard).Prepare
	_ func(s *shard.Shard, tx int) api.Errno                                                 = (*shard.Shard).Commit
	_ func(s *shard.Shard, tx int) api.Errno                                                 = (*shard.Shard).Abort
	_ func(s *shard.Shard) []int                                                             = (*shard.Shard).Doubts
	_ func(s *shard.Shard, tx int) []shard.Change                                            = (*shard.Shard).Changes
	_ func(s *shard.Shard) api.Errno                                                         = (*shard.Shard).Image
	_ func(s *shard.Shard, space string) []table.Entry                                       = (*shard.Shard).Rows
)

// 11-letter.md
var (
	_ func(l api.Letter) bool                = letter.Right
	_ func(l api.Letter) ([]byte, api.Errno) = letter.Encode
	_ func(b []byte) (api.Letter, api.Errno) = letter.Decode
	_ func(a, b api.Letter) bool             = letter.Same
)

// 12-net.md
var (
	_ func() *net.Net                                      = net.New
	_ func(n *net.Net, l api.Letter) (int, api.Errno)      = (*net.Net).Send
	_ func(n *net.Net, number int) (api.Letter, api.Errno) = (*net.Net).Take
	_ func(n *net.Net, number int) (int, api.Errno)        = (*net.Net).Twice
	_ func(n *net.Net, number int) api.Errno               = (*net.Net).Lose
	_ func(n *net.Net) []int                               = (*net.Net).Numbers
	_ func(n *net.Net, number int) (api.Letter, api.Errno) = (*net.Net).Look
	_ func(n *net.Net, node int) []int                     = (*net.Net).To
	_ func(n *net.Net) (sent, taken, lost int)             = (*net.Net).Told
)

// 13-coordinator.md
var (
	_ func(d *disk.Disk, node int) (*coordinator.Coordinator, api.Errno) = coordinator.Open
	_ func(c *coordinator.Coordinator) (int, api.Errno)                  = (*coordinator.Coordinator).Begin
	_ func(c *coordinator.Coordinator, tx int, nodes []int) api.Errno    = (*coordinator.Coordinator).Ask
	_ func(c *coordinator.Coordinator, l api.Letter) api.Errno           = (*coordinator.Coordinator).Hear
	_ func(c *coordinator.Coordinator) api.Errno                         = (*coordinator.Coordinator).Tick
	_ func(c *coordinator.Coordinator, tx int) api.Errno                 = (*coordinator.Coordinator).Stop
	_ func(c *coordinator.Coordinator) []api.Letter                      = (*coordinator.Coordinator).Out
	_ func(c *coordinator.Coordinator, tx int) int                       = (*coordinator.Coordinator).State
	_ func(c *coordinator.Coordinator) []int                             = (*coordinator.Coordinator).Pending
)

// 14-participant.md
var (
	_ func(s *shard.Shard, node int) (*participant.Participant, api.Errno) = participant.New
	_ func(p *participant.Participant, l api.Letter) api.Errno             = (*participant.Participant).Hear
	_ func(p *participant.Participant) api.Errno                           = (*participant.Participant).Tick
	_ func(p *participant.Participant) []api.Letter                        = (*participant.Participant).Out
	_ func(p *participant.Participant) []int                               = (*participant.Participant).Over
	_ func(p *participant.Participant, tx int) int                         = (*participant.Participant).Known
)

// 15-commit.md
var (
	_ func(nodes int) (*commit.World, api.Errno)                     = commit.New
	_ func(w *commit.World) int                                      = (*commit.World).Nodes
	_ func(w *commit.World, node int) (int, api.Errno)               = (*commit.World).Start
	_ func(w *commit.World, tx, node int, key, row []byte) api.Errno = (*commit.World).Put
	_ func(w *commit.World, tx int, nodes []int) api.Errno           = (*commit.World).Ask
	_ func(w *commit.World, tx int) api.Errno                        = (*commit.World).Stop
	_ func(w *commit.World) []int                                    = (*commit.World).Letters
	_ func(w *commit.World, number int) (api.Letter, api.Errno)      = (*commit.World).Look
	_ func(w *commit.World, number int) api.Errno                    = (*commit.World).Deliver
	_ func(w *commit.World, number int) api.Errno                    = (*commit.World).Twice
	_ func(w *commit.World, number int) api.Errno                    = (*commit.World).Lose
	_ func(w *commit.World, node int) api.Errno                      = (*commit.World).Tick
	_ func(w *commit.World, node int, keep [2]int) api.Errno         = (*commit.World).Power
	_ func(w *commit.World, node int) []table.Entry                  = (*commit.World).Rows
	_ func(w *commit.World, tx int) int                              = (*commit.World).Decided
	_ func(w *commit.World, tx, node int) int                        = (*commit.World).Known
)

// 16-lex.md
var (
	_ func(text string) ([]lex.Token, error) = lex.Lex
)

// 17-parse.md
var (
	_ func(text string) (api.Stmt, error) = parse.Parse
	_ func(text string) (api.Expr, error) = parse.Expression
	_ func(e api.Expr) int                = parse.Deep
)

// 18-catalog.md
var (
	_ func(t api.Table) error                                  = catalog.Right
	_ func(b []byte) uint32                                    = catalog.Hash
	_ func() *catalog.Catalog                                  = catalog.New
	_ func(c *catalog.Catalog, t api.Table) error              = (*catalog.Catalog).Add
	_ func(c *catalog.Catalog, name string) (api.Table, error) = (*catalog.Catalog).Get
	_ func(c *catalog.Catalog) []string                        = (*catalog.Catalog).Names
	_ func(t api.Table) int                                    = catalog.Parts
	_ func(t api.Table, key []api.Value) (int, error)          = catalog.Part
	_ func(t api.Table, row []api.Value) ([]api.Value, error)  = catalog.Row
)

// 19-check.md
var (
	_ func(c *catalog.Catalog, s api.Stmt) (api.Stmt, error)     = check.Check
	_ func(c *catalog.Catalog, s api.Stmt) ([]api.Column, error) = check.Columns
	_ func(s api.Stmt) bool                                      = check.Grouped
	_ func(e api.Expr) bool                                      = check.Has
)

// 20-eval.md
var (
	_ func(e api.Expr, row []api.Value) (api.Value, error) = eval.Eval
	_ func(e api.Expr, row []api.Value) (bool, error)      = eval.Holds
	_ func(op api.Op, l []api.Value) (api.Value, error)    = eval.Fold
	_ func(v api.Value, to api.Kind) (api.Value, error)    = eval.Fit
)

// 21-exec.md
var (
	_ func(s api.Stmt, left, right [][]api.Value) ([][]api.Value, error)        = exec.Select
	_ func(t api.Table, s api.Stmt) ([][]api.Value, error)                      = exec.Insert
	_ func(t api.Table, s api.Stmt, row []api.Value) ([]api.Value, bool, error) = exec.Update
	_ func(a, b error) error                                                    = exec.Least
)

// 22-split.md
var (
	_ func(s api.Stmt, left, right [][]api.Value) split.Part  = split.Of
	_ func(s api.Stmt, l []split.Part) ([][]api.Value, error) = split.Merge
	_ func(e api.Expr) bool                                   = split.Calm
	_ func(t api.Table, where api.Expr) []int                 = split.Prune
	_ func(s api.Stmt, first int) (int, int, bool)            = split.Keys
	_ func(rows [][]api.Value, column, n int) [][][]api.Value = split.Spread
)

// 23-engine.md
var (
	_ func(nodes int) (*engine.Engine, api.Errno)                             = engine.New
	_ func(e *engine.Engine, t api.Table) error                               = (*engine.Engine).Create
	_ func(e *engine.Engine, node int) (int, api.Errno)                       = (*engine.Engine).Open
	_ func(e *engine.Engine, session int, text string) (engine.Answer, error) = (*engine.Engine).Exec
	_ func(e *engine.Engine, session int) api.Errno                           = (*engine.Engine).Commit
	_ func(e *engine.Engine, session int) api.Errno                           = (*engine.Engine).Rollback
	_ func(e *engine.Engine, session int) int                                 = (*engine.Engine).State
	_ func(e *engine.Engine, session int) int                                 = (*engine.Engine).Last
	_ func(e *engine.Engine) []int                                            = (*engine.Engine).Letters
	_ func(e *engine.Engine, number int) (api.Letter, api.Errno)              = (*engine.Engine).Look
	_ func(e *engine.Engine, number int) api.Errno                            = (*engine.Engine).Deliver
	_ func(e *engine.Engine, number int) api.Errno                            = (*engine.Engine).Twice
	_ func(e *engine.Engine, number int) api.Errno                            = (*engine.Engine).Lose
	_ func(e *engine.Engine, node int) api.Errno                              = (*engine.Engine).Tick
	_ func(e *engine.Engine, node int, keep [2]int) api.Errno                 = (*engine.Engine).Power
	_ func(e *engine.Engine, table string) [][]api.Value                      = (*engine.Engine).Rows
)

// 24-desk.md
var (
	_ func(nodes int) (*desk.Desk, api.Errno)      = desk.New
	_ func(d *desk.Desk, s string) (string, error) = (*desk.Desk).Line
)

// The structs that the chapters list, field by field.
var (
	_ = struct{ Key, Row []byte }(table.Entry{})
	_ = struct {
		Tx       int
		Space    string
		From, To []byte
		Mode     api.Mode
	}(lock.Lock{})
	_ = struct {
		Space    string
		Key, Row []byte
		Drop     bool
	}(shard.Change{})
	_ = struct {
		Kind  lex.Kind
		Text  string
		Value api.Value
		At    int
	}(lex.Token{})
	_ = struct {
		Rows  [][]api.Value
		Count int
	}(engine.Answer{})
	_ = split.Part{}
)

// The kinds of tokens are numbers that the chapter lists.
func TestTokenKinds(t *testing.T) {
	for i, k := range []lex.Kind{lex.Word, lex.Number, lex.Text, lex.Bytes, lex.Sign, lex.End} {
		if int(k) != i+1 {
			t.Errorf("kind %d is %d", i+1, k)
		}
	}
}
