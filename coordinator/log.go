package coordinator

import (
	"frankpledge/api"
	"frankpledge/disk"
	"frankpledge/row"
	"frankpledge/wal"
)

// kind is a record's, by its number in the log.
type kind int

const (
	opening    kind = iota // of an incarnation
	decision               // to commit a transaction, of which these nodes are to be told
	forgetting             // of a transaction
)

// open is the coordinator that the log of a disk tells of, and logs that it is opened.
func open(d *disk.Disk, node int) (*Coordinator, api.Errno) {
	log, e := wal.Open(d)
	if e != api.OK {
		return nil, e
	}
	c := &Coordinator{node: node, log: log, known: map[int]transaction{}}
	for _, n := range log.Numbers() {
		b, _ := log.Read(n)
		if l, ok := read(b); ok {
			c.redo(l)
		}
	}
	if c.incarnation > maxIncarnation {
		return nil, api.ErrFull
	}
	if e := c.force(opening, c.incarnation); e != api.OK {
		return nil, e
	}
	return c, api.OK
}

// redo does what a record tells. Who has been told of a commit was not logged, so all
// are to be told again.
func (c *Coordinator) redo(l []int) {
	switch kind(l[0]) {
	case opening:
		c.incarnation++
	case decision:
		c.known[l[1]] = transaction{state: committed, open: set(l[2])}
	case forgetting:
		delete(c.known, l[1])
	}
}

// force logs a record, and has it outlast a loss of power.
func (c *Coordinator) force(k kind, numbers ...int) api.Errno {
	if e := c.write(k, numbers...); e != api.OK {
		return e
	}
	return c.log.Sync()
}

// write logs a record.
func (c *Coordinator) write(k kind, numbers ...int) api.Errno {
	l := []api.Value{integer(int(k))}
	for _, n := range numbers {
		l = append(l, integer(n))
	}
	b, e := row.Encode(l)
	if e != api.OK {
		return e
	}
	_, e = c.log.Append(b)
	return e
}

// integer is an Int.
func integer(n int) api.Value { return api.Value{Kind: api.Int, N: int64(n)} }

// read are the numbers of a record, from its kind on, if bytes are one.
func read(b []byte) ([]int, bool) {
	values, e := row.Decode(b)
	if e != api.OK {
		return nil, false
	}
	var l []int
	for _, v := range values {
		if v.Kind != api.Int || v.N < 0 || v.N > api.MaxNumber {
			return nil, false
		}
		l = append(l, int(v.N))
	}
	return l, right(l)
}

// right tells whether a record may have such numbers.
func right(l []int) bool {
	if len(l) == 0 {
		return false
	}
	switch kind(l[0]) {
	case opening:
		fallthrough
	case forgetting:
		return len(l) == 2
	case decision:
		return len(l) == 3 && l[2] > 0 && l[2] < 1<<api.MaxNodes
	}
	return false
}
