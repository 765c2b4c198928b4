package commit_test

import (
	"fmt"
	"math/rand/v2"
	"strings"
	"testing"

	"frankpledge/api"
	"frankpledge/commit"
)

// long is a row of so many bytes that is put at node 1.
func long(tx int, key string, size int) step {
	return step{name: "Put", n: tx, node: 1, key: key, row: strings.Repeat("x", size)}
}

// filling are the steps of transaction 0, whose coordinator is at node 0, that leave room
// for so many bytes on the disk of the shard at node 1. They send the letters 0 to 3.
func filling(t *testing.T, room int) []step {
	t.Helper()
	l := []step{start(0)}
	left := 1<<20 - sizes([]entry{plain(0, 0), plain(3, 0), plain(4, 0)}) - room
	great := laidSize(0, 3, 2000)
	for ; left >= 2*great; left -= great {
		l = append(l, long(0, fmt.Sprintf("%03d", len(l)), 2000))
	}
	l = append(l, long(0, "x", 900))
	left -= laidSize(0, 1, 900)
	half := min(left/2, 1900)
	for key := range 20 {
		for size := half - 100; size <= half; size++ {
			for last := left - half - 200; last <= 2000; last++ {
				if laidSize(0, 2+key, size)+laidSize(0, 1, last) == left {
					return append(l, long(0, strings.Repeat("y", 2+key), size), long(0, "z", last), ask(0, 1), deliver(0), deliver(1), deliver(2), deliver(3))
				}
			}
		}
	}
	t.Fatalf("there are no rows that leave %d bytes", room)
	return nil
}

// P15.1 (G2), T1: a participant without room to prepare votes No, and all others abort.
func TestNoRoomToPrepare(t *testing.T) {
	need := sizes([]entry{plain(0, 16), laid(16, "a", "row"), plain(3, 16)})
	for _, room := range []int{0, need - 1, need, need + 1} {
		m, w := fresh(t, 3, filling(t, room)...)
		m.follow(t, w, start(0), put(16, 1, "a"), put(16, 2, "a"), ask(16, 1, 2))
		if room >= need {
			run(t, w, fine(deliver(4), post(api.Yes, 1, 0, 16)))
			knows(t, w, 16, 1, 0, 2, 1)
			continue
		}
		run(t, w, fine(deliver(4), post(api.No, 1, 0, 16)))
		knows(t, w, 16, 1, 0, 4, 1)
		run(t, w, fine(deliver(5), post(api.Yes, 2, 0, 16)), fine(deliver(6), post(api.Abort, 0, 2, 16)), fine(deliver(7), post(api.Abort, 0, 2, 16)), fine(deliver(8)), fine(deliver(9)))
		knows(t, w, 16, 0, 0, 4, 4)
		if _, put := rowsOf(t, w, 1)["a"]; put || len(w.Rows(2)) != 0 {
			t.Error("there is a row that was not committed")
		}
	}
}

// P15.1 (G2): a participant without room to end a transaction: the error is that of the
// letter that was delivered, and the transaction stays in doubt.
func TestNoRoomToEnd(t *testing.T) {
	need := sizes([]entry{plain(0, 16), laid(16, "a", "row"), plain(3, 16)})
	for room := need; room < need+14; room++ {
		for _, kind := range []api.LetterKind{api.Commit, api.Abort} {
			m, w := fresh(t, 2, filling(t, room)...)
			m.follow(t, w, start(0), put(16, 1, "a"), ask(16, 1), deliver(4))
			end, decided := deliver(5), 2
			if kind == api.Abort {
				end, decided = stop(16), 0
			}
			run(t, w, fine(end, post(kind, 0, 1, 16)))
			number := w.Letters()[len(w.Letters())-1]
			known := 3 + int(kind-api.Commit)
			if room < need+10 {
				known = 2
				run(t, w, wrong(deliver(number), api.ErrFull), wrong(deliver(number), api.ErrNoLetter))
				ticks(t, w, 1, 5, post(api.Ask, 1, 0, 16))
				run(t, w, fine(deliver(number+1), post(kind, 0, 1, 16)), wrong(deliver(number+2), api.ErrFull), fine(power(1, 0, 0)))
			} else if do(w, deliver(number)).e != api.OK {
				t.Errorf("there is room for %d bytes, but it has not ended", room-need)
			}
			knows(t, w, 16, decided, 0, known)
			if _, put := rowsOf(t, w, 1)["a"]; put != (known == 3) {
				t.Errorf("room for %d: that there is a row is %t", room-need, put)
			}
		}
	}
}

// P15.1 (G1 to G3): many steps while the disk of a shard is full, or nearly so.
func TestFullHistories(t *testing.T) {
	r := rand.New(rand.NewPCG(3, 4))
	for i := range 24 {
		m, w := fresh(t, 2+i%2, filling(t, r.IntN(250))...)
		for range 300 {
			m.follow(t, w, m.anyStep(r, 60))
		}
		m.check(t, w)
	}
}

// full is a world of 16 nodes, in which the coordinator at node 0 has room for so few
// bytes on its disk that it can't be opened again. All that is on the disk is durable, and
// some transactions are still to be told.
func full(t *testing.T) (*model, *commit.World) {
	t.Helper()
	m, w := fresh(t, 16)
	log := &m.sites[0].decisions
	whole := func(node int, end bool) {
		tx, first := 16*m.sites[0].count, m.next
		m.follow(t, w, start(0), put(tx, node, "a"), ask(tx, node), deliver(first), deliver(first+1), deliver(first+2))
		if end {
			m.follow(t, w, deliver(first+3))
		}
	}
	for i := 0; 1<<20-log.used > 150; i++ {
		whole(1+i%15, true)
	}
	for _, node := range lastNodes(1<<20-log.used, 16*m.sites[0].count) {
		whole(node, false)
	}
	if room := 1<<20 - log.used; room >= 10 || log.safe < len(log.entries) {
		t.Fatalf("there is room for %d", room)
	}
	return m, w
}

// lastNodes are participants of the next transactions, one of each, so that the decisions
// leave room for less than the frame of an opening.
func lastNodes(room, tx int) []int {
	if room < 10 {
		return []int{}
	}
	for _, node := range []int{1, 8, 15} {
		if size := decided(tx, []int{node}).size; size <= room {
			if l := lastNodes(room-size, tx+16); l != nil {
				return append([]int{node}, l...)
			}
		}
	}
	return nil
}

// P15.1 (G2, G3): a coordinator without room: the last vote has not been heard, and its
// letter is gone; who is told last is forgotten all the same; and power can't go at its
// node, but at all others.
func TestNoRoomToDecide(t *testing.T) {
	m, w := full(t)
	done := m.numbers()
	tx, first := 16*m.sites[0].count, m.next
	m.follow(t, w, start(0), put(tx, 3, "b"), put(tx, 4, "b"), ask(tx, 3, 4), deliver(first), deliver(first+1), deliver(first+3))
	run(t, w, wrong(deliver(first+2), api.ErrFull), wrong(deliver(first+2), api.ErrNoLetter))
	m.do(deliver(first + 2))
	m.check(t, w)
	knows(t, w, tx, 1, 0, 0, 0, 2, 2)
	m.follow(t, w, start(1), put(1, 0, "c"), ask(1, 0), deliver(m.next), put(17, 0, "d"), tick(0), tick(0), tick(0), tick(0))
	for keep := -20; keep < 20; keep++ {
		run(t, w, wrong(power(0, keep, keep), api.ErrFull))
	}
	knows(t, w, 1, 1, 2)
	knows(t, w, 17, 0, 1)
	m.check(t, w)
	ticks(t, w, 0, 1, m.sends(tick(0))...)
	m.check(t, w)
	for _, number := range done {
		l, _ := w.Look(number)
		m.follow(t, w, deliver(number))
		knows(t, w, l.Tx, 0)
	}
	m.follow(t, w, power(3, 0, 0), power(4, 0, 0))
	run(t, w, wrong(power(0, 0, 0), api.ErrFull))
	m.follow(t, w, tick(0), tick(0), tick(0), tick(0), tick(0), tick(3), tick(3), tick(3), tick(3), tick(3))
	m.check(t, w)
	m.follow(t, w, stop(tx))
	m.follow(t, w, deliver(m.next-2), deliver(m.next-1))
	knows(t, w, tx, 0, 0, 0, 0, 4, 4)
	m.check(t, w)
}
