package tests

import (
	"slices"
	"testing"
)

func copied[T any](rows [][]T) [][]T {
	list := slices.Clone(rows)
	for i := range list {
		list[i] = slices.Clone(list[i])
	}
	return list
}

func sameRows[T comparable](a [][]T, b [][]T) bool {
	return slices.EqualFunc(a, b, func(x, y []T) bool { return slices.Equal(x, y) })
}

// scribbled writes over a list and the room behind it.
func scribbled[T any](list []T, with T) {
	list = list[:cap(list)]
	for i := range list {
		list[i] = with
	}
}

// A roomy table has rows behind its rows, and numbers behind those of each row. Before and cuts are what the room and
// the list of rows were at first.
type roomy[T comparable] struct {
	rows, cuts   [][]T
	room, before [][]T
}

// roomyRows has what is behind (four numbers or more) behind each row, and in the rows behind the rows.
func roomyRows[T comparable](rows [][]T, behind []T) roomy[T] {
	var r roomy[T]
	for _, row := range append(slices.Clone(rows), behind[:3], behind[3:], behind, nil) {
		room := append(slices.Clone(row), behind...)
		r.room = append(r.room, room)
		r.cuts = append(r.cuts, room[:len(row)])
	}
	r.before = copied(r.room)
	r.rows = slices.Clone(r.cuts)[:len(rows)]
	return r
}

func (r roomy[T]) stayed() bool {
	same := sameRows(r.room, r.before)
	for i, row := range r.rows[:len(r.cuts)] {
		same = same && len(row) == len(r.cuts[i]) && &row[:1][0] == &r.room[i][0]
	}
	return same
}

// apart writes over each row, and the room behind it, with a mark of its own: where two share memory, one of them
// loses its mark. The rows are spent then.
func apart[T comparable](t *testing.T, name string, mark func(int) T, rows ...[]T) {
	t.Helper()
	for i, row := range rows {
		scribbled(row, mark(i))
	}
	for i, row := range rows {
		for _, x := range row[:cap(row)] {
			if x != mark(i) {
				t.Fatal(name, "shares memory", i, x)
			}
		}
	}
}

// ownList fails where a list of rows that was answered stands in the memory of one that was handed in. It is spent then.
func ownList[T comparable](t *testing.T, name string, mark T, answer [][]T, arguments ...[][]T) {
	t.Helper()
	scribbled(answer, []T{mark})
	for _, rows := range arguments {
		for _, row := range rows[:cap(rows)] {
			if len(row) == 1 && row[0] == mark {
				t.Fatal(name, "answers in its argument's list")
			}
		}
	}
}

// newMemory asks twice, and fails where any two rows or lists of both answers and the arguments share memory. The
// arguments are spent then.
func newMemory[T comparable](t *testing.T, name string, mark func(int) T, answer func() [][]T, arguments ...[][]T) {
	t.Helper()
	one, two := answer(), answer()
	apart(t, name, mark, slices.Concat(append(arguments, one, two)...)...)
	ownList(t, name, mark(-1), one, append(arguments, two)...)
	ownList(t, name, mark(-1), two, arguments...)
}

// alikeAgain asks each of n questions, and then all of them once more the other way round.
func alikeAgain(t *testing.T, n int, tell func(int) []any) {
	t.Helper()
	var told [][]any
	for i := range n {
		told = append(told, tell(i))
	}
	for i, before := range slices.Backward(told) {
		if again := tell(i); !slices.Equal(again, before) {
			t.Fatalf("%d: %v, not %v", i, again, before)
		}
	}
}
