package mix_test

import (
	"strconv"
	"testing"

	"assayer/api"
	"assayer/mix"
)

// wide is one of so many columns and rows, and rows of numbers of all kinds.
func wide(cols, log int, seed uint64) (api.Air, [][]uint64) {
	rows := make([][]uint64, 1<<log)
	for i := range rows {
		rows[i] = mixed(cols, seed+uint64(1000*i))
	}
	return made(strconv.Itoa(cols) + " " + strconv.Itoa(log)), rows
}

// holds holds lists against those that are asked.
func holds(t *testing.T, what string, got, want [][]uint64) {
	t.Helper()
	if !same(got, want) {
		t.Errorf("%s: %s, not %s", what, brief(got), brief(want))
	}
}

// P24.2: columns and their spread that another program worked out.
func TestColumnsWritten(t *testing.T) {
	for _, w := range writtens() {
		if w.rows == "" {
			continue
		}
		a := may(t, w.air)
		cols := mix.Columns(a, lines(w.rows))
		holds(t, w.air, cols, lines(w.cols))
		holds(t, w.air, mix.Spread(cols, a.Log+w.blow), lines(w.spread))
	}
}

// P24.2: Columns of one column and of several, of the fewest rows that may be and of more, of numbers as they are kept and not.
func TestColumns(t *testing.T) {
	for log := range 6 {
		for cols := 1; cols <= 8; cols++ {
			a, rows := wide(cols, log, uint64(10*log+cols))
			holds(t, "Columns", mix.Columns(a, rows), columnsBy(rows, cols))
		}
	}
	// Rules, steps and Bounds bear on nothing.
	a := may(t, "2 1 | c1 ; c0 c0 * | n0 | 0 0 ; 1 1")
	holds(t, "Columns", mix.Columns(a, lines("3 5 / 9 5")), lines("6 18446744069414584318 / 5 0"))
	holds(t, "Columns", mix.Columns(made("1 0"), lines("7")), lines("7"))
	holds(t, "Columns", mix.Columns(made("3 0"), lines("7 18446744069414584321 18446744073709551615")), lines("7 / 0 / 4294967294"))
	holds(t, "Columns", mix.Columns(made("1 1"), lines("18446744069414584321 / 18446744069414584321")), lines("0 0"))
}

// P24.2: as many rows and columns as there may be: each column's polynomial has as many coefficients as there are rows, and comes to the column's numbers at their points.
func TestColumnsMost(t *testing.T) {
	a, rows := wide(8, 10, 3)
	cols := mix.Columns(a, rows)
	if len(cols) != 8 {
		t.Fatalf("%d columns", len(cols))
	}
	for c, l := range cols {
		if len(l) != 1024 {
			t.Fatalf("column %d has %d coefficients", c, len(l))
		}
		for i := c; i < 1024; i += 61 {
			if got := comes(l, point(1, 10, i)); got != rows[i][c]%api.P {
				t.Errorf("column %d comes to %d at row %d, not to %d", c, got, i, rows[i][c]%api.P)
			}
		}
		for _, n := range l {
			if n >= api.P {
				t.Errorf("%d is not as it is kept", n)
			}
		}
	}
}

// P24.2: Spread to as many places as there are rows and to more, of one column and of several, of numbers as they are kept and not.
func TestSpread(t *testing.T) {
	for log := range 5 {
		for _, n := range []int{1, 2, 3, 8} {
			_, rows := wide(1<<log, 3, uint64(log+10*n))
			cols := rows[:n]
			for m := log; m <= log+4; m++ {
				holds(t, "Spread", mix.Spread(cols, m), spreadBy(cols, m))
			}
		}
	}
	// A column may have fewer coefficients than there are places, each one by itself; of none it is 0 all over.
	for m := range 5 {
		cols := [][]uint64{mixed(1<<m, 1), mixed(1, 2), nil, {}, mixed(1<<m/2, 3)}
		holds(t, "Spread", mix.Spread(cols, m), spreadBy(cols, m))
	}
	holds(t, "Spread", mix.Spread(lines("5"), 0), lines("5"))
	holds(t, "Spread", mix.Spread(lines("5 / 6"), 1), lines("5 6 / 5 6"))
	holds(t, "Spread", mix.Spread(lines("5 1"), 1), lines("12 / 18446744069414584319"))
	holds(t, "Spread", mix.Spread(lines("5 18446744069414584322"), 0), nil)
	holds(t, "Spread", mix.Spread([][]uint64{nil}, 1), lines("0 / 0"))
	if got := mix.Spread(nil, 2); len(got) != 4 || len(got[3]) != 0 {
		t.Errorf("Spread of no columns: %v", got)
	}
}

// P24.2: as many columns, rows and places as there may be.
func TestSpreadMost(t *testing.T) {
	_, cols := wide(1024, 3, 5)
	rows := mix.Spread(cols, 14)
	if len(rows) != 1<<14 {
		t.Fatalf("%d rows", len(rows))
	}
	for i := 0; i < len(rows); i += 911 {
		x := point(7, 14, i)
		for c, l := range cols {
			if len(rows[i]) != 8 || rows[i][c] != comes(l, x) {
				t.Fatalf("place %d: %d, column %d", i, rows[i], c)
			}
		}
	}
}

// P24.2 (what follows): rows spread to places, taken back there, are the columns' polynomials again, with zeros behind.
func TestSpreadBack(t *testing.T) {
	for log := range 5 {
		for m := log; m < log+3; m++ {
			a, rows := wide(3, log, uint64(log))
			cols := mix.Columns(a, rows)
			spread := mix.Spread(cols, m)
			for c, l := range cols {
				var values []api.Pair
				for _, row := range spread {
					values = append(values, api.Pair{A: row[c]})
				}
				for i, x := range backBy(values, 7) {
					want := api.Pair{}
					if i < len(l) {
						want.A = l[i]
					}
					if x != want {
						t.Fatalf("column %d of 2^%d rows at 2^%d places, coefficient %d: %v, not %v", c, log, m, i, x, want)
					}
				}
			}
		}
	}
}
