package cover

import (
	"cmp"
	"slices"

	"usufruct/api"
)

// turn is where the search for a value that fits no row may go on in several ways.
type turn struct {
	picks []ask   // what stands where rows do not ask for all that may be: what none of them asks for
	rows  [][]int // those that do not ask there
	tries []ask   // what may stand at a place where they ask for all that may be; the first one is being tried
}

// covered says whether what fits the row n fits one ahead of it.
func (m *grid) covered(n int) bool {
	var l []ask
	for _, a := range m.rows[n] {
		l = append(l, m.asks[a])
	}
	_, ok := m.open(become(m.rows[:n], m.where(l)))
	return !ok
}

// open is what stands at places of a value that fits none of rows, if there is one. The ways that are gone are a list, as patterns may be deeper than calls go.
func (m *grid) open(rows [][]int) ([]ask, bool) {
	way := []turn{m.turn(rows)}
	for len(way) > 0 {
		last := len(way) - 1
		t := &way[last]
		switch {
		case len(t.rows) == 0:
			return picked(way), true
		case len(t.tries) > 0:
			way = append(way, m.turn(become(t.rows, m.where(t.tries[:1]))))
		default:
			way = way[:last]
			if last > 0 {
				way[last-1].tries = way[last-1].tries[1:]
			}
		}
	}
	return nil, false
}

func picked(way []turn) []ask {
	var l []ask
	for _, t := range way {
		l = append(l, t.picks...)
		if len(t.tries) > 0 {
			l = append(l, t.tries[0])
		}
	}
	return l
}

// turn tells how to go on with rows: not at all, if one of them asks nothing any more.
func (m *grid) turn(rows [][]int) turn {
	t := turn{rows: rows}
	for {
		if len(t.rows) == 0 {
			return t
		}
		// The row that asks the least: it is the soonest that each value fits, or none.
		row := slices.MinFunc(t.rows, func(a, b []int) int { return cmp.Compare(len(a), len(b)) })
		if len(row) == 0 {
			return t
		}
		l := m.missing(t.rows)
		if len(l) == 0 {
			t.tries = m.all(m.asks[row[0]].at)
			return t
		}
		t.picks = append(t.picks, l...)
		t.rows = become(t.rows, m.where(l))
	}
}

// become is what becomes of rows, as f tells it; a row of which f tells false is gone.
func become(rows [][]int, f func(row []int) ([]int, bool)) [][]int {
	var l [][]int
	for _, row := range rows {
		if row, ok := f(row); ok {
			l = append(l, row)
		}
	}
	return l
}

// where tells what a row asks besides where what stands at places is known (l, by places); a row that asks for something else there is gone.
func (m *grid) where(l []ask) func(row []int) ([]int, bool) {
	return func(row []int) ([]int, bool) {
		var rest []int
		i, k := 0, 0
		for i < len(l) && k < len(row) {
			a := m.asks[row[k]]
			switch {
			case l[i].at < a.at:
				i++
			case l[i].at > a.at:
				rest = append(rest, row[k])
				k++
			case l[i].what != a.what:
				return nil, false
			default:
				i, k = i+1, k+1
			}
		}
		if len(rest) == 0 {
			return row[k:], true
		}
		return append(rest, row[k:]...), true
	}
}

// missing is what may stand at places where rows ask, but none of them asks for; by places. Of a number and of a text it is the zero head.
func (m *grid) missing(rows [][]int) []ask {
	m.round++
	var places []int
	for _, row := range rows {
		for _, n := range row {
			m.seen[n] = m.round
			if p := &m.places[m.asks[n].at]; p.round != m.round {
				p.round = m.round
				places = append(places, m.asks[n].at)
			}
		}
	}
	slices.Sort(places)
	var l []ask
	for _, at := range places {
		if a, ok := m.unseen(at); ok {
			l = append(l, a)
		}
	}
	return l
}

// unseen is what may stand at a place, but was not seen there in this round, if there is such a thing.
func (m *grid) unseen(at int) (ask, bool) {
	if m.places[at].kind != api.PtCon {
		return ask{at: at}, true
	}
	for _, a := range m.all(at) {
		if n, ok := m.nth[a]; !ok || m.seen[n] != m.round {
			return a, true
		}
	}
	return ask{}, false
}

// all is each constructor that may stand at a place.
func (m *grid) all(at int) []ask {
	var l []ask
	for _, c := range m.sig.Datas[m.places[at].data].Cons {
		l = append(l, ask{at, head{kind: api.PtCon, n: int64(c), kids: len(m.sig.Cons[c].Fields)}})
	}
	return l
}
