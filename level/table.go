package level

import (
	"glister/api"
	"glister/lists"
)

// The nodes are the stations, and the ground, which is at the height 0.
const (
	ground = api.MaxHillStations
	nodes  = ground + 1
)

// pair has two nodes.
type pair struct{ from, to int }

// table has for each pair of nodes the greatest number that the height of the second one, less that of the first one, can be.
type table [nodes][nodes]int

// limits has the greatest difference of pairs of nodes, as far as Known or a single line tells it.
func (s Survey) limits() map[pair]int {
	limits := map[pair]int{}
	limit := func(from, to, most int) {
		at := pair{from, to}
		if before, found := limits[at]; found {
			most = lists.Smallest(most, before)
		}
		limits[at] = most
	}
	for station, known := range s.Known {
		limit(ground, station, known.Hi)
		limit(station, ground, -known.Lo)
	}
	for _, l := range s.Lines {
		allowed := s.allowed(l)
		limit(l.From, l.To, allowed.Hi)
		limit(l.To, l.From, -allowed.Lo)
	}
	return limits
}

// table returns the greatest differences by all that is known. If it contradicts itself, some node is below itself.
func (s Survey) table() table {
	var t table
	limits := s.limits()
	for from := range nodes {
		for to := range nodes {
			most, found := limits[pair{from, to}]
			switch {
			case found:
				t[from][to] = most
			case from != to:
				// All heights are from 0 to this one, so that none differ by more.
				t[from][to] = api.MaxHillHeight
			}
		}
	}
	return t.complete()
}

// complete adds what is known by several pairs together, until no more is.
func (t table) complete() table {
	for t.agrees() {
		next := t.chained()
		if next == t {
			break
		}
		t = next
	}
	return t
}

// chained adds what is known by two pairs together.
func (t table) chained() table {
	next := t
	for from := range nodes {
		for to := range nodes {
			for between := range nodes {
				next[from][to] = lists.Smallest(next[from][to], t[from][between]+t[between][to])
			}
		}
	}
	return next
}

// agrees tells whether no node is below itself.
func (t table) agrees() bool {
	for node := range nodes {
		if t[node][node] < 0 {
			return false
		}
	}
	return true
}

// between returns the bounds of the height of the node to, less that of the node from.
func (t table) between(from, to int) Range { return Range{-t[to][from], t[from][to]} }
