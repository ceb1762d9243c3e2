package audit

import "courier/api"

// spot is a state by the places of its parts on their shelves.
type spot struct {
	flight int
	sides  [2]int
}

// states are those in which a Pair is. What several of them share stands there once.
type states struct {
	sides   []*endpoint
	flights []*flight
	spots   []spot
}

// beginning is the state behind what both engines are made with.
func beginning(s api.Setup) states {
	nothing := &flight{half: [2]int{-1, -1}}
	return states{
		sides:   []*endpoint{newEndpoint(s, 0), newEndpoint(s, 1)},
		flights: []*flight{nothing},
		spots:   []spot{{sides: [2]int{0, 1}}},
	}
}

// only gives some of the states, without what none of these has.
func (x states) only(spots []spot) states {
	var left states
	sides, flights := make([]int, len(x.sides)), make([]int, len(x.flights))
	for _, at := range spots {
		at.flight = moved(x.flights, &left.flights, flights, at.flight)
		for i, n := range at.sides {
			at.sides[i] = moved(x.sides, &left.sides, sides, n)
		}
		left.spots = append(left.spots, at)
	}
	return left
}

// moved gives a thing's place among those that are left, where it goes when it is asked for first. Of each thing places has that place and one; 0: it is not there yet.
func moved[T any](from []T, left *[]T, places []int, at int) int {
	if places[at] == 0 {
		*left = append(*left, from[at])
		places[at] = len(*left)
	}
	return places[at] - 1
}
