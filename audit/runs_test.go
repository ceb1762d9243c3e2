package audit

import (
	"errors"
	"fmt"
	"math/rand/v2"
	"strconv"
	"testing"

	"courier/api"
)

// P2106, P2107: runs of two engines on two disks.

func story(s api.Setup, events []api.Event, seen [][]api.Seen) string {
	text := fmt.Sprintf("%+v\n", s)
	for i, e := range events {
		text += fmt.Sprintf("%d: %+v %q\n%s", i+1, e, e.Text, shown(seen[i+1]))
	}
	return text
}

// Each run is the pair's, with crashes, fuses, noise and cut pieces among its events.
func TestRuns(t *testing.T) {
	for seed := range seeds(400) {
		t.Run(strconv.Itoa(seed), func(t *testing.T) {
			t.Parallel()
			s, events, seen := run(t, uint64(seed), 150)
			at, err := Judge(s, events, seen)
			if err != nil && !errors.Is(err, api.ErrWays) || (at == 0) != (err == nil) {
				t.Fatalf("%d, %v\n%s", at, err, story(s, events[:at], seen))
			}
		})
	}
}

// Where nothing crashes and no fuse is set May tells just one list, and the Pair is in one state.
func TestCalmRuns(t *testing.T) {
	for seed := range seeds(120) {
		t.Run(strconv.Itoa(seed), func(t *testing.T) {
			t.Parallel()
			c := rand.New(rand.NewPCG(2106, uint64(seed)))
			d := newDuo(t, anySetup(c))
			next := chance{c, d.world, 0}
			d.agrees()
			for range 150 {
				d.does(next.event())
				d.agrees()
			}
		})
	}
}
