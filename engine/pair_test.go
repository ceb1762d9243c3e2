package engine

import (
	"fmt"
	"math/rand/v2"
	"slices"
	"strings"
	"testing"

	"courier/api"
	"courier/disk"
)

// W3 to W5, as far as two engines carry them out: runs over a link that loses, doubles and turns round, with crashes, and then a calm.

type ends struct {
	t       *testing.T
	c       *rand.Rand
	setup   api.Setup
	disks   [2]*disk.Disk
	engines [2]*Engine
	clock   int
	flight  [2][][]byte
	given   [2][]api.Seen // deliveries
	settled [2]map[string][]api.Seen
	judged  [2]map[string]string
	sent    int
}

func (p *ends) saw(side int, seen []api.Seen, err error) {
	if err != nil {
		p.t.Fatal(err)
	}
	for _, s := range seen {
		switch s.Kind {
		case api.SeenOut:
			p.flight[side] = append(p.flight[side], s.Text)
		case api.SeenDeliver:
			p.given[side] = append(p.given[side], s)
		case api.SeenAnswer:
			p.settled[side][s.Control] = append(p.settled[side][s.Control], s)
		}
	}
}

func (p *ends) carry(side, index int) {
	piece := p.flight[side][index]
	p.flight[side] = slices.Delete(slices.Clone(p.flight[side]), index, index+1)
	seen, err := p.engines[1-side].Arrive(piece)
	p.saw(1-side, seen, err)
}

func (p *ends) judge(side int) {
	for _, id := range p.engines[side].Image().Open {
		code := []string{"AA", "AA", "AE", "AR"}[p.c.IntN(4)]
		p.judged[side][id] = code
		seen, err := p.engines[side].Verdict(id, code, nil)
		p.saw(side, seen, err)
	}
}

func (p *ends) tick(n int) {
	p.clock += n
	for side, e := range p.engines {
		seen, err := e.Tick(n)
		p.saw(side, seen, err)
	}
}

func (p *ends) sync(side int) {
	seen, err := p.engines[side].Sync()
	p.saw(side, seen, err)
}

func (p *ends) crash(side int) {
	tear := api.Tear{Keep: p.c.IntN(200), Zeros: p.c.IntN(50)}
	p.disks[side].Crash([2]api.Tear{tear, tear})
	e, seen, err := Open(p.setup, side, p.disks[side], p.clock)
	p.engines[side] = e
	p.saw(side, seen, err)
}

// storm is one event of many.
func (p *ends) storm() {
	side := p.c.IntN(2)
	pieces := len(p.flight[side])
	switch n := p.c.IntN(16); {
	case n < 3 && len(p.engines[side].Image().Sent) < 20:
		p.sent++
		conditions := []string{"", "AL AL", "AL NE"}[p.c.IntN(3)]
		seen, err := p.engines[side].Submit([]byte(of(fmt.Sprintf("M%d.%d", side, p.sent), "", conditions)))
		p.saw(side, seen, err)
	case n < 8 && pieces > 0:
		p.carry(side, p.c.IntN(pieces))
	case n == 8 && pieces > 0:
		p.flight[side] = p.flight[side][1:]
	case n == 9 && pieces > 0:
		p.flight[side] = append(p.flight[side], p.flight[side][0])
	case n < 12:
		p.sync(side)
	case n == 12:
		p.judge(side)
	case n == 13:
		p.tick(1 + p.c.IntN(4))
	case n == 14 && p.c.IntN(3) == 0:
		p.crash(side)
	}
}

// calm answers all at once, tick by tick.
func (p *ends) calm() {
	for range 12 {
		for side := range 2 {
			p.sync(side)
			for len(p.flight[side]) > 0 {
				p.carry(side, 0)
			}
			p.judge(side)
			p.sync(side)
		}
	}
	p.tick(1)
}

func (p *ends) outstanding() int {
	return len(p.engines[0].Image().Sent) + len(p.engines[1].Image().Sent)
}

func TestPairs(t *testing.T) {
	for seed := range 60 {
		c := rand.New(rand.NewPCG(uint64(seed), 18))
		s := pair()
		for i := range s.Sides {
			x := &s.Sides[i]
			x.Sequence, x.Every, x.Tries, x.Keep, x.Compact = seed&(1<<i) != 0, 6, 3, 64, 1+c.IntN(20)
		}
		p := &ends{t: t, c: c, setup: s}
		for side := range 2 {
			p.disks[side], p.settled[side], p.judged[side] = disk.New(), map[string][]api.Seen{}, map[string]string{}
			e, seen, err := New(s, side, p.disks[side], 0)
			p.engines[side] = e
			p.saw(side, seen, err)
		}
		for range 300 {
			p.storm()
		}
		// W5: (Tries + 2) times Every ticks, one behind the other.
		for range max(p.outstanding(), 1) * 5 * 6 {
			if p.outstanding() == 0 {
				break
			}
			p.calm()
		}
		if n := p.outstanding(); n > 0 {
			t.Fatalf("seed %d: %d are outstanding", seed, n)
		}
		p.calm()
		p.settledOnce(seed)
		p.consecutive(seed)
	}
}

// settledOnce: W3.
func (p *ends) settledOnce(seed int) {
	for side := range 2 {
		for id, list := range p.settled[side] {
			if len(list) != 1 {
				p.t.Errorf("seed %d: %s is settled %d times", seed, id, len(list))
			}
			if code := list[0].Code; strings.HasPrefix(code, "A") && list[0].Errors == nil && p.judged[1-side][id] != code {
				p.t.Errorf("seed %d: %s is told %s, the verdict was %q", seed, id, code, p.judged[1-side][id])
			}
		}
	}
}

// consecutive: W4, without a Resync.
func (p *ends) consecutive(seed int) {
	for side := range 2 {
		first := map[int]string{}
		for _, s := range p.given[side] {
			if s.Number == 0 {
				continue
			}
			if id, was := first[s.Number]; was && id != s.Control {
				p.t.Errorf("seed %d: number %d is that of %s and %s", seed, s.Number, id, s.Control)
			} else if !was && s.Number != len(first)+1 {
				p.t.Errorf("seed %d: number %d comes behind %d others", seed, s.Number, len(first))
			}
			first[s.Number] = s.Control
		}
		if p.setup.Sides[1-side].Sequence != (len(first) > 0) && len(p.given[side]) > 0 {
			p.t.Errorf("seed %d: numbers %v", seed, first)
		}
	}
}
