package disk

import (
	"errors"
	"math/rand"
	"testing"

	"courier/api"
)

// cell is a byte of the model, which keeps for each by itself whether it is safe.
type cell struct {
	value byte
	safe  bool
}

// model is the chapter's words as plainly as may be; left is how many writes more are done, -1 where all are.
type model struct {
	cells [2][]cell
	dead  bool
	left  int
	done  api.Writes
}

func (m *model) text(area int, safe bool) string {
	out := ""
	for _, c := range m.cells[area] {
		if c.safe || !safe {
			out += string([]byte{c.value})
		}
	}
	return out
}

// pays tells whether a write is done.
func (m *model) pays() api.Errno {
	if m.dead || m.left == 0 {
		m.dead = true
		return api.ErrDead
	}
	if m.left > 0 {
		m.left--
	}
	return api.OK
}

func (m *model) put(area int, p []byte) api.Errno {
	if area != 0 && area != 1 {
		return api.ErrRange
	}
	if e := m.pays(); e != api.OK {
		return e
	}
	m.done.Appends++
	for _, b := range p {
		m.cells[area] = append(m.cells[area], cell{value: b})
	}
	return api.OK
}

func (m *model) sync(area int) api.Errno {
	if area != 0 && area != 1 {
		return api.ErrRange
	}
	if e := m.pays(); e != api.OK {
		return e
	}
	m.done.Syncs++
	for i := range m.cells[area] {
		m.cells[area][i].safe = true
	}
	return api.OK
}

func (m *model) cut(area, n int) api.Errno {
	if area != 0 && area != 1 || n < 0 || n > len(m.cells[area]) {
		return api.ErrRange
	}
	if e := m.pays(); e != api.OK {
		return e
	}
	m.done.Cuts++
	m.cells[area] = append([]cell(nil), m.cells[area][:n]...)
	return api.OK
}

func (m *model) crash(tears [2]api.Tear) {
	for area := range m.cells {
		var left []cell
		for _, c := range m.text(area, true) + torn(m.text(area, false)[len(m.text(area, true)):], tears[area]) {
			left = append(left, cell{value: byte(c), safe: true})
		}
		m.cells[area] = left
	}
	m.dead, m.left = false, -1
}

func codeOf(err error) api.Errno {
	var f *api.Fault
	if errors.As(err, &f) {
		return f.Code
	}
	return api.OK
}

func held(t *testing.T, step int, d *Disk, m *model) {
	t.Helper()
	if d.Alive() == m.dead || d.Counts() != m.done {
		t.Fatalf("step %d: alive %v, counts %v, want %v, %v", step, d.Alive(), d.Counts(), !m.dead, m.done)
	}
	image := d.Image()
	for area := range 2 {
		all, safe := m.text(area, false), m.text(area, true)
		n, err := d.Len(area)
		s, err2 := d.Synced(area)
		if n != len(all) || s != len(safe) || err != nil || err2 != nil || string(image[area]) != safe {
			t.Fatalf("step %d: area %d: Len %d, Synced %d, Image %q, want %q of %q", step, area, n, s, image[area], safe, all)
		}
		p, err := d.Read(area, 0, n)
		if m.dead && codeOf(err) != api.ErrDead || !m.dead && string(p) != all {
			t.Fatalf("step %d: area %d: Read %q, %v, want %q", step, area, p, err, all)
		}
	}
}

// play does one call, drawn by chance, to both.
func play(r *rand.Rand, d *Disk, m *model) (error, api.Errno) {
	area := r.Intn(2)
	if r.Intn(20) == 0 {
		area = r.Intn(5) - 2
	}
	switch k := r.Intn(10); {
	case k < 4:
		p := make([]byte, r.Intn(6))
		for i := range p {
			p[i] = byte('a' + r.Intn(26))
		}
		return d.Append(area, p), m.put(area, p)
	case k < 6:
		return d.Sync(area), m.sync(area)
	case k < 8:
		n := r.Intn(30) - 1
		return d.Cut(area, n), m.cut(area, n)
	case k < 9:
		n := r.Intn(8) - 1
		d.Fuse(n)
		if !m.dead {
			m.left = n
		}
	default:
		tear := func() api.Tear { return api.Tear{Keep: r.Intn(9) - 2, Zeros: r.Intn(9) - 2} }
		tears := [2]api.Tear{tear(), tear()}
		d.Crash(tears)
		m.crash(tears)
	}
	return nil, api.OK
}

func TestAgainstModel(t *testing.T) {
	for seed := range int64(400) {
		r := rand.New(rand.NewSource(seed))
		d, m := New(), &model{left: -1}
		if seed%2 == 1 {
			var err error
			d, err = From([2][]byte{[]byte("from"), nil})
			done(t, err)
			m.cells[0] = []cell{{'f', true}, {'r', true}, {'o', true}, {'m', true}}
		}
		for step := range 200 {
			err, want := play(r, d, m)
			if codeOf(err) != want {
				t.Fatalf("seed %d, step %d: %v, want %v", seed, step, err, want)
			}
			held(t, step, d, m)
		}
	}
}

// TestSyncedStays: P209 alone, without the model: what was synced last stands at the area's beginning as long as no Cut took of it.
func TestSyncedStays(t *testing.T) {
	for seed := range int64(200) {
		r := rand.New(rand.NewSource(seed))
		d := New()
		var safe [2]string
		for range 100 {
			area := r.Intn(2)
			switch r.Intn(6) {
			case 0, 1:
				d.Append(area, []byte("abcdef")[:r.Intn(7)])
			case 2:
				if d.Sync(area) == nil {
					safe[area] = string(d.Image()[area])
				}
			case 3:
				n, _ := d.Len(area)
				n -= r.Intn(n + 1)
				if d.Cut(area, n) == nil {
					safe[area] = safe[area][:min(n, len(safe[area]))]
				}
			case 4:
				d.Fuse(r.Intn(5) - 1)
			default:
				d.Crash([2]api.Tear{{Keep: r.Intn(4), Zeros: r.Intn(4)}, {Keep: r.Intn(4), Zeros: r.Intn(4)}})
			}
			image := d.Image()
			for i := range safe {
				if len(image[i]) < len(safe[i]) || string(image[i][:len(safe[i])]) != safe[i] {
					t.Fatalf("P209: seed %d: area %d begins with %q, synced was %q", seed, i, image[i], safe[i])
				}
			}
		}
	}
}
