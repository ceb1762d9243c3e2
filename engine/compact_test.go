package engine

import (
	"encoding/binary"
	"hash/crc32"
	"strconv"
	"testing"

	"courier/api"
	"courier/disk"
)

// Words: ahead of each step; P1809.

// compactions counts them by the cuts of the disk: each cuts twice, as the beginning does.
func compactions(d *disk.Disk) int { return (d.Counts().Cuts - 2) / 2 }

// behind gives an engine with that many records behind its snapshot, none of which is durable.
func behind(t *testing.T, s api.Setup, n int) *rig {
	t.Helper()
	r := start(t, s, 1)
	for i := range n {
		r.arrive(framed(original("A" + strconv.Itoa(i))))
	}
	return r
}

func TestCompactionAhead(t *testing.T) {
	for _, limit := range []int{1, 2, 9} {
		s := pair()
		s.Sides[1].Compact = limit
		s.Sides[0].Compact = 200 // the other side's does not matter
		var told []string
		for i := range limit {
			told = append(told, "deliver A"+strconv.Itoa(i)+" 0 new "+original("A"+strconv.Itoa(i)))
		}
		for name, step := range map[string]func(r *rig, want ...string){
			"arrive":  func(r *rig, want ...string) { r.arrive(nil, want...) },
			"tick":    func(r *rig, want ...string) { r.tick(1, want...) },
			"submit":  func(r *rig, want ...string) { r.submit(original("B1"), want...) },
			"message": func(r *rig, want ...string) { r.arrive(framed(original("Z")), want...) },
		} {
			r := behind(t, s, limit-1)
			step(r)
			if compactions(r.d) != 0 {
				t.Errorf("%s: one less than %d: compacted", name, limit)
			}
			r = behind(t, s, limit)
			step(r, told...)
			x := r.e.Image()
			if compactions(r.d) != 1 || x.Safe != limit || len(x.Open) != limit {
				t.Errorf("%s: %d: %d compactions, image %+v", name, limit, compactions(r.d), x)
			}
			// The step's own record is the first behind the new snapshot.
			if r.e.Arrive(nil); limit > 1 && compactions(r.d) != 1 {
				t.Errorf("%s: %d: compacted again", name, limit)
			}
		}
	}
}

// A step may write several records, so that the log has more than the limit.
func TestCompactionBeyondTheLimit(t *testing.T) {
	s := pair()
	s.Sides[0].Compact = 3
	r := start(t, s, 0)
	r.submit(of("A1", "", "NE NE"))
	r.submit(of("A2", "", "NE NE"))
	if compactions(r.d) != 0 {
		t.Fatal("compacted")
	}
	r.tick(1, "out "+of("A1", "", "NE NE"), "answer A1 closed", "out "+of("A2", "", "NE NE"), "answer A2 closed")
	if compactions(r.d) != 1 {
		t.Error("not compacted")
	}
}

// Neither Sync nor Compact is preceded by a compaction, nor is a step that is refused.
func TestCompactionIsNotAhead(t *testing.T) {
	s := pair()
	s.Sides[1].Compact = 1
	s.Sides[1].Sequence = true
	for name, step := range map[string]func(e *Engine) ([]api.Seen, error){
		"submit":      submitting("nothing"),
		"submit form": submitting(message("B1", "7", "", "")),
		"verdict":     judging("A0", "AA", nil),
		"verdict arg": judging("A0", "AX", nil),
		"arrive":      arriving(make([]byte, longest+4)),
		"tick":        ticking(0),
		"probe":       probing(""),
		"resync":      resyncing("R1", 0),
	} {
		r := behind(t, s, 1)
		if seen, err := step(r.e); err == nil || len(seen) != 0 || compactions(r.d) != 0 || r.e.Image().Safe != 0 {
			t.Errorf("%s: %v, %v", name, seen, err)
		}
	}
	r := behind(t, s, 1)
	r.sync("deliver A0 0 new " + original("A0"))
	if compactions(r.d) != 0 {
		t.Error("compacted by Sync")
	}
	r = behind(t, s, 1)
	r.compact("deliver A0 0 new " + original("A0"))
	if compactions(r.d) != 1 {
		t.Error("compacted twice")
	}
	if x := r.e.Image(); x.Safe != 1 || x.Written != 1 {
		t.Errorf("image %+v", x)
	}
	// A restart counts the records that it finds, and does not compact.
	r = behind(t, s, 1)
	r.e.Sync()
	r.d.Crash([2]api.Tear{})
	r.reopen(0, "deliver A0 0 again "+original("A0"))
	if compactions(r.d) != 0 {
		t.Error("compacted by Open")
	}
	r.tick(1)
	if compactions(r.d) != 1 {
		t.Error("not compacted behind Open")
	}
}

// The steps ahead of which it is done, with sequencing: link messages and verdicts.
func TestCompactionAheadOfLinkMessages(t *testing.T) {
	s := pair()
	s.Sides[1].Compact = 1
	s.Sides[1].Sequence = true
	deliver := "deliver A0 0 new " + original("A0")
	behind(t, s, 1).probe("P1", deliver, "out MSH|^~\\&|HIS||LAB||20260105000000||QRY^Q01|P1|P|2.5.1|0\r")
	behind(t, s, 1).resync("P1", 3, deliver, "out MSH|^~\\&|HIS||LAB||20260105000000||QRY^Q01|P1|P|2.5.1|-1\r")
	r := behind(t, s, 1)
	r.e.Sync()
	r.arrive(nil)
	r.arrive(framed(original("A1")))
	// The verdict is on A0; A1's delivery leaves by the compaction ahead of it.
	r.verdict("A0", "AA", nil, "deliver A1 0 new "+original("A1"))
	r.sync("out " + reply("AA", "A0", ""))
	// What a compaction is about to let out has not left yet.
	r = behind(t, s, 1)
	r.refuses("a verdict ahead of its compaction", judging("A0", "AA", nil), api.ErrSide, 1)
}

// A message whose delivery the compaction lets out makes room among what is held.
func TestCompactionMakesRoom(t *testing.T) {
	s := roomy(pair())
	s.Sides[1].Compact = 2
	r := fill(t, s, 512)
	r.submit(original("B1"))
	r.counts(api.Counts{Again: 510, Unmade: 1})
	seen, err := r.e.Submit([]byte(original("B2")))
	if err != nil || len(seen) != 512 || len(r.e.Image().Held) != 1 || r.e.Image().Counts.Unmade != 1 {
		t.Errorf("%d seen, %v, %+v", len(seen), err, r.e.Image().Counts)
	}
}

// lastGeneration gives an engine's disk whose log is in the last generation that may be.
func lastGeneration(t *testing.T, d *disk.Disk) *disk.Disk {
	t.Helper()
	areas := d.Image()
	for area, b := range areas {
		if len(b) == 0 {
			continue
		}
		binary.BigEndian.PutUint64(b[4:], api.MaxGen)
		binary.BigEndian.PutUint32(b[12:], crc32.ChecksumIEEE(b[:12]))
		areas[area] = nil
		areas[api.MaxGen%2] = b
		break
	}
	d, err := disk.From(areas)
	if err != nil {
		t.Fatal(err)
	}
	return d
}

func TestCompactionIsSpent(t *testing.T) {
	s := pair()
	s.Sides[1].Compact = 1
	r := start(t, s, 1)
	r.arrive(framed(original("A0")))
	r.e.Sync()
	r.d = lastGeneration(t, r.d)
	r.reopen(0, "deliver A0 0 again "+original("A0"))
	r.refuses("compact", (*Engine).Compact, api.ErrSpent, 0)
	// The log goes on, beyond the limit.
	for i := range 5 {
		r.arrive(framed(original("C" + strconv.Itoa(i))))
	}
	if x := r.e.Image(); x.Written != 5 || x.Safe != 0 || len(x.Held) != 5 || compactions(r.d) >= 0 {
		t.Errorf("image %+v", x)
	}
	r.refuses("compact", (*Engine).Compact, api.ErrSpent, 0)
	if seen, err := r.e.Sync(); err != nil || len(seen) != 5 {
		t.Error(seen, err)
	}
}
