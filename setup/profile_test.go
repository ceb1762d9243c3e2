package setup

import (
	"errors"
	"strings"
	"testing"

	"courier/api"
	"courier/profile"
)

// P1701: the profile, which is all that stands behind the line structures.

// TestP1701Profile: it is told as it stands, byte for byte.
func TestP1701Profile(t *testing.T) {
	texts := append([]string{
		" ", "\r\n", "#", "# side a\n# x", "\n\n\n", "\t", "message ADT A01 = MSH end", "message ADT A01 = MSH end\n",
		"  message\n\nADT\tA01\r\n= MSH\n[ PID ]\nend\n\n", "table 0001 = start side structures app ;", "segment PID = end # \" x",
		strings.Repeat(" ", api.MaxProfile), strings.Repeat("\n", api.MaxProfile), strings.Repeat("# x\n", api.MaxProfile/4),
	}, someProfiles...)
	for _, text := range texts {
		want := exampleSetup()
		want.Profile = text
		says(t, example+text, want)
	}
	says(t, strings.TrimSuffix(example, "\n"), exampleSetup())
	want := exampleSetup()
	want.Profile = "\n"
	says(t, example+"\n", want)
}

// TestP1701ProfileRefused: the refusal stands under this layer's, at the line structures, with its Code.
func TestP1701ProfileRefused(t *testing.T) {
	for _, text := range []string{
		"x", "table", "table 0001 = A A ;", "segment PID = 3 CX R in 0001 ; end", "message A B = MSH { [ PID ] } end", "message A B = PID end", "message A B = MSH MSH end",
		"side a\n", "structures\n", "start 20260105000000\n", "\"", "\x00", "é", "# \xFF", "\n\n\ttable",
		strings.Repeat(" ", api.MaxProfile+1), strings.Repeat("table ", 6000),
	} {
		_, under := profile.Parse(text)
		var below *api.Fault
		if !errors.As(under, &below) {
			t.Fatalf("profile.Parse(%.100q): %v", text, under)
		}
		for _, extra := range []int{0, 1, 7} {
			s, err := Parse(strings.Repeat("#\n", extra) + example + text)
			f, ok := err.(*api.Fault)
			if !ok || f.Layer != "setup" || f.At != structures+extra || f.Code != below.Code || s != (api.Setup{}) {
				t.Errorf("behind structures %.100q: %+v, %v", text, s, err)
				continue
			}
			got, ok := f.Under.(*api.Fault)
			if !ok || *got != *below || got.Layer != "profile" || !errors.Is(err, below.Code) {
				t.Errorf("behind structures %.100q: under it %v, want %v", text, f.Under, below)
			}
		}
	}
}
