package path

import (
	"fmt"
	"math"
	"strings"
	"testing"

	"courier/api"
)

// P701, P702 and P708: texts of places.

// against holds Parse against the model, and Print of what it reads.
func against(t *testing.T, text string) {
	t.Helper()
	want, place := modelParse(text)
	got, err := Parse(text)
	if place >= 0 {
		refused(t, fmt.Sprintf("P701: Parse(%q)", text), err, place, api.ErrForm, nil)
		if got != (api.Place{}) {
			t.Fatalf("P701: Parse(%q) refuses and answers %v", text, got)
		}
		return
	}
	if err != nil || got != want {
		t.Fatalf("P701: Parse(%q): %v, %v, want %v", text, got, err, want)
	}
	printed(t, got)
}

// printed holds Print against the model, and Parse of what it writes.
func printed(t *testing.T, p api.Place) {
	t.Helper()
	text, err := Print(p)
	if !modelRight(p) {
		refused(t, fmt.Sprintf("P702: Print(%v)", p), err, 0, api.ErrPlace, nil)
		if text != "" {
			t.Fatalf("P702: Print(%v) refuses and answers %q", p, text)
		}
		return
	}
	if err != nil || text != modelPrint(p) {
		t.Fatalf("P702: Print(%v): %q, %v, want %q", p, text, err, modelPrint(p))
	}
	if again, err := Parse(text); err != nil || again != p {
		t.Fatalf("P708: Parse(%q): %v, %v, want %v", text, again, err, p)
	}
}

func TestP701Places(t *testing.T) {
	for text, want := range map[string]api.Place{
		"PID-3":              at("PID", 1, 3),
		"PID[1]-3[1].1.1":    at("PID", 1, 3),
		"PID[2]-3":           at("PID", 2, 3),
		"OBX[2]-5[3].1.2":    at("OBX", 2, 5, 3, 1, 2),
		"OBX-5.4":            at("OBX", 1, 5, 1, 4),
		"OBX-5.4.2":          at("OBX", 1, 5, 1, 4, 2),
		"Z99-64[32].32.16":   at("Z99", 1, 64, 32, 32, 16),
		"ZZZ[128]-10[10].10": at("ZZZ", 128, 10, 10, 10),
		"MSH-1":              at("MSH", 1, 1),
		"MSH[1]-2[1].1.1":    at("MSH", 1, 2),
		"MSH-66[32].32.16":   at("MSH", 1, 66, 32, 32, 16),
		"A00-9":              at("A00", 1, 9),
		"FHS[2]-1[2]":        at("FHS", 2, 1, 2),
	} {
		if p, err := Parse(text); p != want || err != nil {
			t.Errorf("P701: Parse(%q): %v, %v", text, p, err)
		}
		against(t, text)
	}
}

func TestP701Faults(t *testing.T) {
	for text, place := range map[string]int{
		"": 0, "P": 1, "PI": 2, "PID": 3, "PID-": 4, "PID[": 4, "PID[1": 5, "PID[1]": 6, "PID[1]-": 7,
		"PID-3[": 6, "PID-3[1": 7, "PID-3.": 6, "PID-3[2].": 9, "PID-3.1.": 8,
		"pid-3": 0, "1ID-3": 0, "PiD-3": 1, "P-3": 1, "PIDX-3": 3, "PID3": 3, " PID-3": 0, "PID-3 ": 5,
		"PID-03": 4, "PID-0": 4, "PID[0]-3": 4, "PID[01]-3": 4, "PID-3[0]": 6, "PID-3.0": 6, "PID-3.1.0": 8, "PID-3.01": 6,
		"PID-65": 4, "PID-65x": 4, "PID-65[0": 4, "PID-650": 4, "PID[129]-3": 4, "PID[129": 4, "PID[129x": 4,
		"PID-3[33]": 6, "PID-3[33": 6, "PID-3.33": 6, "PID-3.33.0": 6, "PID-3.1.17": 8,
		"PID-3x": 5, "PID-3-": 5, "PID-3]": 5, "PID-3[2][2]": 8, "PID-3[2]3": 8, "PID-3[-1]": 6, "PID-3[+1]": 6, "PID--3": 4,
		"PID-3.1.1.": 9, "PID-3.1.1.1": 9, "PID-3.1[2]": 7, "PID[]-3": 4, "PID-3[]": 6, "PID-3..1": 6, "PID.3": 3, "PID[2].3": 6, "PID[1][1]-3": 6,
		"MSH[2]-3": 4, "MSH[0]-3": 4, "MSH[129]-3": 4, "MSH-67": 4, "MSH-0": 4,
		"MSH-1[2]": 6, "MSH-1.2": 6, "MSH-1.1.2": 8, "MSH-2[2]": 6, "MSH-2[1].2": 9, "MSH-2.1.2": 8, "MSH-1[1]x": 8,
	} {
		_, err := Parse(text)
		refused(t, fmt.Sprintf("P701: Parse(%q)", text), err, place, api.ErrForm, nil)
		against(t, text)
	}
}

// wholes are texts that have all parts, or few of them.
var wholes = []string{"OBX[12]-54[13].21.12", "PID-3", "MSH[1]-2[1].1.1", "MSH-66[32].32.16", "Z0Z[128]-64[32].32.16", "A1B-10.10", "PID[9]-9[9]", "MSH-10.1"}

func TestP701CutOff(t *testing.T) {
	for _, text := range wholes {
		for i := range len(text) + 1 {
			against(t, text[:i])
			against(t, text[i:])
			for j := i; j <= len(text); j++ {
				against(t, text[:i]+text[j:])
			}
		}
	}
}

func TestP701EveryByte(t *testing.T) {
	for _, text := range wholes {
		for i := range len(text) + 1 {
			for b := range 256 {
				one := string([]byte{byte(b)})
				against(t, text[:i]+one+text[i:])
				if i < len(text) {
					against(t, text[:i]+one+text[i+1:])
				}
			}
		}
	}
}

// TestP701Short: all texts of a few bytes behind a name.
func TestP701Short(t *testing.T) {
	for _, name := range []string{"PID", "MSH"} {
		level := []string{name}
		for range 5 {
			var next []string
			for _, text := range level {
				for _, b := range []string{"0", "1", "7", "-", "[", "]", ".", "x"} {
					next = append(next, text+b)
					against(t, text+b)
				}
			}
			level = next
		}
	}
}

func TestP701Numbers(t *testing.T) {
	forms := []struct {
		text string
		most int
	}{
		{"PID[#]-3", 128}, {"PID-#", 64}, {"PID-3[#]", 32}, {"PID-3.#", 32}, {"PID-3.1.#", 16}, {"PID[2]-3[2].#.2", 32},
		{"MSH[#]-3", 1}, {"MSH-#", 66}, {"MSH-3[#]", 32}, {"MSH-3.#", 32}, {"MSH-3.1.#", 16},
		{"MSH-1[#]", 1}, {"MSH-1.#", 1}, {"MSH-1.1.#", 1}, {"MSH-2[#]", 1}, {"MSH-2.#", 1}, {"MSH-2.1.#", 1},
		{"FHS-#", 64}, {"BHS[#]-1", 128}, {"MSA-#", 64}, {"FHS-1.#", 32}, {"FHS-2[#]", 32},
	}
	for _, f := range forms {
		place := strings.Index(f.text, "#")
		for n := range 300 {
			text := strings.Replace(f.text, "#", fmt.Sprint(n), 1)
			_, err := Parse(text)
			if (err == nil) != (1 <= n && n <= f.most) {
				t.Errorf("P701: Parse(%q): %v", text, err)
			}
			against(t, text)
			for _, zeros := range []string{"0", "00", "000"} {
				_, err := Parse(strings.Replace(f.text, "#", zeros+fmt.Sprint(n), 1))
				refused(t, "P701: a 0 ahead: "+text, err, place, api.ErrForm, nil)
			}
		}
		long := []string{"1000", "1001", "2147483648", "4294967297", "18446744073709551617", "9223372036854775807", "9223372036854775808", "1" + strings.Repeat("0", 64), strings.Repeat("1", 99999), "1" + strings.Repeat("0", 255) + "1"}
		for _, n := range long {
			for _, behind := range []string{"", "x", "[", ".", "]"} {
				text := f.text[:place] + n + behind
				_, err := Parse(text)
				refused(t, fmt.Sprintf("P701: %.40q", text), err, place, api.ErrForm, nil)
			}
		}
	}
}

func TestP702EveryNumber(t *testing.T) {
	for _, seg := range []string{"PID", "MSH", "FHS", "Z09", "A00", "ZZZ"} {
		for _, base := range []api.Place{at(seg), at(seg, 1, 3), at(seg, 1, 2), at(seg, 1, 4, 2, 2, 2), at(seg, 2, 3, 1, 1, 2), at(seg, 1, 5, 1, 2, 1), at(seg, 1, 66), at(seg, 1, 65)} {
			for n := -2; n < 200; n++ {
				for i := range 5 {
					p := base
					*[]*int{&p.Occur, &p.Field, &p.Rep, &p.Comp, &p.Sub}[i] = n
					printed(t, p)
				}
			}
		}
	}
	for i, n := range []int{math.MinInt, math.MaxInt, -1 << 31, 1 << 32, 1<<32 + 1, 257, 65537} {
		for j := range 5 {
			p := at("PID")
			*[]*int{&p.Occur, &p.Field, &p.Rep, &p.Comp, &p.Sub}[j] = n
			_, err := Print(p)
			refused(t, fmt.Sprintf("P702: %d %v", i, p), err, 0, api.ErrPlace, nil)
		}
	}
	_, err := Print(api.Place{})
	refused(t, "P702: no place", err, 0, api.ErrPlace, nil)
}

// TestP702Grid: numbers with each other.
func TestP702Grid(t *testing.T) {
	for _, seg := range []string{"OBX", "MSH"} {
		for _, o := range []int{0, 1, 2, 10, 128, 129} {
			for _, f := range []int{0, 1, 2, 3, 11, 64, 65, 66, 67} {
				for _, r := range []int{0, 1, 2, 10, 11, 32, 33} {
					for _, c := range []int{0, 1, 2, 10, 11, 32, 33} {
						for _, u := range []int{0, 1, 2, 10, 11, 16, 17} {
							printed(t, at(seg, o, f, r, c, u))
						}
					}
				}
			}
		}
	}
}

func TestP702Names(t *testing.T) {
	for _, seg := range []string{"", "P", "PI", "PIDX", "pid", "1ID", "P1D", "PI1", "P-D", "PI ", " ID", "MSH ", "msh", "\x00ID", "PI\xff", "PID-3", "Aa0", "A0z", "[ID", "P[D", "PI@", "PI/", "PI:"} {
		printed(t, at(seg, 1, 3))
	}
	for i := range 3 {
		for b := range 256 {
			name := []byte("PID")
			name[i] = byte(b)
			printed(t, at(string(name), 1, 3))
		}
	}
}

func TestP708OneForm(t *testing.T) {
	for _, texts := range [][]string{
		{"PID-3", "PID[1]-3", "PID-3[1]", "PID-3.1", "PID-3.1.1", "PID[1]-3[1].1.1"},
		{"PID-3.1.2", "PID[1]-3.1.2", "PID-3[1].1.2"},
		{"PID-3.2", "PID-3.2.1", "PID[1]-3[1].2.1"},
		{"PID[2]-3[4]", "PID[2]-3[4].1", "PID[2]-3[4].1.1"},
		{"PID[11]-11[11].11.11"},
		{"MSH-1", "MSH[1]-1[1].1.1", "MSH-1.1"},
	} {
		for _, text := range texts {
			p, err := Parse(text)
			one, err2 := Print(p)
			if err != nil || err2 != nil || one != texts[0] {
				t.Errorf("P708: %q: %q, %v, %v, want %q", text, one, err, err2, texts[0])
			}
		}
	}
}
