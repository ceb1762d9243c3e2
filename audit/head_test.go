package audit

import (
	"strconv"
	"strings"
	"testing"

	"courier/api"
)

// What an MSH says: every field that a side looks at, written in every way, beside the world.

// forms are ways to write a text in a field; in the last ones more stands there that is not empty.
func forms(text string) []string {
	return []string{
		text, text + "^^", text + "&&", text + "~~", "\\H\\" + text, text + "\\N\\", text + "\\X00\\", "", "\\H\\", "\"\"", " " + text,
		text + "^x", text + "&x", text + "~x", "^" + text, "&" + text, "~" + text, text + "^\\H\\", text + "&\\H\\", text + "~\\H\\", "^x", "x^" + text, "x&" + text, "x~" + text,
	}
}

// withField gives a message in which another text stands in a field of the MSH.
func withField(text string, field int, form string) string {
	head, rest, _ := strings.Cut(text, "\r")
	list := strings.Split(head, "|")
	for len(list) < field {
		list = append(list, "")
	}
	list[field-1] = form
	return strings.Join(list, "|") + "\r" + rest
}

func TestFieldsOfHeads(t *testing.T) {
	texts := map[int][]string{
		3: {"LAB", "L^I^ISO"}, 4: {"W"}, 5: {"HIS"}, 9: {"ADT^A01", "ADT^A08^ADT_A01", "ADT^A01^ADT_A01", "ADT^A08", "ADT", "ORU", "ADT^"}, 10: {"A1", "1234567890123456789"}, 11: {"P", "T"}, 12: {"2.5.1", "2.4"},
		13: {"", "1", "2", "01", "+1", "0", "-1", "x"}, 15: {"AL", "ER", "XX"}, 16: {"AL", "NE", "xx"},
	}
	for field, list := range texts {
		t.Run(strconv.Itoa(field), func(t *testing.T) {
			t.Parallel()
			for _, text := range list {
				for _, form := range forms(text) {
					writtenSo(t, field, form, false)
					writtenSo(t, field, form, true)
				}
			}
		})
	}
}

// writtenSo lets a message and an answer with that in a field go both ways, where nothing of it is right, and where something is not.
func writtenSo(t *testing.T, field int, form string, sequence bool) {
	t.Helper()
	s, conditions := roomy(plainSetup()), ""
	s.Profile += "message ADT A08 ADT_A01 = MSH { PID } end\n"
	if s.Sides[0].Sequence = sequence; sequence {
		conditions = "AL AL"
	}
	d := newDuo(t, s)
	one := withField(message("A1", "", conditions), field, form)
	d.does(submitting(0, one))
	d.does(syncing(0))
	d.lands(0, framed(one))
	d.lands(0, framed(strings.TrimSuffix(one, "\r")+"\rPID|\t\r"))
	d.lands(0, framed(one+"PID\r"))
	d.lands(0, framed(one))
	d.does(judging(1, "A1", "AE"))
	d.does(syncing(1))
	d.lands(1, framed(withField("MSH|^~\\&|HIS||LAB||2026||ACK|X1|P|2.5.1\rMSA|AA|A1\r", field, form)))
	d.does(syncing(0))
	d.agrees()
}

// lands lets a frame arrive, and what it makes be durable.
func (d *duo) lands(side int, p []byte) {
	d.t.Helper()
	d.does(putting(side, p))
	d.does(carrying(side, d.link.Len(side)-1, 0))
	d.does(syncing(1 - side))
}

// Messages under other marks are read and answered under theirs; what a side says by itself stands under its own.
func TestMarks(t *testing.T) {
	for _, marks := range []api.Marks{
		common, {Field: '!', Comp: '-', Rep: '~', Esc: '.', Sub: '&'}, {Field: '-', Comp: '.', Rep: '_', Esc: '\'', Sub: '"'}, {Field: '&', Comp: '\\', Rep: '^', Esc: '|', Sub: '~'},
	} {
		for _, sequence := range []bool{false, true} {
			s := roomy(plainSetup())
			s.Sides[0].Marks, s.Sides[0].Sequence = marks, sequence
			s.Sides[0].App, s.Sides[0].Facility = "L_A.B-1", "N-_."
			d := newDuo(t, s)
			d.does(probing(0, "P-.1"))
			d.does(resyncing(0, "R-.1", 7))
			if sequence {
				d.does(carrying(0, 0, 0))
				d.does(carrying(1, 0, 0))
			}
			text := message("A-.1", "", "AL AL", "PID|1||x^y&z~w")
			for _, other := range []api.Marks{marks, common} {
				turned := strings.NewReplacer("|", string(rune(other.Field)), "^", string(rune(other.Comp)), "~", string(rune(other.Rep)), "\\", string(rune(other.Esc)), "&", string(rune(other.Sub))).Replace(text)
				d.does(submitting(0, turned))
				d.does(syncing(0))
				for d.link.Len(0) > 0 {
					d.does(carrying(0, 0, 0))
				}
				d.does(syncing(1))
				d.does(judging(1, "A-.1", "AR", api.Finding{Code: 102, Seg: "PID", Occur: 1, Field: 3}))
				d.does(syncing(1))
				d.carryAll(1)
				d.does(syncing(0))
				d.agrees()
			}
		}
	}
}
