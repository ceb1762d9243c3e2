package profile

import (
	"fmt"
	"math/rand"
	"slices"
	"strings"
	"testing"

	"courier/api"
	"courier/esc"
	"courier/tree"
	"courier/types"
)

// P905 and P906: the findings of a message.

var common = api.Marks{Field: '|', Comp: '^', Rep: '~', Esc: '\\', Sub: '&'}

const commonHead = "MSH|^~\\&"

// messageOf is the message of a text; an MSH of the common marks stands ahead of it, if it doesn't begin with one.
func messageOf(t *testing.T, text string) api.Message {
	t.Helper()
	if !strings.HasPrefix(text, "MSH") {
		text = commonHead + "\r" + text
	}
	m, err := tree.Parse([]byte(text))
	if err != nil {
		t.Fatalf("the test's message %q: %v", text, err)
	}
	return m
}

// finding reads a finding: its code, name and numbers, as many as are told.
func finding(text string) api.Finding {
	var f api.Finding
	fmt.Sscan(text, &f.Code, &f.Seg, &f.Occur, &f.Field, &f.Rep, &f.Comp, &f.Sub)
	return f
}

func findings(texts ...string) []api.Finding {
	var list []api.Finding
	for _, text := range texts {
		list = append(list, finding(text))
	}
	return list
}

// finds holds the findings of a message under the first message of a profile.
func finds(t *testing.T, profile, text string, want ...string) {
	t.Helper()
	p := parsed(t, profile)
	got, err := p.Check(0, messageOf(t, text))
	if err != nil || !slices.Equal(got, findings(want...)) {
		t.Errorf("Check of %q under %q: %v, %v, want %v", text, profile, got, err, findings(want...))
	}
}

// loose is a profile of a definition under which any number of a segment may stand.
func loose(name, fields string) string {
	return "table 0001 = F M a.b 1 ; table 0002 = X ; segment " + name + " = " + fields + " end message A B = MSH [ { < PID | NK1 | OBX > } ] end"
}

func TestP905Examples(t *testing.T) {
	finds(t, example, "EVN\rPID||||\rNK1", "101 PID 1 3")
	finds(t, example, "EVN\rPID|||1|||||X\rNK1", "103 PID 1 8 1 1 1")
	finds(t, example, "EVN\rPID|||1|||||F~M\rNK1", "102 PID 1 8 2")
	finds(t, example, "EVN\rPID|||1||||||a\rNK1", "102 PID 1 9")
	finds(t, example, "PID|||1", "100 PID 1")
	finds(t, example, "PID", "100 PID 1", "101 PID 1 3")
	finds(t, example, "EVN\rPID|||1\rNK1")
}

func TestP905Segments(t *testing.T) {
	finds(t, example, "EVN\rPID|||1", "100")
	finds(t, example, "EVN", "100")
	finds(t, example, "MSH|^~\\&", "100")
	finds(t, example, "EVN\rPID|||1\rNK1\rZAB\rNK1\rPD1\rNK1", "100 PD1 1")
	finds(t, example, "EVN\rPID|||1\rNK1\rPID|||1\rPID|||1", "100 PID 2") // the first that doesn't fit, alone
	finds(t, example, "EVN\rPID|||1\rPD1\rPD1\rNK1", "100 PD1 2")
	finds(t, example, "EVN\rPID|||1\rPD1\rZPD\rZPD\rZPD\rNK1")
	finds(t, example, "ZAB\rZAB\rEVN\rEVN", "100 EVN 2")
	finds(t, example, "EVN\rPID|||1\rZAB", "100")
	finds(t, example, "AL1", "100 AL1 1")
	finds(t, example, "EVN\rEVN\rEVN\rPID\rPID|||1\rPID", "100 EVN 2", "101 PID 1 3", "101 PID 3 3")
}

func TestP905Which(t *testing.T) {
	p := parsed(t, "message A B = MSH PID end message A C = MSH NK1 end")
	for which, names := range []string{"PID", "NK1"} {
		for other, name := range []string{"PID", "NK1"} {
			got, err := p.Check(which, messageOf(t, name))
			if err != nil || len(got) != 0 && which == other || len(got) != 1 && which != other {
				t.Errorf("Check(%d, %s) under %s: %v, %v", which, name, names, got, err)
			}
		}
	}
}

// TestP905Use: R, O and X with a field that is empty, and with one that isn't.
func TestP905Use(t *testing.T) {
	for _, empty := range []string{"PID", "PID|", "PID||", "PID||x", "PID||x|", "PID||x||", "PID||x|||y", "PID||x|~^&~|", "PID||x|~~&|"} {
		strange := []string{}
		if strings.HasSuffix(empty, "y") {
			strange = append(strange, "102 PID 1 5")
		}
		finds(t, loose("PID", "2 ST O ; 3 ST R ;"), empty, append([]string{"101 PID 1 3"}, strange...)...)
		finds(t, loose("PID", "2 ST O ; 3 ST O ;"), empty, strange...)
		finds(t, loose("PID", "2 ST O ; 3 ST X ;"), empty, strange...)
		finds(t, loose("PID", "2 ST O ; 3 ST R max 3 len 1 in 0001 ;"), empty, append([]string{"101 PID 1 3"}, strange...)...)
	}
	for _, full := range []string{"PID|||F", "PID|||F|", "PID|||F&^&"} {
		finds(t, loose("PID", "3 ST R ;"), full)
		finds(t, loose("PID", "3 ST O ;"), full)
		finds(t, loose("PID", "3 ST X ;"), full, "102 PID 1 3")
	}
	// Nothing else is told of a field that isn't used.
	finds(t, loose("PID", "3 SI X len 1 in 0002 ;"), "PID|||abc~^x~\"\"~a&b", "102 PID 1 3")
	finds(t, loose("PID", "3 SI X ;"), "PID|||\"\"", "102 PID 1 3")
	finds(t, loose("PID", "3 SI X max 9 ;"), "PID|||~~1", "102 PID 1 3")
	finds(t, loose("PID", "3 SI R ;"), "PID|||\"\"") // the null is not empty
	finds(t, loose("PID", "3 SI R ;"), "PID|||\\H\\", "102 PID 1 3 1 1 1")
	finds(t, loose("PID", "3 FT R ;"), "PID|||\\H\\") // nor an escape that says nothing
	finds(t, loose("PID", "64 ST R ;"), "PID", "101 PID 1 64")
	finds(t, loose("PID", "64 ST R ;"), "PID"+strings.Repeat("|", 64)+"x")
	finds(t, loose("PID", "1 ST R ; 2 ST R ; 4 ST R ;"), "PID||x", "101 PID 1 1", "101 PID 1 4")
}

func TestP905Max(t *testing.T) {
	finds(t, loose("PID", "3 ST O ;"), "PID|||a~b~c", "102 PID 1 3 2", "102 PID 1 3 3")
	finds(t, loose("PID", "3 ST O max 1 ;"), "PID|||a~b", "102 PID 1 3 2")
	finds(t, loose("PID", "3 ST O max 2 ;"), "PID|||a~b~c", "102 PID 1 3 3")
	finds(t, loose("PID", "3 ST O max 3 ;"), "PID|||a~b~c")
	finds(t, loose("PID", "3 ST R ;"), "PID|||~a", "102 PID 1 3 2")         // the first one is empty, and counts
	finds(t, loose("PID", "3 ST O max 2 ;"), "PID|||~~a", "102 PID 1 3 3")  //
	finds(t, loose("PID", "3 ST O max 2 ;"), "PID|||a~~b", "102 PID 1 3 3") // an empty one is not told
	finds(t, loose("PID", "3 ST O ;"), "PID|||a~~~")
	finds(t, loose("PID", "3 ST O ;"), "PID|||~~b~~c", "102 PID 1 3 3", "102 PID 1 3 5")
	// A repetition too much is not looked at.
	finds(t, loose("PID", "3 SI O len 2 in 0001 ;"), "PID|||1~abc^d", "102 PID 1 3 2")
	finds(t, loose("PID", "3 SI O in 0001 ;"), "PID|||7~7", "103 PID 1 3 1 1 1", "102 PID 1 3 2")
	finds(t, loose("PID", "3 ST O max 32 ;"), "PID|||"+strings.Repeat("a~", 31)+"a")
	finds(t, loose("PID", "3 ST O max 31 ;"), "PID|||"+strings.Repeat("a~", 31)+"a", "102 PID 1 3 32")
}

func TestP905Len(t *testing.T) {
	for n := 1; n <= 12; n++ {
		for _, x := range []struct {
			text string
			size int
		}{
			{"abcde", 5}, {"a", 1}, {"ab^c", 4}, {"a^^b&c", 6}, {"^^&d", 4}, {"a&&", 1}, {"a^&^", 1}, {"a&^b&", 3}, {"\\F\\", 3}, {"\\X4142\\", 7}, {"\"\"", 2}, {"^x", 2}, {"&&x", 3}, {"a^&&^b&&c^^", 7},
		} {
			profile := loose("PID", fmt.Sprintf("3 XPN O len %d ;", n))
			got, err := parsed(t, profile).Check(0, messageOf(t, "PID|||"+x.text))
			if err != nil {
				t.Fatal(err)
			}
			if long := slices.Equal(got, findings("102 PID 1 3 1")); long != (x.size > n) {
				t.Errorf("Check of %q with len %d: %v", x.text, n, got)
			}
		}
	}
	// Its text isn't looked at further, and the next repetition is.
	finds(t, loose("PID", "3 SI O max 3 len 2 in 0001 ;"), "PID|||abc~1~7~zzz", "102 PID 1 3 1", "103 PID 1 3 3 1 1", "102 PID 1 3 4")
	finds(t, loose("PID", "3 TX O len 8000 ;"), "PID|||"+strings.Repeat("x", 8000))
	finds(t, loose("PID", "3 TX O len 8000 ;"), "PID|||"+strings.Repeat("x", 8001), "102 PID 1 3 1")
	finds(t, loose("PID", "3 TX O ;"), "PID|||"+strings.Repeat("x", 8100))
	finds(t, loose("PID", "3 TX O len 4 ;"), "PID|||é\xff\xfe")
	finds(t, loose("PID", "3 TX O len 3 ;"), "PID|||é\xff\xfe", "102 PID 1 3 1")
	finds(t, loose("PID", "3 TX O len 3 ;"), "PID|||aaa|b", "102 PID 1 4")
}

// TestP905LongRepetition: a message that may be, but is too long to be printed.
func TestP905LongRepetition(t *testing.T) {
	sub := strings.Repeat("x", 4096)
	for _, x := range []struct {
		subs []string
		want []api.Finding
	}{{[]string{sub, sub[1:]}, nil}, {[]string{sub, sub}, findings("102 PID 1 1 1")}, {[]string{sub, sub[1:], "", ""}, nil}} {
		var rep api.Rep
		for _, s := range x.subs {
			rep.Comps = append(rep.Comps, api.Comp{Subs: []string{s}})
		}
		m := api.Message{Marks: common, Segs: []api.Seg{{Name: "MSH"}, {Name: "PID", Fields: []api.Field{{Reps: []api.Rep{rep}}}}}}
		got, err := parsed(t, loose("PID", "1 XPN O len 8192 ;")).Check(0, m)
		if err != nil {
			t.Fatal(err)
		}
		if x.want == nil { // the kind's findings, not the length's
			if len(got) != 2 || got[0].Comp != 1 || got[1].Comp != 2 {
				t.Errorf("Check of 8192 bytes: %v", got)
			}
		} else if !slices.Equal(got, x.want) {
			t.Errorf("Check of 8193 bytes: %v", got)
		}
	}
}

func TestP905Kinds(t *testing.T) {
	finds(t, loose("PID", "3 MSG O max 3 ;"), "PID|||A!^A01^x^y~^A01~ADT^Z99", "102 PID 1 3 1 1 1", "102 PID 1 3 1 4", "101 PID 1 3 2 1", "103 PID 1 3 3 2 1")
	finds(t, loose("PID", "3 CX O ;"), "PID|||1^^^A&B&C&D", "102 PID 1 3 1 4 4")
	finds(t, loose("PID", "3 XPN O ;"), "PID|||&x", "101 PID 1 3 1 1 1")
	finds(t, loose("PID", "1 SI O ; 2 NM R ; 3 TS O ;"), "PID|1&2|x|2026", "102 PID 1 1 1 1 2", "102 PID 1 2 1 1 1")
	// A finding of the kind keeps that of the table from being told.
	finds(t, loose("PID", "3 CX O in 0002 ;"), "PID|||1^^^&B&!", "102 PID 1 3 1 4 3")
	finds(t, loose("PID", "3 IS O in 0002 ;"), "PID|||a!", "102 PID 1 3 1 1 1")
	finds(t, loose("PID", "3 ID0103 O in 0002 ;"), "PID|||X", "103 PID 1 3 1 1 1")
	finds(t, loose("PID", "3 ID0103 O in 0002 ;"), "PID|||P", "103 PID 1 3 1 1 1")
	finds(t, loose("PID", "3 CX O in 0002 ;"), "PID|||^1", "101 PID 1 3 1 1")
}

func TestP905In(t *testing.T) {
	profile := loose("PID", "3 CE O in 0001 ;")
	for _, text := range []string{
		"F", "M", "a.b", "1", "F^x", "F^\"\"", "F&", "F&^&", // values of the table, whatever stands behind them
		"\"\"", "\"\"^", "\"\"&", "\"\"&^&", // the null alone
		"\\X46\\", "a\\X2E\\b", "\\Zx\\F", "F\\Z\\", "M\\C1234\\", // by the plain text
	} {
		finds(t, profile, "PID|||"+text)
	}
	for _, text := range []string{
		"f", "FM", "F M", "X", "a", "a.bb", "0001", "^F", "^^x", "^\"\"", "\"\"^x", "\"\"^^\"\"", "\"", "\"\"\"\"",
		"\\X46\\\\X4D\\", "\\X58\\", "\\X2222\\", "\\Z\\", "\\F\\", "\\Z\\^F", "&^F",
	} {
		finds(t, profile, "PID|||"+text, "103 PID 1 3 1 1 1")
	}
	for _, text := range []string{"F&x", "&F", "\"\"&x", "F&\"\""} { // the kind's own finding
		finds(t, profile, "PID|||"+text, "102 PID 1 3 1 1 2")
	}
	// The first of several subcomponents is the one that counts.
	finds(t, loose("PID", "3 XPN O in 0001 ;"), "PID|||F&x")
	finds(t, loose("PID", "3 XPN O in 0001 ;"), "PID|||\"\"&x", "103 PID 1 3 1 1 1")
	finds(t, loose("PID", "3 XPN O in 0001 ;"), "PID|||^F", "103 PID 1 3 1 1 1")
	finds(t, loose("PID", "3 PL O in 0001 ;"), "PID|||^^^F", "103 PID 1 3 1 1 1")
	finds(t, loose("PID", "3 IS O max 4 in 0001 ;"), "PID|||X~F~~\"\"", "103 PID 1 3 1 1 1")
	finds(t, loose("PID", "3 IS O max 4 in 0001 ; 4 IS O max 4 in 0002 ;"), "PID|||F~X|F~X", "103 PID 1 3 2 1 1", "103 PID 1 4 1 1 1")
	// A table of the profile, not one of layer 8.
	finds(t, "table 0103 = Q ; segment PID = 1 ST O in 0103 ; end message A B = MSH PID end", "PID|Q")
	finds(t, "table 0103 = Q ; segment PID = 1 ST O in 0103 ; end message A B = MSH PID end", "PID|P", "103 PID 1 1 1 1 1")
}

// TestP905InFull: a table with as many codes as may be.
func TestP905InFull(t *testing.T) {
	var b strings.Builder
	for i := range 256 {
		fmt.Fprintf(&b, "c%d ", (i*101)%256)
	}
	profile := "table 0001 = " + b.String() + "; segment PID = 1 ST O in 0001 ; end message A B = MSH PID end"
	for i := range 256 {
		finds(t, profile, fmt.Sprintf("PID|c%d", i))
	}
	finds(t, profile, "PID|c256", "103 PID 1 1 1 1 1")
	finds(t, profile, "PID|c", "103 PID 1 1 1 1 1")
}

// TestP905Strange: places that the definition doesn't have.
func TestP905Strange(t *testing.T) {
	finds(t, loose("PID", ""), "PID")
	finds(t, loose("PID", ""), "PID|||")
	finds(t, loose("PID", ""), "PID||a|b", "102 PID 1 2")
	finds(t, loose("PID", ""), "PID|~&^|a|b", "102 PID 1 2")
	finds(t, loose("PID", "2 ST O ; 4 ST R ;"), "PID|x|b|y||z", "102 PID 1 1", "101 PID 1 4")
	finds(t, loose("PID", "1 ST R ; 4 ST R ;"), "PID||b|y||z", "101 PID 1 1", "102 PID 1 2", "101 PID 1 4")
	finds(t, loose("PID", "1 ST R ; 4 ST R ;"), "PID|||||z", "101 PID 1 1", "101 PID 1 4", "102 PID 1 5")
	finds(t, loose("PID", "1 ST O ;"), "PID|||||z\rPID|a|b\rPID||\"\"", "102 PID 1 5", "102 PID 2 2", "102 PID 3 2")
	finds(t, loose("PID", "1 ST O ;"), "PID"+strings.Repeat("|", 64)+"x", "102 PID 1 64")
	finds(t, loose("PID", ""), "NK1|a|b") // a segment without a definition
}

func TestP905MSH(t *testing.T) {
	finds(t, loose("MSH", "3 ST R ; 5 ST R ;"), "MSH|^~\\&|LAB||HIS")
	finds(t, loose("MSH", "3 ST R ; 5 ST R ;"), "MSH|^~\\&", "101 MSH 1 3", "101 MSH 1 5")
	finds(t, loose("MSH", "3 ST R ; 5 ST R ;"), "MSH|^~\\&|a|b|c|d|e", "102 MSH 1 4")
	finds(t, loose("MSH", "4 SI O ;"), "MSH|^~\\&||x", "102 MSH 1 4 1 1 1")
	finds(t, loose("MSH", "66 SI R ;"), "MSH|^~\\&"+strings.Repeat("|", 64)+"x", "102 MSH 1 66 1 1 1")
	finds(t, loose("MSH", "66 SI R ;"), "MSH|^~\\&"+strings.Repeat("|", 63)+"x", "102 MSH 1 65", "101 MSH 1 66")
	finds(t, loose("MSH", ""), "MSH|^~\\&"+strings.Repeat("|", 64)+"x", "102 MSH 1 66")
	finds(t, "segment FHS = 1 ST R ; end message A B = MSH FHS end", "FHS", "101 FHS 1 1")
	finds(t, "segment FHS = 3 ST R ; end message A B = MSH FHS end", "FHS|a||c", "102 FHS 1 1")
}

// TestP905Local: Z segments have a definition too, and stand anywhere.
func TestP905Local(t *testing.T) {
	profile := "segment ZAB = 1 SI R ; end segment PID = 1 SI R ; end message A B = MSH PID end"
	finds(t, profile, "ZAB|1\rPID|1\rZAB|2\rZZZ|x")
	finds(t, profile, "ZAB\rPID|1\rZAB|x\rZAB||1", "101 ZAB 1 1", "102 ZAB 2 1 1 1 1", "101 ZAB 3 1", "102 ZAB 3 2")
	finds(t, profile, "ZAB\rZAB", "100", "101 ZAB 1 1", "101 ZAB 2 1")
}

// TestP905Occur: segment by segment, and how many of its name stand up to it.
func TestP905Occur(t *testing.T) {
	profile := "segment PID = 1 SI R ; end segment NK1 = 2 SI O ; end message A B = MSH { PID { NK1 } } end"
	finds(t, profile, "PID|1\rNK1\rNK1||x\rPID\rNK1||x\rNK1||1\rNK1||y", "102 NK1 2 2 1 1 1", "101 PID 2 1", "102 NK1 3 2 1 1 1", "102 NK1 5 2 1 1 1")
	finds(t, profile, "PID\rPID\rNK1||x\rOBX\rOBX\rPID", "100 PID 2", "101 PID 1 1", "101 PID 2 1", "102 NK1 1 2 1 1 1", "101 PID 3 1")
	finds(t, profile, "PID|x\rOBX|x\rNK1||x", "100 OBX 1", "102 PID 1 1 1 1 1", "102 NK1 1 2 1 1 1")
}

// TestP905Eight: the first eight findings.
func TestP905Eight(t *testing.T) {
	for n := range 14 {
		var all []string
		body := strings.Repeat("PID\r", n)
		for i := range n {
			all = append(all, fmt.Sprintf("101 PID %d 3", i+1))
		}
		finds(t, loose("PID", "3 ST R ;"), commonHead+"\r"+body, all[:min(n, 8)]...)
		if n > 0 {
			strict := "segment PID = 3 ST R ; end message A B = MSH NK1 end"
			finds(t, strict, body, append([]string{"100 PID 1"}, all[:min(n, 7)]...)...)
		}
		reps := "PID|||1" + strings.Repeat("~1", n)
		var above []string
		for i := range n {
			above = append(above, fmt.Sprintf("102 PID 1 3 %d", i+2))
		}
		finds(t, loose("PID", "3 ST R ;"), reps, above[:min(n, 8)]...)
	}
	finds(t, loose("PID", "3 CWE O max 3 ;"), "PID|||1^2^!^4^5^!^7^8^9^10~^^!^^^!^^^^10~^^!^^^!^^^^10", "102 PID 1 3 1 3 1", "102 PID 1 3 1 6 1", "102 PID 1 3 1 10", "102 PID 1 3 2 3 1", "102 PID 1 3 2 6 1", "102 PID 1 3 2 10", "102 PID 1 3 3 3 1", "102 PID 1 3 3 6 1")
}

// wrongMessages are messages that layer 6 refuses.
func wrongMessages() []api.Message {
	sub := func(s string) []api.Field {
		return []api.Field{{Reps: []api.Rep{{Comps: []api.Comp{{Subs: []string{s}}}}}}}
	}
	return []api.Message{
		{},
		{Marks: common},
		{Segs: []api.Seg{{Name: "MSH"}}},
		{Marks: api.Marks{Field: '|', Comp: '^', Rep: '~', Esc: '\\', Sub: '|'}, Segs: []api.Seg{{Name: "MSH"}}},
		{Marks: common, Segs: []api.Seg{{Name: "PID"}}},
		{Marks: common, Segs: []api.Seg{{Name: "MSH"}, {Name: "MSH"}}},
		{Marks: common, Segs: []api.Seg{{Name: "MSH"}, {Name: "pid"}}},
		{Marks: common, Segs: []api.Seg{{Name: "MSH"}, {Name: ""}}},
		{Marks: common, Segs: append([]api.Seg{{Name: "MSH"}}, slices.Repeat([]api.Seg{{Name: "PID"}}, 128)...)},
		{Marks: common, Segs: []api.Seg{{Name: "MSH", Fields: make([]api.Field, 65)}}},
		{Marks: common, Segs: []api.Seg{{Name: "MSH", Fields: []api.Field{{Reps: make([]api.Rep, 33)}}}}},
		{Marks: common, Segs: []api.Seg{{Name: "MSH", Fields: []api.Field{{Reps: []api.Rep{{Comps: make([]api.Comp, 33)}}}}}}},
		{Marks: common, Segs: []api.Seg{{Name: "MSH", Fields: []api.Field{{Reps: []api.Rep{{Comps: []api.Comp{{Subs: make([]string, 17)}}}}}}}}},
		{Marks: common, Segs: []api.Seg{{Name: "MSH", Fields: sub("a|b")}}},
		{Marks: common, Segs: []api.Seg{{Name: "MSH"}, {Name: "PID", Fields: sub("\\Q\\")}}},
		{Marks: common, Segs: []api.Seg{{Name: "MSH"}, {Name: "PID", Fields: sub("\t")}}},
		{Marks: common, Segs: []api.Seg{{Name: "MSH"}, {Name: "PID", Fields: sub(strings.Repeat("x", 8193))}}},
		{Marks: api.Marks{Field: '|', Comp: '^', Rep: '~', Esc: '"', Sub: '&'}, Segs: []api.Seg{{Name: "MSH"}, {Name: "PID", Fields: sub("\"\"")}}},
	}
}

// refuses holds a refusal of Check.
func refuses(t *testing.T, p *Profile, which int, m api.Message, code api.Errno) {
	t.Helper()
	l, err := p.Check(which, m)
	if l != nil || err == nil {
		t.Fatalf("Check(%d, %v): %v, %v, want %v", which, m, l, err, code)
	}
	if got := faultOf(t, err); got != (refusal{code, 0}) {
		t.Errorf("Check(%d, %v): %v, want %v", which, m, err, code)
	}
}

// TestP905Refusals: a profile that none made, then a message that may not be, then a number that is no message's.
func TestP905Refusals(t *testing.T) {
	p := parsed(t, "segment PID = 1 ST R ; end message A B = MSH PID end message A C = MSH end")
	fine := messageOf(t, "PID|1")
	for _, which := range []int{0, 1, 2, -1, 64, 1 << 50, -1 << 63} {
		for _, m := range wrongMessages() {
			refuses(t, p, which, m, api.ErrForm)
			refuses(t, parsed(t, ""), which, m, api.ErrForm)
			refuses(t, nil, which, m, api.ErrZero)
			refuses(t, &Profile{}, which, m, api.ErrZero)
		}
		if which < 0 || which > 1 {
			refuses(t, p, which, fine, api.ErrUnknown)
		}
		refuses(t, parsed(t, ""), which, fine, api.ErrUnknown)
		refuses(t, parsed(t, "table 0001 = A ;"), which, fine, api.ErrUnknown)
		refuses(t, nil, which, fine, api.ErrZero)
		refuses(t, &Profile{}, which, fine, api.ErrZero)
	}
}

// modelCheck finds what is wrong with a message's text under the common marks, or with others put in their place.
func modelCheck(m told, which int, text string, marks api.Marks) []api.Finding {
	field, comp, rep, sub := string(marks.Field), string(marks.Comp), string(marks.Rep), string(marks.Sub)
	var list []api.Finding
	lines := strings.Split(strings.TrimSuffix(text, "\r"), "\r")
	var names []string
	for _, line := range lines {
		names = append(names, line[:3])
	}
	occur := func(n int) int {
		return len(slices.DeleteFunc(slices.Clone(names[:n+1]), func(s string) bool { return s != names[n] }))
	}
	l, _ := derive(m.bodies[which], len(names)+1)
	switch n, ok := l.fits(names); {
	case ok:
	case n == len(names):
		list = append(list, api.Finding{Code: 100})
	default:
		list = append(list, api.Finding{Code: 100, Seg: names[n], Occur: occur(n)})
	}
	for n, line := range lines {
		rules, ok := m.segs[names[n]]
		if !ok {
			continue
		}
		fields := strings.Split(line, field)
		if names[n] == "MSH" {
			fields = append([]string{"", "", ""}, strings.Split(line[8:], field)[1:]...)
		}
		seen := false
		for place := 1; place <= 66; place++ {
			tell := func(code int, numbers ...int) {
				numbers = append(numbers, 0, 0, 0)
				list = append(list, api.Finding{Code: code, Seg: names[n], Occur: occur(n), Field: place, Rep: numbers[0], Comp: numbers[1], Sub: numbers[2]})
			}
			value := ""
			if place < len(fields) && strings.Trim(fields[place], comp+rep+sub) != "" {
				value = fields[place]
			}
			at := slices.IndexFunc(rules, func(f said) bool { return f.place == place })
			switch {
			case at < 0 && value != "" && !seen:
				seen = true
				tell(102)
			case at < 0:
			case value == "" && rules[at].use == "R":
				tell(101)
			case value != "" && rules[at].use == "X":
				tell(102)
			case value != "":
				modelReps(m, rules[at], strings.Split(value, rep), marks, tell)
			}
		}
	}
	return list[:min(len(list), 8)]
}

func modelReps(m told, f said, reps []string, marks api.Marks, tell func(code int, numbers ...int)) {
	comp, sub := string(marks.Comp), string(marks.Sub)
	for i, text := range reps {
		var r api.Rep
		var wire []string
		for _, c := range strings.Split(text, comp) {
			wire = append(wire, strings.TrimRight(c, sub))
			r.Comps = append(r.Comps, api.Comp{Subs: strings.Split(c, sub)})
		}
		short := strings.TrimRight(strings.Join(wire, comp), comp)
		if short == "" {
			continue
		}
		if i+1 > max(f.max, 1) || f.len > 0 && len(short) > f.len {
			tell(102, i+1)
			continue
		}
		flaws, _ := types.Check(marks, f.kind, r)
		for _, x := range flaws {
			tell(x.Code, i+1, x.Comp, x.Sub)
		}
		if len(flaws) > 0 || f.in == "" || short == `""` {
			continue
		}
		if plain, _ := esc.Unescape(marks, r.Comps[0].Subs[0]); !slices.Contains(m.tables[f.in], plain) {
			tell(103, i+1, 1, 1)
		}
	}
}

// randomValue is a field's text under the common marks.
func randomValue(rnd *rand.Rand) string {
	parts := []string{"", "", "A", "B", "F", "a", "1", "12", "-7.5", "2026", "ADT", "A01", "P", "AL", "\"\"", "x y", "\\F\\", "\\X41\\", "\\H\\", "!", "longer than twelve"}
	text := pick(rnd, parts)
	for range rnd.Intn(4) {
		text += pick(rnd, []string{"^", "^", "&", "~", "~"}) + pick(rnd, parts)
	}
	return text
}

func randomMessage(rnd *rand.Rand) string {
	text := commonHead
	fields := func() {
		for range rnd.Intn(8) {
			text += "|"
			if rnd.Intn(3) > 0 {
				text += randomValue(rnd)
			}
		}
		text += "\r"
	}
	fields()
	for range rnd.Intn(6) {
		text += pick(rnd, []string{"PID", "NK1", "OBX", "ZAB", "EVN"})
		fields()
	}
	return text
}

// otherMarks puts other marks in the place of the common ones, in a message's text.
func otherMarks(text string) string {
	return strings.NewReplacer("|", "#", "^", "$", "~", "%", "\\", "'", "&", "?").Replace(text)
}

var otherSet = api.Marks{Field: '#', Comp: '$', Rep: '%', Esc: '\'', Sub: '?'}

// dense is a profile's text of fields that stand close to each other.
func dense(rnd *rand.Rand) string {
	words := []string{"table 0001 = A F a ; table 0002 = 1 P ADT x ;"}
	for _, name := range []string{"MSH", "PID", "NK1", "ZAB"} {
		if rnd.Intn(4) == 0 {
			continue
		}
		words = append(words, "segment", name, "=")
		for place := firstField(name); place < 9; place++ {
			if rnd.Intn(3) > 0 {
				words = append(append(words, randomField(rnd, place, []string{"0001", "0002"})...), ";")
			}
		}
		words = append(words, "end")
	}
	for _, event := range []string{"A01", "A02"} {
		words = append(words, "message ADT", event, "= MSH")
		words = append(append(words, randomGroup(rnd, []string{"PID", "NK1", "OBX"}, 3, 2)...), "end")
	}
	return strings.Join(words, " ")
}

func TestP905Model(t *testing.T) {
	rnd := rand.New(rand.NewSource(905))
	seen := map[int]int{}
	for range 2000 {
		text := dense(rnd)
		m, no := modelParse(text)
		if no != nil {
			continue
		}
		p := parsed(t, text)
		for range 12 {
			message, marks := randomMessage(rnd), common
			if rnd.Intn(4) == 0 {
				message, marks = otherMarks(message), otherSet
			}
			which := rnd.Intn(2)
			want := modelCheck(m, which, message, marks)
			got, err := p.Check(which, messageOf(t, message))
			if err != nil || !slices.Equal(got, want) {
				t.Fatalf("Check(%d, %q) under\n%s\n%v, %v, want %v", which, message, p.Print(), got, err, want)
			}
			seen[len(got)]++
			for _, f := range got {
				seen[f.Code]++
			}
		}
	}
	for _, n := range []int{0, 1, 7, 8, 100, 101, 102, 103} {
		if seen[n] < 100 {
			t.Errorf("of %d there were %d", n, seen[n])
		}
	}
}

// widen puts empty ends behind a message's lists.
func widen(rnd *rand.Rand, m api.Message) api.Message {
	m = tree.Normal(m)
	for s := range m.Segs {
		fields := &m.Segs[s].Fields
		*fields = append(*fields, make([]api.Field, rnd.Intn(3))...)
		for f := range *fields {
			reps := &(*fields)[f].Reps
			*reps = append(*reps, make([]api.Rep, rnd.Intn(3))...)
			for r := range *reps {
				comps := &(*reps)[r].Comps
				*comps = append(*comps, make([]api.Comp, rnd.Intn(3))...)
				for c := range *comps {
					subs := &(*comps)[c].Subs
					*subs = append(*subs, make([]string, rnd.Intn(3))...)
				}
			}
		}
	}
	return m
}

// TestP906Same: messages of one text have the same findings, whatever the order of definitions.
func TestP906Same(t *testing.T) {
	rnd := rand.New(rand.NewSource(906))
	for range 1000 {
		text := dense(rnd)
		if _, no := modelParse(text); no != nil {
			continue
		}
		p := parsed(t, text)
		q := parsed(t, turned(p.Print()))
		for range 8 {
			m := messageOf(t, randomMessage(rnd))
			want, err := p.Check(0, m)
			if err != nil {
				t.Fatal(err)
			}
			which, ok := q.Find("ADT", "A01", "")
			got, err := q.Check(which, m)
			if !ok || err != nil || !slices.Equal(got, want) {
				t.Fatalf("Check with the definitions turned round: %v, %v, want %v", got, err, want)
			}
			if got, err := p.Check(0, widen(rnd, m)); err != nil || !slices.Equal(got, want) {
				t.Fatalf("Check with empty ends: %v, %v, want %v", got, err, want)
			}
		}
	}
}

// turned is what Print wrote, its definitions turned round: but the tables stay ahead of the segments that name them, with their codes turned round.
func turned(text string) string {
	var tables, others []string
	for _, part := range strings.SplitAfter(text, "\n") {
		words := strings.Fields(part)
		switch {
		case len(words) == 0:
		case words[0] == "table":
			slices.Reverse(words[3 : len(words)-1])
			tables = append(tables, strings.Join(words, " "))
		case words[0] == "segment", words[0] == "message":
			others = append(others, part)
		default:
			others[len(others)-1] += part
		}
	}
	slices.Reverse(tables)
	slices.Reverse(others)
	return strings.Join(append(tables, others...), "\n")
}

// TestP906Order: there is a 100 just if Fits says no.
func TestP906Order(t *testing.T) {
	rnd := rand.New(rand.NewSource(9061))
	for range 2000 {
		text := dense(rnd)
		if _, no := modelParse(text); no != nil {
			continue
		}
		p := parsed(t, text)
		for range 4 {
			m := messageOf(t, randomMessage(rnd))
			var names []string
			for _, s := range m.Segs {
				names = append(names, s.Name)
			}
			_, ok := p.Fits(0, names)
			got, err := p.Check(0, m)
			bad := slices.ContainsFunc(got, func(f api.Finding) bool { return f.Code == 100 })
			if err != nil || bad == ok {
				t.Fatalf("Fits(%v) = %v, Check: %v, %v", names, ok, got, err)
			}
		}
	}
}
