package batch

import (
	"fmt"
	"strings"
	"testing"

	"courier/api"
)

// P2001: which segment can stand where; how many of them.

// plainOf is a segment of each kind, by its letter.
var plainOf = map[byte]string{'F': "FHS|^~\\&|f\r", 'B': "BHS|^~\\&|b\r", 'M': msgA, 'T': "BTS\r", 'Z': "FTS\r", 'i': "PID|1\r"}

func textOf(kinds string) string {
	text := ""
	for i := range kinds {
		text += plainOf[kinds[i]]
	}
	return text
}

// orders gives every order of these kinds up to a length.
func orders(kinds string, most int, do func(order string)) {
	var longer func(order string)
	longer = func(order string) {
		do(order)
		if len(order) < most {
			for i := range kinds {
				longer(order + kinds[i:i+1])
			}
		}
	}
	longer("")
}

// follows is the chapter's paragraph: what may stand behind what; $ is the end.
func follows(order string) string {
	if order == "" {
		return "FBM"
	}
	hasFHS, hasBHS := order[0] == 'F', strings.LastIndexByte(order, 'B') > strings.LastIndexByte(order, 'T')
	switch order[len(order)-1] {
	case 'F':
		return "B"
	case 'B':
		return "M"
	case 'M', 'i':
		if hasBHS {
			return "iMT"
		}
		return "iM$"
	case 'T':
		if hasFHS {
			return "BZ"
		}
	}
	return "$"
}

// TestP2001EveryOrder: of all orders of kinds each that may be is read, each other refused at the first segment that cannot stand, or at the end.
func TestP2001EveryOrder(t *testing.T) {
	taken := 0
	orders("FBMTZi", 6, func(order string) {
		wrong := 0
		for wrong <= len(order) && strings.Contains(follows(order[:wrong]), (order + "$")[wrong:wrong+1]) {
			wrong++
		}
		text := textOf(order)
		for _, x := range []string{text, strings.TrimSuffix(text, "\r")} {
			var want *api.Fault
			if wrong <= len(order) {
				want = no(api.ErrOrder, min(len(textOf(order[:wrong])), len(x)))
			}
			f, err := Parse(x)
			if !isFault(err, want) {
				t.Fatalf("P2001: %s: Parse(%q): %v, want %v", order, x, err, want)
			}
			if model, _ := modelParse(x); shape(f) != shape(model) {
				t.Fatalf("P2001: %s: Parse(%q): %s, want %s", order, x, shape(f), shape(model))
			}
		}
		if wrong > len(order) {
			taken++
		}
	})
	// Up to six: M with M or i behind it (63); BMT with up to three more inside (15); FBMTZ with one more (3).
	if taken != 63+15+3 {
		t.Errorf("P2001: %d orders were taken", taken)
	}
}

// TestP2001LongerOrders: files with several batches, and each of them with a segment put in, left out, or turned into another one.
func TestP2001LongerOrders(t *testing.T) {
	for _, order := range []string{"FBMTBMTZ", "FBMMiTBMiiMTBMTZ", "BMiMiMMT", "MiiMMiMM", "FBMTBMTBMTBMTZ"} {
		if reads(t, textOf(order)) != api.OK {
			t.Errorf("P2001: %s is refused", order)
		}
		for i := range len(order) + 1 {
			for _, kind := range strings.Split("FBMTZi", "") {
				for _, x := range []string{textOf(order[:i] + kind + order[i:]), textOf(order[:i] + kind + order[min(i+1, len(order)):])} {
					reads(t, x)
					reads(t, x[:max(len(x)-1, 0)])
				}
			}
			reads(t, textOf(order[:i]))
			reads(t, textOf(order[i:]))
		}
	}
}

// TestP2001InnerSegments: a segment that is none of the five, an empty one too, belongs to a message or cannot stand.
func TestP2001InnerSegments(t *testing.T) {
	order := "FBMiMTBMTZ"
	for _, s := range []string{"\r", "PID\r", "PID|1|x\r", "P\r", "MS\r", "FH\r", "msh|^~\\&\r", "fhs\r", " BTS\r", "\nFTS\r", "\x00\r", "FTX\r", "MSA|AA\r", "BH\r", "|||\r"} {
		for i := range len(order) + 1 {
			text := textOf(order[:i]) + s + textOf(order[i:])
			code := reads(t, text)
			reads(t, text[:len(text)-1])
			inMessage := strings.Contains("MMi", order[max(i-1, 0):i]) && i > 0
			right := s == "PID\r" || s == "PID|1|x\r" || s == "FTX\r" || s == "MSA|AA\r"
			if inMessage && right != (code == api.OK) || !inMessage && code != api.ErrOrder {
				t.Errorf("P2001: %q at %d: number %d", s, i, code)
			}
		}
	}
	says(t, msgA+"PID|1\rOBX\r"+msgB+"ZZ1", bare(msgA+"PID|1\rOBX\r", msgB+"ZZ1\r"))
	refuses(t, msgA+"\r", below(0, msgA+"\r"))
	refuses(t, msgA+"\r\r", below(0, msgA+"\r\r"))
	refuses(t, "\r", no(api.ErrOrder, 0))
	refuses(t, "\r"+msgA, no(api.ErrOrder, 0))
	refuses(t, "X", no(api.ErrOrder, 0))
	refuses(t, "BHS|^~\\&\r"+msgA+"BTS\r\r", no(api.ErrOrder, 24))
	refuses(t, "FHS|^~\\&\rBHS|^~\\&\r"+msgA+"BTS\rFTS\r\r", no(api.ErrOrder, 37))
	refuses(t, "FHS|^~\\&\rBHS|^~\\&\r"+msgA+"BTS\rFTS\rPID", no(api.ErrOrder, 37))
}

// TestP2001TheKindIsThreeBytes: what stands behind them is looked at when the segment can stand.
func TestP2001TheKindIsThreeBytes(t *testing.T) {
	refuses(t, "BTSX", no(api.ErrOrder, 0))
	refuses(t, "FTS\x00\x00", no(api.ErrOrder, 0))
	refuses(t, msgA+"FHSX", no(api.ErrOrder, 11))
	refuses(t, msgA+"BHSX", no(api.ErrOrder, 11))
	refuses(t, msgA+"MSHX", below(11, "MSHX\r"))
	refuses(t, "MSH", below(0, "MSH\r"))
	refuses(t, "FHS", below(0, "MSH\r"))
	refuses(t, "BHSX", below(0, "MSHX\r"))
	refuses(t, "BHS|^~\\&\r"+msgA+"BTSX", below(20, head+"\rBTSX\r"))
}

// TestP2001LastCR: a text without it is read as with it; its end is its own length.
func TestP2001LastCR(t *testing.T) {
	says(t, head+"|A", bare(msgA))
	says(t, msgA+head+"|B", bare(msgA, msgB))
	says(t, msgA+"PID", bare(msgA+"PID\r"))
	says(t, "BHS|^~\\&\r"+msgA+"BTS", api.File{Batches: []api.Batch{headed(msgA)}})
	says(t, "FHS|^~\\&\rBHS|^~\\&\r"+msgA+"BTS\rFTS", filed(headed(msgA)))
	refuses(t, "FHS|^~\\&", no(api.ErrOrder, 8))
	refuses(t, "BHS|^~\\&", no(api.ErrOrder, 8))
	refuses(t, "BHS|^~\\&\r", no(api.ErrOrder, 9))
	refuses(t, "BHS|^~\\&\r"+head+"|A", no(api.ErrOrder, 19))
	refuses(t, "FHS|^~\\&\rBHS|^~\\&\r"+msgA+"BTS", no(api.ErrOrder, 32))
	refuses(t, "FHS|^~\\&\rBHS|^~\\&\r"+msgA+"BTS\r", no(api.ErrOrder, 33))
	// A CR behind the last one is an empty segment.
	refuses(t, "BHS|^~\\&\r"+msgA+"BTS\r\r", no(api.ErrOrder, 24))
}

// many is a file of so many batches with so many messages each.
func many(batches, messages int) string {
	one := "BHS|^~\\&\r" + strings.Repeat(msgA, messages) + fmt.Sprintf("BTS|%d\r", messages)
	return "FHS|^~\\&\r" + strings.Repeat(one, batches) + fmt.Sprintf("FTS|%d\r", batches)
}

func TestP2001MaxBatches(t *testing.T) {
	for _, n := range []int{63, 64} {
		f, err := Parse(many(n, 1))
		if err != nil || len(f.Batches) != n || reads(t, many(n, 1)) != api.OK {
			t.Errorf("P2001: %d batches: %v", n, err)
		}
	}
	one := len("BHS|^~\\&\r") + len(msgA) + len("BTS|1\r")
	refuses(t, many(65, 1), no(api.ErrMany, 9+64*one))
	refuses(t, many(70, 1), no(api.ErrMany, 9+64*one))
	// Ahead of all that is wrong with that head, behind what is wrong ahead of it.
	cut := many(64, 1)[:9+64*one]
	refuses(t, cut+"BHSX", no(api.ErrMany, len(cut)))
	refuses(t, cut+"BHS#$%!?\r", no(api.ErrMany, len(cut)))
	refuses(t, cut+"PID", no(api.ErrOrder, len(cut)))
	refuses(t, cut[:len(cut)-2]+"2\rBHSX", no(api.ErrCount, len(cut)-6))
	// A BHS that cannot stand is that.
	refuses(t, many(64, 1)+"BHS", no(api.ErrOrder, len(many(64, 1))))
}

func TestP2001MaxInFile(t *testing.T) {
	full := strings.Repeat(msgA, 256)
	for _, text := range []string{full, many(64, 4), many(1, 256), many(2, 128)} {
		l, err := Split(text)
		if err != nil || len(l) != 256 || reads(t, text) != api.OK {
			t.Errorf("P2001: 256 messages: %v", err)
		}
	}
	refuses(t, full+msgB, no(api.ErrMany, len(full)))
	refuses(t, full+"MSHX", no(api.ErrMany, len(full)))
	refuses(t, full+"MSH#$%!?\r", no(api.ErrMany, len(full)))
	refuses(t, full+msgB+msgB+"BTS", no(api.ErrMany, len(full)))
	refuses(t, full+"BTS", no(api.ErrOrder, len(full)))
	refuses(t, many(1, 257), no(api.ErrMany, 18+256*11))
	// The 257th is in another batch than the 256th.
	text := strings.TrimSuffix(many(64, 4), "BTS|4\rFTS|64\r")
	refuses(t, text+msgA+"BTS|5\rFTS|64\r", no(api.ErrMany, len(text)))
	text = strings.TrimSuffix(many(1, 256), "FTS|1\r") + "BHS|^~\\&\r"
	refuses(t, text+msgA+"BTS|1\rFTS|2\r", no(api.ErrMany, len(text)))
	// The message ahead of it is looked at first.
	wrong := strings.Repeat(msgA, 255) + head + "|\t\r"
	refuses(t, wrong+msgB, below(255*11, head+"|\t\r"))
	refuses(t, strings.Repeat(msgA, 255)+"MSH#$%!?\r"+msgB, no(api.ErrMark, 255*11))
}

// longMessage is a message in one form of so many bytes.
func longMessage(n int) string {
	return head + "|" + strings.Repeat("x", n-len(head)-2) + "\r"
}

// longList is messages of so many bytes in all.
func longList(n int) []string {
	var list []string
	for ; n > mostMessage; n -= 8000 {
		list = append(list, longMessage(8000))
	}
	return append(list, longMessage(n))
}

func longFile(n int) string { return strings.Join(longList(n), "") }

func TestP2001MaxFile(t *testing.T) {
	for _, n := range []int{mostFile - 1, mostFile} {
		text := longFile(n)
		f, err := Parse(text)
		if err != nil || len(text) != n || len(f.Batches) != 1 || strings.Join(f.Batches[0].Messages, "") != text {
			t.Errorf("P2001: %d bytes: %v", n, err)
		}
		l, err := Split(text[:n-1])
		if err != nil || strings.Join(l, "") != text {
			t.Errorf("P2003: %d bytes without the last CR: %v", n-1, err)
		}
	}
	// The CR that is missing doesn't count.
	l, err := Split(strings.TrimSuffix(longFile(mostFile+1), "\r"))
	if err != nil || len(strings.Join(l, "")) != mostFile+1 {
		t.Errorf("P2001: MaxFile bytes without the last CR: %v", err)
	}
	for _, text := range []string{longFile(mostFile + 1), strings.Repeat("\r", mostFile+1), "MSHX" + longFile(mostFile), "\r" + longFile(mostFile), longFile(mostFile) + "\r"} {
		refuses(t, text, no(api.ErrLong, 0))
	}
	refuses(t, strings.Repeat("\r", mostFile), no(api.ErrOrder, 0))
	refuses(t, msgA+strings.Repeat("\r", mostFile-11), below(0, msgA+strings.Repeat("\r", mostFile-11)))
	refuses(t, strings.Repeat("x", mostFile), no(api.ErrOrder, 0))
	refuses(t, "FHS|^~\\&|"+strings.Repeat("x", mostFile-9), below(0, strings.Repeat("x", mostMessage+1)))
}

// TestP2001LongestParts: a message, a head and a trailer of as many bytes as layer 6 takes, and one more.
func TestP2001LongestParts(t *testing.T) {
	long := longMessage(mostMessage)
	says(t, long, bare(long))
	says(t, long+msgB, bare(long, msgB))
	says(t, long[:mostMessage-1], bare(long))
	more := longMessage(mostMessage + 1)
	refuses(t, more, below(0, more))
	refuses(t, more[:mostMessage], below(0, more))
	refuses(t, msgA+more+msgB, below(11, more))
	x := strings.Repeat("x", mostMessage-10)
	f := filed(headed(msgA))
	f.Head, f.Batches[0].Head = seg("FHS", x), seg("BHS", x)
	says(t, "FHS|^~\\&|"+x+"\rBHS|^~\\&|"+x+"\r"+msgA+"BTS\rFTS", f)
	refuses(t, "FHS|^~\\&|x"+x+"\r"+msgA, below(0, head+"|x"+x+"\r"))
	refuses(t, "FHS|^~\\&\rBHS|^~\\&|x"+x+"\r"+msgA, below(9, head+"|x"+x+"\r"))
	// Of a trailer the MSH that is put ahead of it counts.
	x = strings.Repeat("x", mostMessage-9-6)
	f = filed(headed(msgA))
	f.Tail, f.Batches[0].Tail = seg("FTS", "", x), seg("BTS", "", x)
	says(t, "FHS|^~\\&\rBHS|^~\\&\r"+msgA+"BTS||"+x+"\rFTS||"+x, f)
	refuses(t, "BHS|^~\\&\r"+msgA+"BTS||x"+x, below(20, head+"\rBTS||x"+x+"\r"))
	refuses(t, "FHS|^~\\&\rBHS|^~\\&\r"+msgA+"BTS\rFTS||x"+x+"\r", below(33, head+"\rFTS||x"+x+"\r"))
}
