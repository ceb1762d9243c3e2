package batch

import (
	"testing"

	"courier/api"
	"courier/tree"
)

// The chapter's examples, in their order.

func TestP2001ExamplesRead(t *testing.T) {
	says(t, msgA+msgB, bare(msgA, msgB))
	says(t, "BHS|^~\\&|X\r"+msgA+"BTS|1\r", api.File{Batches: []api.Batch{{Head: seg("BHS", "X"), Tail: seg("BTS", "1"), Messages: []string{msgA}}}})
	f := filed(headed(msgA))
	f.Tail = seg("FTS", "1")
	says(t, "FHS|^~\\&\rBHS|^~\\&\r"+msgA+"BTS\rFTS|1", f)
}

func TestP2001ExamplesRefused(t *testing.T) {
	refuses(t, "BHS|^~\\&|X\r"+msgA+"BTS|2\r", no(api.ErrCount, 22))
	refuses(t, msgA+"BTS", no(api.ErrOrder, 11))
	refuses(t, "PID\r"+msgA, no(api.ErrOrder, 0))
	refuses(t, "", no(api.ErrOrder, 0))
	refuses(t, "FHS|^~\\&\r"+msgA, no(api.ErrOrder, 9))
	refuses(t, "FHS|^~\\&\r", no(api.ErrOrder, 9))
	refuses(t, "BHS|^~\\&\r"+msgA, no(api.ErrOrder, 20))
	refuses(t, msgA+"MSH|#~\\&\r", no(api.ErrMark, 11))
	_, under := tree.Parse([]byte("MSH|#~\\\r"))
	refuses(t, msgA+"MSH|#~\\\r", &api.Fault{At: 11, Code: api.ErrNoMSH, Under: under})
}

func TestP2002Examples(t *testing.T) {
	refusesFile(t, "no batch", api.File{}, no(api.ErrFile, -1))
	refusesFile(t, "no CR", bare("MSH|^~\\&|A"), no(api.ErrFile, 0))
}

func TestP2004Example(t *testing.T) {
	want := "FHS|^~\\&|LAB||||2026||||C\r" +
		"BHS|^~\\&|LAB||||2026||||C.1\r" + msgA + "BTS|1\r" +
		"BHS|^~\\&|LAB||||2026||||C.2\r" + msgB + "BTS|1\r" +
		"FTS|2\r"
	wraps(t, usual, "LAB", "", "2026", "C", [][]string{{msgA}, {msgB}}, want)
}
