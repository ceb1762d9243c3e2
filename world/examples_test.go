package world

import "testing"

// The ten examples of DOC.md, played as they stand there.

const exampleHead = `setup
start 20260105000000
version 2.5.1
side a
app LAB
facility ""
process P
sequence off
every 5
tries 1
keep 1
compact 9
side b
app HIS
facility ""
process P
sequence off
every 5
tries 1
keep 1
compact 9
structures
message ADT A01 = MSH [ PID ] end
events
`

func TestExampleHead(t *testing.T) {
	if exampleHead != head {
		t.Errorf("%q", head)
	}
}

func TestTenExamples(t *testing.T) {
	for i, x := range examples() {
		beginning := exampleHead
		if i == 7 || i == 8 {
			beginning = numbered()
		}
		plays(t, beginning, x.script, x.report)
	}
}

type example struct{ script, report string }

func examples() []example {
	return []example{
		{`
submit 0 "MSH|^~\\&|LAB||HIS||2026||ADT^A01|A1|P|2.5.1|||AL|AL\r"
sync 0
carry 0 0 0
sync 1
carry 1 0 0
verdict 1 A1 AA
sync 1
carry 1 0 0
sync 0
`, `
2 out 0 "\x0BMSH|^~\\&|LAB||HIS||2026||ADT^A01|A1|P|2.5.1|||AL|AL\r\x1C\r"
4 out 1 "\x0BMSH|^~\\&|HIS||LAB||20260105000000||ACK^A01^ACK|CA1|P|2.5.1|||NE|NE\rMSA|CA|A1\r\x1C\r"
4 deliver 1 A1 0 new "MSH|^~\\&|LAB||HIS||2026||ADT^A01|A1|P|2.5.1|||AL|AL\r"
7 out 1 "\x0BMSH|^~\\&|HIS||LAB||20260105000000||ACK^A01^ACK|AA1|P|2.5.1|||NE|NE\rMSA|AA|A1\r\x1C\r"
9 answer 0 A1 answered AA
`},
		{`
submit 0 "MSH|^~\\&|LAB||HIS||2026||ADT^A01|A1|P|2.5.1\r"
sync 0
carry 0 0 0
sync 1
verdict 1 A1 AE 207 - 0 0 0 0 0
sync 1
carry 1 0 0
sync 0
`, `
2 out 0 "\x0BMSH|^~\\&|LAB||HIS||2026||ADT^A01|A1|P|2.5.1\r\x1C\r"
4 deliver 1 A1 0 new "MSH|^~\\&|LAB||HIS||2026||ADT^A01|A1|P|2.5.1\r"
6 out 1 "\x0BMSH|^~\\&|HIS||LAB||20260105000000||ACK^A01^ACK|AA1|P|2.5.1\rMSA|AE|A1\rERR|||207^^HL70357|E\r\x1C\r"
8 answer 0 A1 answered AE 207 - 0 0 0 0 0
`},
		{`
submit 0 "MSH|^~\\&|LAB||HIS||2026||ADT^A01|A1|P|2.5.1|||AL|NE\r"
sync 0
drop 0 0
tick 0 4
tick 0 1
drop 0 0
tick 0 5
sync 0
`, `
2 out 0 "\x0BMSH|^~\\&|LAB||HIS||2026||ADT^A01|A1|P|2.5.1|||AL|NE\r\x1C\r"
5 out 0 "\x0BMSH|^~\\&|LAB||HIS||2026||ADT^A01|A1|P|2.5.1|||AL|NE\r\x1C\r"
8 answer 0 A1 failed -
`},
		{`
submit 0 "MSH|^~\\&|LAB||HIS||2026||ADT^A01|A1|P|2.5.1|||AL|AL\r"
sync 0
double 0 0
carry 0 0 0
sync 1
verdict 1 A1 AA
sync 1
carry 0 0 0
`, `
2 out 0 "\x0BMSH|^~\\&|LAB||HIS||2026||ADT^A01|A1|P|2.5.1|||AL|AL\r\x1C\r"
5 out 1 "\x0BMSH|^~\\&|HIS||LAB||20260105000000||ACK^A01^ACK|CA1|P|2.5.1|||NE|NE\rMSA|CA|A1\r\x1C\r"
5 deliver 1 A1 0 new "MSH|^~\\&|LAB||HIS||2026||ADT^A01|A1|P|2.5.1|||AL|AL\r"
7 out 1 "\x0BMSH|^~\\&|HIS||LAB||20260105000000||ACK^A01^ACK|AA1|P|2.5.1|||NE|NE\rMSA|AA|A1\r\x1C\r"
8 out 1 "\x0BMSH|^~\\&|HIS||LAB||20260105000000||ACK^A01^ACK|CA1|P|2.5.1|||NE|NE\rMSA|CA|A1\r\x1C\r"
8 out 1 "\x0BMSH|^~\\&|HIS||LAB||20260105000000||ACK^A01^ACK|AA1|P|2.5.1|||NE|NE\rMSA|AA|A1\r\x1C\r"
`},
		{`
submit 0 "MSH|^~\\&|LAB||HIS||2026||ADT^A01|A1|P|2.5.1|||AL|AL\r"
crash 0 0 0 0 0
restart 0
submit 0 "MSH|^~\\&|LAB||HIS||2026||ADT^A01|A2|P|2.5.1|||AL|NE\r"
crash 0 16777216 0 16777216 0
restart 0
`, `
2 down 0
3 up 0
5 down 0
6 up 0
6 out 0 "\x0BMSH|^~\\&|LAB||HIS||2026||ADT^A01|A2|P|2.5.1|||AL|NE\r\x1C\r"
`},
		{`
submit 0 "MSH|^~\\&|LAB||HIS||2026||ADT^A01|A1|P|2.5.1|||AL|AL\r"
sync 0
double 0 0
carry 0 0 0
sync 1
crash 1 0 0 0 0
verdict 1 A1 AA
restart 1
carry 0 0 0
verdict 1 A1 AA
sync 1
`, `
2 out 0 "\x0BMSH|^~\\&|LAB||HIS||2026||ADT^A01|A1|P|2.5.1|||AL|AL\r\x1C\r"
5 out 1 "\x0BMSH|^~\\&|HIS||LAB||20260105000000||ACK^A01^ACK|CA1|P|2.5.1|||NE|NE\rMSA|CA|A1\r\x1C\r"
5 deliver 1 A1 0 new "MSH|^~\\&|LAB||HIS||2026||ADT^A01|A1|P|2.5.1|||AL|AL\r"
6 down 1
7 refused 1 8
8 up 1
8 deliver 1 A1 0 again "MSH|^~\\&|LAB||HIS||2026||ADT^A01|A1|P|2.5.1|||AL|AL\r"
9 out 1 "\x0BMSH|^~\\&|HIS||LAB||20260105000000||ACK^A01^ACK|CA1|P|2.5.1|||NE|NE\rMSA|CA|A1\r\x1C\r"
11 out 1 "\x0BMSH|^~\\&|HIS||LAB||20260105000000||ACK^A01^ACK|AA1|P|2.5.1|||NE|NE\rMSA|AA|A1\r\x1C\r"
`},
		{`
raw 0 "\x0BMSH|^~\\&|LAB||HIS||2026||ADT^A02|B1|P|2.5.1|||AL|AL\r\x1C\r"
carry 0 0 0
raw 0 "\x0BMSH|^~\\&|LAB||HIS||2026||ADT^A01|B2|P|2.5.1\rNK1\r\x1C\r"
carry 0 0 0
raw 0 "\x0Bnothing\x1C\r"
carry 0 0 0
raw 0 "\x0BMSH|^~\\&|LAB||HIS||2026||ADT^A01|B3|P|2.5.1|||AL\rPID|x\x09\r\x1C\r"
carry 0 0 0
raw 0 "\x0BMSH|^~\\&|LAB||HIS||2026||ADT^A01|B4|P|2.5.1|||NE\rNK1\r\x1C\r"
carry 0 0 0
`, `
2 out 1 "\x0BMSH|^~\\&|HIS||LAB||20260105000000||ACK^A02^ACK|CB1|P|2.5.1|||NE|NE\rMSA|CR|B1\rERR||MSH^1^9^1|201^^HL70357|E\r\x1C\r"
4 out 1 "\x0BMSH|^~\\&|HIS||LAB||20260105000000||ACK^A01^ACK|AB2|P|2.5.1\rMSA|AE|B2\rERR||NK1^1|100^^HL70357|E\r\x1C\r"
8 out 1 "\x0BMSH|^~\\&|HIS||LAB||20260105000000||ACK^A01^ACK|CB3|P|2.5.1|||NE|NE\rMSA|CR|B3\rERR||MSH^1^1^1|100^^HL70357|E\r\x1C\r"
`},
		{`
submit 0 "MSH|^~\\&|LAB||HIS||2026||ADT^A01|A1|P|2.5.1|||AL|NE\r"
submit 0 "MSH|^~\\&|LAB||HIS||2026||ADT^A01|A2|P|2.5.1|||AL|NE\r"
sync 0
carry 0 0 0
sync 1
carry 1 0 0
sync 0
raw 0 "\x0BMSH|^~\\&|LAB||HIS||2026||ADT^A01|B9|P|2.5.1|7||AL|NE\r\x1C\r"
carry 0 1 0
carry 0 0 0
sync 1
`, `
3 out 0 "\x0BMSH|^~\\&|LAB||HIS||2026||ADT^A01|A1|P|2.5.1|1||AL|NE\r\x1C\r"
5 out 1 "\x0BMSH|^~\\&|HIS||LAB||20260105000000||ACK^A01^ACK|CA1|P|2.5.1|||NE|NE\rMSA|CA|A1\r\x1C\r"
5 deliver 1 A1 1 new "MSH|^~\\&|LAB||HIS||2026||ADT^A01|A1|P|2.5.1|||AL|NE\r"
7 answer 0 A1 answered CA
7 out 0 "\x0BMSH|^~\\&|LAB||HIS||2026||ADT^A01|A2|P|2.5.1|2||AL|NE\r\x1C\r"
9 out 1 "\x0BMSH|^~\\&|HIS||LAB||20260105000000||ACK^A01^ACK|CB9|P|2.5.1|||NE|NE\rMSA|CE|B9||2\rERR||MSH^1^13^1|207^^HL70357|E\r\x1C\r"
11 out 1 "\x0BMSH|^~\\&|HIS||LAB||20260105000000||ACK^A01^ACK|CA2|P|2.5.1|||NE|NE\rMSA|CA|A2\r\x1C\r"
11 deliver 1 A2 2 new "MSH|^~\\&|LAB||HIS||2026||ADT^A01|A2|P|2.5.1|||AL|NE\r"
`},
		{`
probe 0 P1
sync 0
carry 0 0 0
sync 1
carry 1 0 0
sync 0
resync 0 R1 70
carry 0 0 0
sync 1
carry 1 0 0
sync 0
submit 0 "MSH|^~\\&|LAB||HIS||2026||ADT^A01|A1|P|2.5.1|||AL|NE\r"
sync 0
carry 0 0 0
sync 1
`, `
1 out 0 "\x0BMSH|^~\\&|LAB||HIS||20260105000000||QRY^Q01|P1|P|2.5.1|0\r\x1C\r"
3 out 1 "\x0BMSH|^~\\&|HIS||LAB||20260105000000||ACK^Q01^ACK|AP1|P|2.5.1\rMSA|AA|P1||1\r\x1C\r"
6 answer 0 P1 answered AA
7 out 0 "\x0BMSH|^~\\&|LAB||HIS||20260105000000||QRY^Q01|R1|P|2.5.1|-1\r\x1C\r"
9 out 1 "\x0BMSH|^~\\&|HIS||LAB||20260105000000||ACK^Q01^ACK|AR1|P|2.5.1\rMSA|AA|R1||0\r\x1C\r"
11 answer 0 R1 answered AA
13 out 0 "\x0BMSH|^~\\&|LAB||HIS||2026||ADT^A01|A1|P|2.5.1|70||AL|NE\r\x1C\r"
15 out 1 "\x0BMSH|^~\\&|HIS||LAB||20260105000000||ACK^A01^ACK|CA1|P|2.5.1|||NE|NE\rMSA|CA|A1\r\x1C\r"
15 deliver 1 A1 70 new "MSH|^~\\&|LAB||HIS||2026||ADT^A01|A1|P|2.5.1|||AL|NE\r"
`},
		{`
submit 0 "MSH|^~\\&|LAB||HIS||2026||ADT^A01|A1|P|2.5.1|||AL|AL\r"
compact 0
fuse 1 0
carry 0 0 0
tick 2 5
crash 1 0 0 0 0
restart 1
carry 0 0 0
sync 1
`, `
2 out 0 "\x0BMSH|^~\\&|LAB||HIS||2026||ADT^A01|A1|P|2.5.1|||AL|AL\r\x1C\r"
4 down 1
5 out 0 "\x0BMSH|^~\\&|LAB||HIS||2026||ADT^A01|A1|P|2.5.1|||AL|AL\r\x1C\r"
7 up 1
9 out 1 "\x0BMSH|^~\\&|HIS||LAB||20260105000005||ACK^A01^ACK|CA1|P|2.5.1|||NE|NE\rMSA|CA|A1\r\x1C\r"
9 deliver 1 A1 0 new "MSH|^~\\&|LAB||HIS||2026||ADT^A01|A1|P|2.5.1|||AL|AL\r"
`},
	}
}
