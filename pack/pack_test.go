package pack_test

import (
	"bytes"
	"encoding/hex"
	"fmt"
	"math/rand"
	"slices"
	"strings"
	"testing"

	"kiosk/api"
	"kiosk/pack"
)

func show(p api.Mq) string {
	p.Codes = append([]int{}, p.Codes...)
	p.Wishes = append([]api.Wish{}, p.Wishes...)
	p.Filters = append([]string{}, p.Filters...)
	return fmt.Sprintf("%+v", p)
}

func x(n int) string { return strings.Repeat("x", n) }

// examples are packets and their encodings.
func examples() map[string]api.Mq {
	return map[string]api.Mq{
		"100c" + "00044d515454" + "04" + "00" + "0000" + "0000":                                               {Kind: api.MqConnect},
		"100d" + "00044d515454" + "04" + "02" + "003c" + "000161":                                             {Kind: api.MqConnect, Clean: true, KeepAlive: 60, Client: "a"},
		"1019" + "00044d515454" + "04" + "f6" + "ffff" + "000161" + "000174" + "00027077" + "000175" + "0000": {Kind: api.MqConnect, Clean: true, KeepAlive: 65535, Client: "a", Will: api.Will{Is: true, Topic: "t", Payload: "pw", QoS: 2, Retain: true}, HasUser: true, User: "u", HasPass: true},
		"1015" + "00044d515454" + "04" + "0c" + "0000" + "000161" + "0003742b23" + "0001" + "00":              {Kind: api.MqConnect, Client: "a", Will: api.Will{Is: true, Topic: "t+#", Payload: "\x00", QoS: 1}},
		"1010" + "00044d515454" + "04" + "80" + "0000" + "0000" + "0002" + "c3a9":                             {Kind: api.MqConnect, HasUser: true, User: "é"},
		"20020000":                          {Kind: api.MqConnack},
		"20020100":                          {Kind: api.MqConnack, Present: true},
		"20020005":                          {Kind: api.MqConnack, Code: 5},
		"3003" + "000161":                   {Kind: api.MqPublish, Topic: "a"},
		"3105" + "000161" + "00ff":          {Kind: api.MqPublish, Topic: "a", Payload: "\x00\xff", Retain: true},
		"3205" + "000161" + "0001":          {Kind: api.MqPublish, Topic: "a", QoS: 1, ID: 1},
		"3d07" + "000161" + "ffff" + "7879": {Kind: api.MqPublish, Topic: "a", QoS: 2, ID: 65535, Dup: true, Retain: true, Payload: "xy"},
		"40020102":                          {Kind: api.MqPuback, ID: 258},
		"50020102":                          {Kind: api.MqPubrec, ID: 258},
		"62020102":                          {Kind: api.MqPubrel, ID: 258},
		"70020102":                          {Kind: api.MqPubcomp, ID: 258},
		"820b" + "0001" + "00012300" + "0002612b02": {Kind: api.MqSubscribe, ID: 1, Wishes: []api.Wish{{Filter: "#"}, {Filter: "a+", QoS: 2}}},
		"9006" + "0001" + "00010280":                {Kind: api.MqSuback, ID: 1, Codes: []int{0, 1, 2, 128}},
		"a209" + "0001" + "000123" + "0002612b":     {Kind: api.MqUnsubscribe, ID: 1, Filters: []string{"#", "a+"}},
		"b0020102":                                  {Kind: api.MqUnsuback, ID: 258},
		"c000":                                      {Kind: api.MqPingreq},
		"d000":                                      {Kind: api.MqPingresp},
		"e000":                                      {Kind: api.MqDisconnect},
	}
}

func TestExamples(t *testing.T) {
	for s, p := range examples() {
		b, e := pack.Bytes(p)
		if hex.EncodeToString(b) != s || e != api.OK || pack.Check(p) != api.OK {
			t.Errorf("%s: %x, %v", s, b, e)
		}
		q, n, e := pack.Parse(b)
		if show(q) != show(p) || n != len(b) || e != api.OK {
			t.Errorf("%s: %s, %d, %v", s, show(q), n, e)
		}
		q, n, e = pack.Parse(append(b, "more"...))
		if show(q) != show(p) || n != len(b) || e != api.OK {
			t.Errorf("%s: %s, %d, %v", s, show(q), n, e)
		}
		for k := range len(b) {
			if q, n, e := pack.Parse(b[:k]); show(q) != show(api.Mq{}) || n != 0 || e != api.ErrCut {
				t.Errorf("%d of %s: %s, %d, %v", k, s, show(q), n, e)
			}
		}
	}
}

// TestLengths: the remaining length has as few bytes as it can.
func TestLengths(t *testing.T) {
	for n, want := range map[int]string{126: "307e", 127: "307f", 128: "308001", 129: "308101"} {
		b, e := pack.Bytes(api.Mq{Kind: api.MqPublish, Topic: x(2), Payload: x(n - 4)})
		if head := len(want) / 2; hex.EncodeToString(b[:head]) != want || len(b) != head+n || e != api.OK {
			t.Errorf("%d: %x, %v", n, b[:4], e)
		}
		if p, k, e := pack.Parse(b); len(p.Payload) != n-4 || k != len(b) || e != api.OK {
			t.Errorf("%d: %v, %v", n, k, e)
		}
	}
}

// limits are packets at their limits.
func limits() []api.Mq {
	return []api.Mq{
		{Kind: api.MqConnect, Client: x(23), KeepAlive: 65535, Will: api.Will{Is: true, Topic: x(64), Payload: x(128), QoS: 2}, HasUser: true, User: x(64), HasPass: true, Pass: "\xff\x00" + x(62)},
		{Kind: api.MqConnect, HasUser: true, HasPass: true, Will: api.Will{Is: true, Topic: "x"}},
		{Kind: api.MqPublish, Topic: x(64), Payload: x(128), QoS: 1, ID: 65535}, {Kind: api.MqPublish, Topic: "é/$", Payload: "\xff", Retain: true},
		{Kind: api.MqSubscribe, ID: 65535, Wishes: slices.Repeat([]api.Wish{{Filter: x(64), QoS: 2}}, 8)}, {Kind: api.MqSubscribe, ID: 1, Wishes: []api.Wish{{Filter: "#/#/a+"}}},
		{Kind: api.MqSuback, ID: 65535, Codes: slices.Repeat([]int{128}, 8)},
		{Kind: api.MqUnsubscribe, ID: 65535, Filters: slices.Repeat([]string{x(64)}, 8)},
		{Kind: api.MqPingreq, Codes: []int{}, Wishes: []api.Wish{}, Filters: []string{}},
	}
}

func TestLimits(t *testing.T) {
	for _, p := range limits() {
		b, e := pack.Bytes(p)
		if e != api.OK || pack.Check(p) != api.OK || len(b) > api.MaxPacket {
			t.Errorf("%s: %v", show(p), e)
		}
		if q, n, e := pack.Parse(b); show(q) != show(p) || n != len(b) || e != api.OK {
			t.Errorf("%s: %s, %v", show(p), show(q), e)
		}
	}
}

// wrongOnes are packets that are not valid, each by one field.
func wrongOnes() []api.Mq {
	l := []api.Mq{
		{}, {Kind: -1}, {Kind: 15}, {Kind: 16 + api.MqPingreq}, {Kind: 1 << 40},
		{Kind: api.MqConnect, Client: x(24)}, {Kind: api.MqConnect, Client: "\xff"}, {Kind: api.MqConnect, Client: "\x00"}, {Kind: api.MqConnect, Client: "\xed\xa0\x80"}, {Kind: api.MqConnect, KeepAlive: -1}, {Kind: api.MqConnect, KeepAlive: 65536},
		{Kind: api.MqConnect, Will: api.Will{Topic: "a"}}, {Kind: api.MqConnect, Will: api.Will{QoS: 1}}, {Kind: api.MqConnect, Will: api.Will{Retain: true}}, {Kind: api.MqConnect, Will: api.Will{Payload: "x"}}, {Kind: api.MqConnect, Will: api.Will{Is: true}},
		{Kind: api.MqConnect, Will: api.Will{Is: true, Topic: x(65)}}, {Kind: api.MqConnect, Will: api.Will{Is: true, Topic: "\xff"}}, {Kind: api.MqConnect, Will: api.Will{Is: true, Topic: "a", Payload: x(129)}}, {Kind: api.MqConnect, Will: api.Will{Is: true, Topic: "a", QoS: 3}}, {Kind: api.MqConnect, Will: api.Will{Is: true, Topic: "a", QoS: -1}},
		{Kind: api.MqConnect, User: "u"}, {Kind: api.MqConnect, HasUser: true, User: x(65)}, {Kind: api.MqConnect, HasUser: true, User: "\xff"}, {Kind: api.MqConnect, HasUser: true, Pass: "p"}, {Kind: api.MqConnect, HasPass: true}, {Kind: api.MqConnect, HasUser: true, HasPass: true, Pass: x(65)},
		{Kind: api.MqConnack, Code: 6}, {Kind: api.MqConnack, Code: -1}, {Kind: api.MqConnack, Present: true, Code: 1},
		{Kind: api.MqPublish}, {Kind: api.MqPublish, Topic: x(65)}, {Kind: api.MqPublish, Topic: "a+"}, {Kind: api.MqPublish, Topic: "#"}, {Kind: api.MqPublish, Topic: "\xff"}, {Kind: api.MqPublish, Topic: "a\x00"}, {Kind: api.MqPublish, Topic: "a", Payload: x(129)},
		{Kind: api.MqPublish, Topic: "a", QoS: 3, ID: 1}, {Kind: api.MqPublish, Topic: "a", QoS: -1, ID: 1}, {Kind: api.MqPublish, Topic: "a", Dup: true}, {Kind: api.MqPublish, Topic: "a", ID: 1}, {Kind: api.MqPublish, Topic: "a", QoS: 1}, {Kind: api.MqPublish, Topic: "a", QoS: 2, ID: 65536}, {Kind: api.MqPublish, Topic: "a", QoS: 2, ID: -1},
		{Kind: api.MqSubscribe, ID: 1}, {Kind: api.MqSubscribe, Wishes: []api.Wish{{Filter: "a"}}}, {Kind: api.MqSubscribe, ID: 1, Wishes: make([]api.Wish, 1)}, {Kind: api.MqSubscribe, ID: 1, Wishes: slices.Repeat([]api.Wish{{Filter: "a"}}, 9)}, {Kind: api.MqSubscribe, ID: 1, Wishes: []api.Wish{{Filter: "a"}, {Filter: "a", QoS: 3}}}, {Kind: api.MqSubscribe, ID: 1, Wishes: []api.Wish{{Filter: x(65)}}}, {Kind: api.MqSubscribe, ID: 1, Wishes: []api.Wish{{Filter: "\xff"}}}, {Kind: api.MqSubscribe, ID: 1, Wishes: []api.Wish{{Filter: "a", QoS: -1}}},
		{Kind: api.MqSuback, ID: 1}, {Kind: api.MqSuback, Codes: []int{0}}, {Kind: api.MqSuback, ID: 1, Codes: []int{3}}, {Kind: api.MqSuback, ID: 1, Codes: []int{0, 127}}, {Kind: api.MqSuback, ID: 1, Codes: []int{-1}}, {Kind: api.MqSuback, ID: 1, Codes: []int{256}}, {Kind: api.MqSuback, ID: 1, Codes: make([]int, 9)},
		{Kind: api.MqUnsubscribe, ID: 1}, {Kind: api.MqUnsubscribe, Filters: []string{"a"}}, {Kind: api.MqUnsubscribe, ID: 1, Filters: []string{"a", ""}}, {Kind: api.MqUnsubscribe, ID: 1, Filters: slices.Repeat([]string{"a"}, 9)}, {Kind: api.MqUnsubscribe, ID: 1, Filters: []string{x(65)}}, {Kind: api.MqUnsubscribe, ID: 1, Filters: []string{"\x00"}},
	}
	for _, kind := range []int{api.MqPuback, api.MqPubrec, api.MqPubrel, api.MqPubcomp, api.MqUnsuback} {
		l = append(l, api.Mq{Kind: kind}, api.Mq{Kind: kind, ID: -1}, api.Mq{Kind: kind, ID: 65536})
	}
	return l
}

func TestWrongOnes(t *testing.T) {
	for _, p := range wrongOnes() {
		if e := pack.Check(p); e != api.ErrForm {
			t.Errorf("%s: %v", show(p), e)
		}
		if b, e := pack.Bytes(p); b != nil || e != api.ErrForm {
			t.Errorf("%s: %x, %v", show(p), b, e)
		}
	}
}

// TestForeignFields: a packet has no field that its kind doesn't have.
func TestForeignFields(t *testing.T) {
	own := map[int]string{
		api.MqConnect: "Client Clean KeepAlive Will User HasUser Pass HasPass", api.MqConnack: "Present Code", api.MqPublish: "Dup QoS Retain Topic ID Payload",
		api.MqPuback: "ID", api.MqPubrec: "ID", api.MqPubrel: "ID", api.MqPubcomp: "ID", api.MqUnsuback: "ID", api.MqSubscribe: "ID Wishes", api.MqSuback: "ID Codes", api.MqUnsubscribe: "ID Filters",
	}
	for name, f := range map[string]func(*api.Mq){
		"Client": func(p *api.Mq) { p.Client = "a" }, "Clean": func(p *api.Mq) { p.Clean = true }, "KeepAlive": func(p *api.Mq) { p.KeepAlive = 1 }, "Will": func(p *api.Mq) { p.Will.Retain = true },
		"User": func(p *api.Mq) { p.User = "a" }, "HasUser": func(p *api.Mq) { p.HasUser = true }, "Pass": func(p *api.Mq) { p.Pass = "a" }, "HasPass": func(p *api.Mq) { p.HasPass = true },
		"Present": func(p *api.Mq) { p.Present = true }, "Code": func(p *api.Mq) { p.Code = 1 }, "Codes": func(p *api.Mq) { p.Codes = []int{0} }, "Dup": func(p *api.Mq) { p.Dup = true }, "QoS": func(p *api.Mq) { p.QoS = 1 }, "Retain": func(p *api.Mq) { p.Retain = true },
		"Topic": func(p *api.Mq) { p.Topic = "a" }, "ID": func(p *api.Mq) { p.ID = 1 }, "Payload": func(p *api.Mq) { p.Payload = "a" }, "Wishes": func(p *api.Mq) { p.Wishes = []api.Wish{{Filter: "a"}} }, "Filters": func(p *api.Mq) { p.Filters = []string{"a"} },
	} {
		for _, p := range examples() {
			if slices.Contains(strings.Fields(own[p.Kind]), name) {
				continue
			}
			f(&p)
			if b, e := pack.Bytes(p); b != nil || e != api.ErrForm || pack.Check(p) != api.ErrForm {
				t.Errorf("kind %d with %s: %v", p.Kind, name, e)
			}
		}
	}
}

func TestParse(t *testing.T) {
	for _, c := range []struct {
		s string
		e api.Errno
	}{
		{"", api.ErrCut}, {"c0", api.ErrCut}, {"00", api.ErrCut}, {"c080", api.ErrCut}, {"c0808080", api.ErrCut}, {"30ffffff", api.ErrCut},
		{"c08000", api.ErrForm}, {"c0808000", api.ErrForm}, {"c080808000", api.ErrForm}, {"c080808080", api.ErrForm}, {"30ffffffff", api.ErrForm}, {"4082000102", api.ErrForm}, {"30ffffff00", api.ErrForm},
		{"30ffffff7f", api.ErrLimit}, {"00fe07", api.ErrLimit}, {"30fe07", api.ErrLimit}, {"30fd07", api.ErrCut}, {"00fd07", api.ErrCut}, {"c001", api.ErrCut},
		{"0000", api.ErrForm}, {"f000", api.ErrForm}, {"c100", api.ErrForm}, {"c00100", api.ErrForm}, {"e800", api.ErrForm},
		{"2002" + "0200", api.ErrForm}, {"2002" + "0006", api.ErrForm}, {"2002" + "0101", api.ErrForm}, {"2001" + "00", api.ErrForm}, {"2003" + "000000", api.ErrForm}, {"2000", api.ErrForm},
		{"4002" + "0000", api.ErrForm}, {"4001" + "01", api.ErrForm}, {"4003" + "000100", api.ErrForm}, {"4000", api.ErrForm}, {"4202" + "0001", api.ErrForm}, {"6002" + "0001", api.ErrForm}, {"6302" + "0001", api.ErrForm},
		{"3000", api.ErrForm}, {"3001" + "00", api.ErrForm}, {"3002" + "0000", api.ErrForm}, {"3003" + "000261", api.ErrForm}, {"3003" + "00012b", api.ErrForm}, {"3003" + "0001ff", api.ErrForm}, {"3003" + "000100", api.ErrForm},
		{"3803" + "000161", api.ErrForm}, {"3603" + "000161", api.ErrForm}, {"3605" + "0001610001", api.ErrForm}, {"3203" + "000161", api.ErrForm}, {"3205" + "0001610000", api.ErrForm}, {"3204" + "00016101", api.ErrForm},
		{"8202" + "0001", api.ErrForm}, {"8206" + "0001" + "00016103", api.ErrForm}, {"8206" + "0000" + "00016101", api.ErrForm}, {"8205" + "0001" + "000161", api.ErrForm}, {"8207" + "0001" + "0001610100", api.ErrForm}, {"8006" + "0001" + "00016101", api.ErrForm}, {"8205" + "0001" + "000001", api.ErrForm},
		{"9002" + "0001", api.ErrForm}, {"9003" + "000103", api.ErrForm}, {"900b" + "0001" + "000000000000000000", api.ErrForm}, {"9203" + "000100", api.ErrForm},
		{"a202" + "0001", api.ErrForm}, {"a204" + "00010000", api.ErrForm}, {"a205" + "0001000261", api.ErrForm}, {"a005" + "0001000161", api.ErrForm},
		{"100c" + "00044d515454" + "03" + "00" + "0000" + "0000", api.ErrForm}, {"100c" + "00044d515455" + "04" + "00" + "0000" + "0000", api.ErrForm}, {"100c" + "00044d515454" + "04" + "01" + "0000" + "0000", api.ErrForm},
		{"100c" + "00044d515454" + "04" + "08" + "0000" + "0000", api.ErrForm}, {"100c" + "00044d515454" + "04" + "20" + "0000" + "0000", api.ErrForm}, {"100e" + "00044d515454" + "04" + "40" + "0000" + "0000" + "0000", api.ErrForm},
		{"1012" + "00044d515454" + "04" + "1c" + "0000" + "0000" + "000161" + "000162", api.ErrForm}, {"100d" + "00044d515454" + "04" + "00" + "0000" + "0000" + "00", api.ErrForm}, {"100c" + "00044d515454" + "04" + "80" + "0000" + "0000", api.ErrForm},
		{"100b" + "00044d515454" + "04" + "00" + "0000" + "00", api.ErrForm}, {"110c" + "00044d515454" + "04" + "00" + "0000" + "0000", api.ErrForm}, {"1000", api.ErrForm}, {"1008" + "00064d5149736470", api.ErrForm},
	} {
		b, _ := hex.DecodeString(c.s)
		if p, n, e := pack.Parse(b); show(p) != show(api.Mq{}) || n != 0 || e != c.e {
			t.Errorf("%s: %s, %d, %v", c.s, show(p), n, e)
		}
	}
	over := append([]byte{0x30, 0xfd, 0x07}, make([]byte, 1021)...)
	if _, _, e := pack.Parse(over); e != api.ErrForm {
		t.Errorf("MaxPacket bytes: %v", e)
	}
	over[1] = 0xfe
	if _, _, e := pack.Parse(append(over, 0)); e != api.ErrLimit {
		t.Errorf("more than MaxPacket bytes: %v", e)
	}
}

// TestInverse: what Parse accepts, Bytes makes again, whatever bytes are tried.
func TestInverse(t *testing.T) {
	r := rand.New(rand.NewSource(1))
	var good [][]byte
	for _, p := range examples() {
		b, _ := pack.Bytes(p)
		good = append(good, b)
	}
	slices.SortFunc(good, bytes.Compare)
	accepted := 0
	for range 200000 {
		b := bytes.Clone(good[r.Intn(len(good))])
		for range 1 + r.Intn(3) {
			switch k := r.Intn(len(b)); r.Intn(3) {
			case 0:
				b[k] ^= 1 << r.Intn(8)
			case 1:
				b = append(slices.Insert(b, k, byte(r.Intn(256))), 0)
			case 2:
				if len(b) > 1 {
					b = slices.Delete(b, k, k+1)
				}
			}
		}
		was := bytes.Clone(b)
		p, n, e := pack.Parse(b)
		if !bytes.Equal(b, was) {
			t.Fatal("the argument was changed")
		}
		if e != api.OK {
			continue
		}
		accepted++
		c, e := pack.Bytes(p)
		if e != api.OK || n < 2 || !bytes.Equal(c, b[:n]) {
			t.Fatalf("%x: %s, %x", b, show(p), c)
		}
	}
	if accepted < 1000 {
		t.Error(accepted)
	}
}
