package store

import (
	"slices"
	"strings"

	"kiosk/api"
	"kiosk/crc"
	"kiosk/num"
	"kiosk/record"
	"kiosk/same"
)

// Kinds of records.
const (
	kindPart   = 'p' // of the whole state, and there is more of it
	kindWhole  = 'w' // the last part of the whole state
	kindChange = 'c'
)

// What a change does.
const (
	doPut         = 1 // a broker that has only what is new follows
	doDropSession = 2 // its name follows
	doDropKept    = 3 // its topic follows
)

const (
	headBytes = 1
	sumBytes  = 4
	maxBody   = api.MaxRecord - headBytes - sumBytes
)

// seal makes a record of a body. Its checksum goes on from that of the record before, so none can be left out, put in or exchanged unseen.
func seal(sum uint32, kind byte, body []byte) ([]byte, uint32) {
	x := append([]byte{kind}, body...)
	sum = crc.Sum(sum, x)
	return num.Append(x, sumBytes, int(sum)), sum
}

func appendItem(x []byte, do int, b []byte) []byte {
	x = num.Append(x, 1, do)
	return append(num.Append(x, 2, len(b)), b...)
}

func appendPut(x []byte, b api.Broker) []byte {
	y, _ := record.Bytes(b)
	return appendItem(x, doPut, y)
}

// change tells what makes a durable broker of another one, a session or a retained message at a time. It is empty if they are equal.
func change(old, now api.Broker) []byte {
	var x []byte
	for _, s := range old.Sessions {
		if _, there := placeSession(now.Sessions, s.Client); !there {
			x = appendItem(x, doDropSession, []byte(s.Client))
		}
	}
	for _, m := range old.Kept {
		if _, there := placeKept(now.Kept, m.Topic); !there {
			x = appendItem(x, doDropKept, []byte(m.Topic))
		}
	}
	for _, s := range now.Sessions {
		if at, there := placeSession(old.Sessions, s.Client); !there || !same.Session(s, old.Sessions[at]) {
			x = appendPut(x, api.Broker{Sessions: []api.Session{s}})
		}
	}
	for _, m := range now.Kept {
		if at, there := placeKept(old.Kept, m.Topic); !there || m != old.Kept[at] {
			x = appendPut(x, api.Broker{Kept: []api.Message{m}})
		}
	}
	return x
}

func placeSession(l []api.Session, client string) (int, bool) {
	return slices.BinarySearchFunc(l, client, func(s api.Session, c string) int { return strings.Compare(s.Client, c) })
}

func placeKept(l []api.Message, topic string) (int, bool) {
	return slices.BinarySearchFunc(l, topic, func(m api.Message, t string) int { return strings.Compare(m.Topic, t) })
}
