package store

import (
	"slices"

	"kiosk/api"
	"kiosk/broker"
	"kiosk/crc"
	"kiosk/num"
	"kiosk/record"
)

// replay makes the broker that the records of a log tell of: first the whole state, if the log has it, then the changes.
func replay(l []string) (b api.Broker, sum uint32, e api.Errno) {
	var whole []byte
	var kind byte
	var body []byte
	var ok bool
	last := byte(kindWhole)
	e = api.ErrForm
	for i, s := range l {
		kind, body, sum, ok = unseal(sum, s)
		if !ok {
			goto wrong
		}
		switch {
		case kind == kindChange && last != kindPart:
			ok = apply(&b, body)
		case (kind == kindPart || kind == kindWhole) && (i == 0 || last == kindPart):
			whole = append(whole, body...)
			if kind == kindWhole {
				b, e = record.Parse(whole)
				ok = e == api.OK
				e = api.ErrForm
			}
		default:
			ok = false
		}
		if !ok {
			goto wrong
		}
		last = kind
	}
	if last == kindPart || broker.Check(b) != api.OK {
		goto wrong
	}
	return b, sum, api.OK
wrong:
	return api.Broker{}, 0, e
}

// unseal takes a record apart whose predecessor had that sum.
func unseal(before uint32, s string) (kind byte, body []byte, sum uint32, ok bool) {
	x := []byte(s)
	n := len(x) - sumBytes
	if n < headBytes {
		return 0, nil, 0, false
	}
	sum = crc.Sum(before, x[:n])
	return x[0], x[headBytes:n], sum, int(sum) == num.Read(x[n:])
}

// apply changes a broker as a record says.
func apply(b *api.Broker, x []byte) (ok bool) {
	for len(x) > 0 {
		if len(x) < 3 {
			goto end
		}
		do, n := int(x[0]), num.Read(x[1:3])
		x = x[3:]
		if n > len(x) || !applyItem(b, do, x[:n]) {
			goto end
		}
		x = x[n:]
	}
	ok = true
end:
	return ok
}

func applyItem(b *api.Broker, do int, x []byte) bool {
	switch do {
	case doPut:
		part, e := record.Parse(x)
		for _, s := range part.Sessions {
			putSession(b, s)
		}
		for _, m := range part.Kept {
			putKept(b, m)
		}
		return e == api.OK
	case doDropSession:
		at, there := placeSession(b.Sessions, string(x))
		if there {
			b.Sessions = slices.Delete(b.Sessions, at, at+1)
		}
		return there
	case doDropKept:
		at, there := placeKept(b.Kept, string(x))
		if there {
			b.Kept = slices.Delete(b.Kept, at, at+1)
		}
		return there
	}
	return false
}

func putSession(b *api.Broker, s api.Session) {
	at, there := placeSession(b.Sessions, s.Client)
	if there {
		b.Sessions[at] = s
	} else {
		b.Sessions = slices.Insert(b.Sessions, at, s)
	}
}

func putKept(b *api.Broker, m api.Message) {
	at, there := placeKept(b.Kept, m.Topic)
	if there {
		b.Kept[at] = m
	} else {
		b.Kept = slices.Insert(b.Kept, at, m)
	}
}
