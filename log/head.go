package log

import (
	"kiosk/api"
	"kiosk/crc"
	"kiosk/num"
)

const (
	slots       = 2
	magic       = "kiosklog"
	sumBytes    = 4
	foreignMark = "what no log has written"
)

// head tells which region counts, and which epochs.
type head struct {
	epoch  int // the last one: only records up to it count
	since  int // the one in which the region was begun: only records from it on count
	region int
}

func (h head) encode() []byte {
	b := []byte(magic)
	b = num.Append(b, 8, h.epoch)
	b = num.Append(b, 8, h.since)
	b = num.Append(b, 1, h.region)
	b = append(b, make([]byte, api.Sector-sumBytes-len(b))...)
	return num.Append(b, sumBytes, int(crc.Sum(0, b)))
}

func decodeHead(b []byte) (head, bool) {
	body := b[:api.Sector-sumBytes]
	h := head{epoch: num.Read(b[8:16]), since: num.Read(b[16:24]), region: int(b[24])}
	ok := string(b[:len(magic)]) == magic && int(crc.Sum(0, body)) == num.Read(b[len(body):]) && h.region < slots
	return h, ok
}

// findHead finds the newest head that is whole, and whether the disk was written by somebody else: it then has no head, and not what is left when the very first one was torn.
func (l *Log) findHead() api.Errno {
	var heads [slots][]byte
	found := false
	for slot := range slots {
		b, e := read(l.d, slot)
		if e != api.OK {
			return e
		}
		heads[slot] = b
		h, ok := decodeHead(b)
		if ok && (!found || h.epoch > l.head.epoch) {
			found = true
			l.head, l.slot = h, slot
		}
	}
	if !found {
		l.slot = slots - 1 // so the first one goes into slot 0
		l.foreign = !tornFrom(heads[0], head{epoch: 1}.encode()) || !tornFrom(heads[1], nil)
	}
	return api.OK
}

// tornFrom tells whether b is a beginning of whole, and zeros after that.
func tornFrom(b, whole []byte) bool {
	k := 0
	for k < len(whole) && b[k] == whole[k] {
		k++
	}
	for _, x := range b[k:] {
		if x != 0 {
			return false
		}
	}
	return true
}

// begin begins an epoch, before anything is written. What was there on a disk of somebody else's gives way to a log here, and not before.
func (l *Log) begin() api.Errno {
	if l.begun {
		return api.OK
	}
	e := api.OK
	if l.foreign {
		e = l.replace(l.records)
	} else {
		e = l.putHead(head{epoch: l.head.epoch + 1, since: l.head.since, region: l.head.region})
	}
	l.begun = e == api.OK
	return e
}

// replace writes records into the other region, which counts from then on.
func (l *Log) replace(s []string) api.Errno {
	next := head{epoch: l.head.epoch + 1, since: l.head.epoch + 1, region: 1 - l.head.region}
	tail, e := 0, api.OK
	for _, x := range s {
		if tail, e = l.put(next.region, tail, next.epoch, x); e != api.OK {
			return e
		}
	}
	if e = flush(l.d); e != api.OK {
		return e
	}
	l.tail = tail
	return l.putHead(next)
}

// putHead makes h the head that counts, durably; the one before it stays until then.
func (l *Log) putHead(h head) api.Errno {
	slot := (l.slot + 1) % slots
	if e := write(l.d, slot, h.encode()); e != api.OK {
		return e
	}
	if e := flush(l.d); e != api.OK {
		return e
	}
	l.head, l.slot = h, slot
	return api.OK
}
