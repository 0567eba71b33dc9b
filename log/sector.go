package log

import (
	"kiosk/api"
	"kiosk/crc"
	"kiosk/disk"
	"kiosk/num"
)

const (
	regionSectors = (api.MaxSectors - slots) / 2
	pieceHead     = 16
	pieceBytes    = api.Sector - pieceHead
	pieceMark     = 'k' // a sector of zeros is none
)

// piece is what a sector holds of a record. Each has its own checksum, so one that was torn is no piece.
type piece struct {
	epoch int
	left  int // how many pieces of the record follow
	data  string
}

func (p piece) encode(sector int) []byte {
	b := []byte{pieceMark, byte(len(p.data))}
	b = num.Append(b, 2, p.left)
	b = num.Append(b, 8, p.epoch)
	b = append(b, p.data...)
	b = append(b, make([]byte, api.Sector-sumBytes-len(b))...)
	return num.Append(b, sumBytes, int(crc.Sum(uint32(sector), b)))
}

func decodePiece(b []byte, sector int) (piece, bool) {
	body := b[:api.Sector-sumBytes]
	n := int(b[1])
	if b[0] != pieceMark || n > pieceBytes || int(crc.Sum(uint32(sector), body)) != num.Read(b[len(body):]) {
		return piece{}, false
	}
	return piece{left: num.Read(b[2:4]), epoch: num.Read(b[4:12]), data: string(b[12 : 12+n])}, true
}

func sectorOf(region, at int) int { return slots + region*regionSectors + at }

// put writes a record into a region, and tells where the next one goes.
func (l *Log) put(region, at, epoch int, s string) (int, api.Errno) {
	pieces := max(1, (len(s)+pieceBytes-1)/pieceBytes)
	for k := range pieces {
		part := s[k*pieceBytes : min((k+1)*pieceBytes, len(s))]
		sector := sectorOf(region, at)
		if e := write(l.d, sector, piece{epoch: epoch, left: pieces - 1 - k, data: part}.encode(sector)); e != api.OK {
			return 0, e
		}
		at++
	}
	return at, api.OK
}

// scan reads the records of the region that counts, up to the first that isn't whole.
func (l *Log) scan() api.Errno {
	epoch := l.head.since
	if l.foreign {
		l.records, l.size = []string{foreignMark}, cost(foreignMark)
		goto end
	}
	for {
		s, p, e := l.record(epoch)
		if e != api.OK {
			return e
		}
		if p == nil {
			goto end
		}
		epoch = p.epoch
		l.records = append(l.records, s)
		l.size += cost(s)
	}
end:
	return api.OK
}

// record reads the record at the tail, and returns its last piece, or nil if it isn't whole. Its epoch is not before the given one.
func (l *Log) record(epoch int) (s string, last *piece, e api.Errno) {
	var b []byte
	var all []byte
	at := l.tail
	least, most, left := epoch, l.head.epoch, -1
	for left != 0 && at < regionSectors {
		sector := sectorOf(l.head.region, at)
		if b, e = read(l.d, sector); e != api.OK {
			goto end
		}
		p, ok := decodePiece(b, sector)
		if !ok || p.epoch < least || p.epoch > most || left > 0 && p.left != left-1 {
			goto end
		}
		least, most, left = p.epoch, p.epoch, p.left
		all = append(all, p.data...)
		last = &p
		at++
	}
	if left == 0 {
		l.tail = at
		return string(all), last, api.OK
	}
end:
	return "", nil, e
}

// The requests of the disk are completed one after another: the newest is the last of those that are pending.
func complete(d *disk.Disk) ([]byte, api.Errno) {
	_, b, e := d.Complete(len(d.Pending()) - 1)
	return b, e
}

func write(d *disk.Disk, n int, b []byte) api.Errno {
	if _, e := d.Write(n, b); e != api.OK {
		return e
	}
	_, e := complete(d)
	return e
}

func read(d *disk.Disk, n int) ([]byte, api.Errno) {
	if _, e := d.Read(n); e != api.OK {
		return nil, e
	}
	return complete(d)
}

func flush(d *disk.Disk) api.Errno {
	if _, e := d.Flush(); e != api.OK {
		return e
	}
	_, e := complete(d)
	return e
}
