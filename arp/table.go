package arp

import (
	"cmp"
	"slices"

	"kiosk/api"
	"kiosk/num"
)

func isMac(v int) bool { return v >= 0 && v < macs }
func isIP(v int) bool  { return v >= 0 && v < ips }

// head is what a packet of that kind begins with: the lengths of the addresses are 6 and 4.
func head(kind int) []byte {
	b := make([]byte, 0, size)
	b = num.Append(b, 2, ethernet)
	b = num.Append(b, 2, ipv4)
	b = append(b, 6, 4)
	return num.Append(b, 2, kind)
}

func isTable(l []api.Neighbour) (ok bool) {
	last := -1
	if len(l) > api.MaxArp {
		goto end
	}
	for _, n := range l {
		if n.IP <= last || !isIP(n.IP) || !isMac(n.Mac) || n.Age < 0 || n.Age > api.ArpAge {
			goto end
		}
		last = n.IP
	}
	ok = true
end:
	return ok
}

// place finds the element for ip, or where it belongs.
func place(l []api.Neighbour, ip int) (int, bool) {
	return slices.BinarySearchFunc(l, ip, func(n api.Neighbour, ip int) int { return cmp.Compare(n.IP, ip) })
}

func withoutOldest(l []api.Neighbour) []api.Neighbour {
	oldest := 0
	for i, n := range l {
		if n.Age > l[oldest].Age {
			oldest = i
		}
	}
	return slices.Delete(l, oldest, oldest+1)
}
