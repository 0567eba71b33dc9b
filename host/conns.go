package host

import (
	"slices"

	"kiosk/api"
	"kiosk/tcp"
)

func validConns(h api.Host) (ok bool) {
	last := 0
	for i, c := range h.Conns {
		if c.Link <= last || c.Link > h.Count || c.Port != api.Port || c.State == api.Closed || tcp.Check(c) != api.OK {
			goto end
		}
		for _, d := range h.Conns[:i] {
			if d.PeerIP == c.PeerIP && d.PeerPort == c.PeerPort {
				goto end
			}
		}
		last = c.Link
	}
	ok = true
end:
	return ok
}

// replace puts c where its predecessor was; a closed connection is removed.
func replace(g *api.Host, at int, c api.Conn) {
	if c.State == api.Closed {
		g.Conns = slices.Delete(g.Conns, at, at+1)
	} else {
		g.Conns[at] = c
	}
}

func sentTo(ip int, l []api.Seg) []Sent {
	var out []Sent
	for _, s := range l {
		out = append(out, Sent{IP: ip, Seg: s})
	}
	return out
}
