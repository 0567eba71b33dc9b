package broker

import (
	"slices"

	"kiosk/api"
	"kiosk/kept"
	"kiosk/outbox"
	"kiosk/subs"
	"kiosk/topic"
)

const (
	maxLink   = 1 << 40
	maxNumber = 1<<16 - 1
	maxIdle   = 1 << 20
	maxName   = 2 * api.MaxClient
)

func isLink(n int) bool { return n >= 1 && n <= maxLink }

// sessionOf is the index of the session with that link, or -1. No session has the link 0.
func sessionOf(b api.Broker, link int) int {
	if link == 0 {
		return -1
	}
	return slices.IndexFunc(b.Sessions, func(s api.Session) bool { return s.Link == link })
}

func knows(b api.Broker, link int) bool {
	return slices.Contains(b.Links, link) || sessionOf(b, link) >= 0
}

func openLinks(b api.Broker) int {
	n := len(b.Links)
	for _, s := range b.Sessions {
		if s.Link != 0 {
			n++
		}
	}
	return n
}

func validLinks(b api.Broker) (ok bool) {
	last := 0
	if len(b.Sessions) > api.MaxSessions || len(b.Links) > api.MaxLinks || openLinks(b) > api.MaxLinks {
		goto end
	}
	for _, link := range b.Links {
		if link <= last || !isLink(link) {
			goto end
		}
		last = link
	}
	for i, s := range b.Sessions {
		if s.Link != 0 && (!isLink(s.Link) || slices.Contains(b.Links, s.Link) || sessionOf(b, s.Link) != i) {
			goto end
		}
	}
	ok = true
end:
	return ok
}

func validSessions(b api.Broker) (ok bool) {
	last := "" // no name is empty
	if kept.Check(b.Kept) != api.OK {
		goto end
	}
	for _, s := range b.Sessions {
		if s.Client <= last || len(s.Client) > maxName || !validSession(s) {
			goto end
		}
		last = s.Client
	}
	ok = true
end:
	return ok
}

func validSession(s api.Session) (ok bool) {
	if s.Clean && s.Link == 0 || subs.Check(s.Subs) != api.OK || outbox.Check(s.Out) != api.OK || !validIn(s.In) {
		goto end
	}
	if !validWill(s.Will) || s.Keep < 0 || s.Keep > maxNumber || s.Idle < 0 || s.Idle > maxIdle {
		goto end
	}
	ok = s.Link != 0 || s.Will == api.Will{} && s.Keep == 0 && s.Idle == 0
end:
	return ok
}

func validIn(l []int) bool {
	last := 0
	for _, id := range l {
		if id <= last || id > maxNumber {
			return false
		}
		last = id
	}
	return len(l) <= api.MaxIn
}

func validWill(w api.Will) bool {
	if !w.Is {
		return w == api.Will{}
	}
	return topic.Name(w.Topic) == api.OK && len(w.Payload) <= api.MaxPayload && w.QoS >= 0 && w.QoS <= 2
}
