// Package same: whether two states of the broker are equal; a nil list is as good as an empty one.
package same

import (
	"slices"

	"kiosk/api"
)

func Broker(a, b api.Broker) bool {
	return slices.Equal(a.Links, b.Links) && slices.EqualFunc(a.Sessions, b.Sessions, Session) && slices.Equal(a.Kept, b.Kept)
}

func Session(a, b api.Session) bool {
	return a.Client == b.Client && a.Clean == b.Clean && a.Link == b.Link && a.Will == b.Will && a.Keep == b.Keep && a.Idle == b.Idle &&
		slices.Equal(a.Subs, b.Subs) && slices.Equal(a.In, b.In) && outbox(a.Out, b.Out)
}

func outbox(a, b api.Outbox) bool {
	return a.Last == b.Last && slices.Equal(a.Flight, b.Flight) && slices.Equal(a.Queue, b.Queue)
}
