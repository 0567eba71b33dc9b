package outbox

import (
	"slices"

	"kiosk/api"
	"kiosk/twin"
)

func valid(m api.Message) bool {
	return len(m.Topic) >= 1 && len(m.Topic) <= api.MaxTopic && len(m.Payload) <= api.MaxPayload && (m.QoS == 1 || m.QoS == 2)
}

// find is the index of the element with that ID, or -1.
func find(l []api.Flight, id int) int {
	return slices.IndexFunc(l, func(f api.Flight) bool { return f.ID == id })
}

func publish(f api.Flight) api.Mq {
	m := f.Message
	return api.Mq{Kind: api.MqPublish, Topic: m.Topic, Payload: m.Payload, QoS: m.QoS, Retain: m.Retain, ID: f.ID}
}

func release(id int) api.Mq {
	return api.Mq{Kind: api.MqPubrel, ID: id}
}

// fill moves messages from the queue into flight, as many as have room there, and returns them as packets.
func fill(o *api.Outbox) []api.Mq {
	var out []api.Mq
	for len(o.Flight) < api.MaxWindowQ && len(o.Queue) > 0 {
		o.Last = nextID(o.Last, o.Flight)
		f := api.Flight{ID: o.Last, Message: o.Queue[0]}
		o.Queue = slices.Delete(o.Queue, 0, 1)
		o.Flight = append(o.Flight, f)
		out = append(out, publish(f))
	}
	return out
}

// nextID is the first identifier after last that isn't in flight.
func nextID(last int, l []api.Flight) int {
	for {
		last = last%maxID + 1
		if find(l, last) < 0 {
			return last
		}
	}
}

// remove ends an element that is as done says, and sends what now has room.
func remove(o api.Outbox, id int, done func(api.Flight) bool) (api.Outbox, []api.Mq, api.Errno) {
	if Check(o) != api.OK {
		return api.Outbox{}, nil, api.ErrForm
	}
	at := find(o.Flight, id)
	if at < 0 || !done(o.Flight[at]) {
		return api.Outbox{}, nil, api.ErrNone
	}
	o = twin.Outbox(o)
	o.Flight = slices.Delete(o.Flight, at, at+1)
	out := fill(&o)
	return o, out, api.OK
}
