package same_test

import (
	"testing"

	"kiosk/api"
	"kiosk/same"
)

func some() api.Broker {
	return api.Broker{
		Links: []int{1},
		Sessions: []api.Session{{Client: "a", Clean: true, Link: 2, Subs: []api.Wish{{Filter: "x", QoS: 1}}, In: []int{1}, Will: api.Will{Is: true, Topic: "w"}, Keep: 3, Idle: 4,
			Out: api.Outbox{Last: 5, Flight: []api.Flight{{ID: 5, Message: api.Message{Topic: "t", QoS: 1}}}, Queue: []api.Message{{Topic: "u", QoS: 2}}}}},
		Kept: []api.Message{{Topic: "k", Payload: "p", Retain: true}},
	}
}

func TestBroker(t *testing.T) {
	if !same.Broker(some(), some()) || !same.Broker(api.Broker{}, api.Broker{Links: []int{}, Sessions: []api.Session{}, Kept: []api.Message{}}) {
		t.Error("equal ones differ")
	}
	for i, f := range []func(*api.Broker){
		func(b *api.Broker) { b.Links = nil }, func(b *api.Broker) { b.Sessions = nil }, func(b *api.Broker) { b.Kept = nil }, func(b *api.Broker) { b.Kept[0].Payload = "q" }, func(b *api.Broker) { b.Links[0] = 9 },
		func(b *api.Broker) { b.Sessions[0].Client = "b" }, func(b *api.Broker) { b.Sessions[0].Clean = false }, func(b *api.Broker) { b.Sessions[0].Link = 0 }, func(b *api.Broker) { b.Sessions[0].Subs[0].QoS = 2 }, func(b *api.Broker) { b.Sessions[0].In = []int{2} },
		func(b *api.Broker) { b.Sessions[0].Will.QoS = 1 }, func(b *api.Broker) { b.Sessions[0].Keep = 0 }, func(b *api.Broker) { b.Sessions[0].Idle = 0 }, func(b *api.Broker) { b.Sessions[0].Out.Last = 6 },
		func(b *api.Broker) { b.Sessions[0].Out.Flight[0].Rec = true }, func(b *api.Broker) { b.Sessions[0].Out.Queue[0].Retain = true }, func(b *api.Broker) { b.Sessions[0].Out.Queue = nil },
	} {
		b := some()
		f(&b)
		if same.Broker(b, some()) || same.Broker(some(), b) {
			t.Errorf("%d: different ones are equal", i)
		}
	}
}
