package twin_test

import (
	"fmt"
	"testing"

	"kiosk/api"
	"kiosk/twin"
)

func TestHost(t *testing.T) {
	h := api.Host{Count: 3, Conns: []api.Conn{{Link: 1, Out: []byte("out"), In: api.Buffer{Next: 5, Parts: []api.Part{{Seq: 7, Data: []byte("in")}}}, Timer: api.Timer{On: true, Left: 2}}}}
	was := fmt.Sprint(h)
	g := twin.Host(h)
	if fmt.Sprint(g) != was {
		t.Error(g)
	}
	g.Conns[0].In.Parts[0].Data[0] = 'X'
	g.Conns[0].In.Parts[0].Seq = 9
	g.Conns[0].Out[0] = 'X'
	g.Conns[0].Link = 9
	if fmt.Sprint(h) != was {
		t.Error("something is shared:", h)
	}
}

func TestBroker(t *testing.T) {
	b := api.Broker{
		Links:    []int{1},
		Sessions: []api.Session{{Client: "a", Subs: []api.Wish{{Filter: "f"}}, In: []int{5}, Will: api.Will{Is: true}, Out: api.Outbox{Last: 1, Flight: []api.Flight{{ID: 1}}, Queue: []api.Message{{Topic: "q"}}}}},
		Kept:     []api.Message{{Topic: "k"}},
	}
	was := fmt.Sprint(b)
	c := twin.Broker(b)
	if fmt.Sprint(c) != was {
		t.Error(c)
	}
	c.Links[0] = 9
	c.Kept[0].Topic = "X"
	s := &c.Sessions[0]
	s.Subs[0].QoS = 2
	s.In[0] = 9
	s.Out.Flight[0].Rec = true
	s.Out.Queue[0].QoS = 2
	s.Client = "X"
	if fmt.Sprint(b) != was {
		t.Error("something is shared:", b)
	}
}
