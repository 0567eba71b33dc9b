package pack

import (
	"kiosk/api"
	"kiosk/num"
)

// Flags of a connection.
const (
	flagClean      = 2
	flagWill       = 4
	flagWillRetain = 32
	flagPass       = 64
	flagUser       = 128
	willQoSShift   = 3
)

// Flags of a publication.
const (
	flagRetain = 1
	flagDup    = 8
	qosShift   = 1
)

const (
	protocol = "MQTT"
	level    = 4
	more     = 128 // a byte of the remaining length that isn't the last
)

// flag is f if on, else 0.
func flag(on bool, f int) int {
	if on {
		return f
	}
	return 0
}

func flagsOf(p api.Mq) int {
	switch p.Kind {
	case api.MqPublish:
		return flag(p.Dup, flagDup) | p.QoS<<qosShift | flag(p.Retain, flagRetain)
	case api.MqPubrel, api.MqSubscribe, api.MqUnsubscribe:
		return 2
	}
	return 0
}

func connectFlags(p api.Mq) int {
	return flag(p.Clean, flagClean) | flag(p.Will.Is, flagWill) | p.Will.QoS<<willQoSShift |
		flag(p.Will.Retain, flagWillRetain) | flag(p.HasPass, flagPass) | flag(p.HasUser, flagUser)
}

func appendLength(b []byte, n int) []byte {
	for n >= more {
		b = append(b, byte(n%more|more))
		n /= more
	}
	return append(b, byte(n))
}

func appendString(b []byte, s string) []byte {
	return append(num.Append(b, 2, len(s)), s...)
}

// bodyOf is what follows the remaining length.
func bodyOf(p api.Mq) []byte {
	var b []byte
	switch p.Kind {
	case api.MqConnect:
		return connectBody(p)
	case api.MqConnack:
		return append(b, byte(flag(p.Present, 1)), byte(p.Code))
	case api.MqPublish:
		b = appendString(b, p.Topic)
		if p.QoS > 0 {
			b = num.Append(b, 2, p.ID)
		}
		return append(b, p.Payload...)
	case api.MqPingreq, api.MqPingresp, api.MqDisconnect:
		return nil
	}
	b = num.Append(b, 2, p.ID)
	for _, w := range p.Wishes {
		b = append(appendString(b, w.Filter), byte(w.QoS))
	}
	for _, c := range p.Codes {
		b = append(b, byte(c))
	}
	for _, f := range p.Filters {
		b = appendString(b, f)
	}
	return b
}

func connectBody(p api.Mq) []byte {
	b := appendString(nil, protocol)
	b = append(b, level, byte(connectFlags(p)))
	b = num.Append(b, 2, p.KeepAlive)
	b = appendString(b, p.Client)
	if p.Will.Is {
		b = appendString(appendString(b, p.Will.Topic), p.Will.Payload)
	}
	if p.HasUser {
		b = appendString(b, p.User)
	}
	if p.HasPass {
		b = appendString(b, p.Pass)
	}
	return b
}
