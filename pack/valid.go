package pack

import (
	"strings"
	"unicode/utf8"

	"kiosk/api"
)

const maxNumber = 1<<16 - 1

// isText tells whether s is a text of least to most bytes.
func isText(s string, least, most int) bool {
	return len(s) >= least && len(s) <= most && utf8.ValidString(s) && !strings.Contains(s, "\x00")
}

func isTopic(s string) bool {
	return isText(s, 1, api.MaxTopic) && !strings.ContainsAny(s, "+#")
}

func isQoS(q int) bool { return q >= 0 && q <= 2 }

func isID(id int) bool { return id >= 1 && id <= maxNumber }

func isCount(n int) bool { return n >= 1 && n <= api.MaxWishes }

// valid holds the fields that the kind has against their conditions.
func valid(p api.Mq) bool {
	switch p.Kind {
	case api.MqConnect:
		return validConnect(p)
	case api.MqConnack:
		return p.Code >= 0 && p.Code <= 5 && (!p.Present || p.Code == 0)
	case api.MqPublish:
		return validPublish(p)
	case api.MqPuback, api.MqPubrec, api.MqPubrel, api.MqPubcomp, api.MqUnsuback:
		return isID(p.ID)
	case api.MqSubscribe:
		return isID(p.ID) && isCount(len(p.Wishes)) && validWishes(p.Wishes)
	case api.MqSuback:
		return isID(p.ID) && isCount(len(p.Codes)) && validCodes(p.Codes)
	case api.MqUnsubscribe:
		return isID(p.ID) && isCount(len(p.Filters)) && validFilters(p.Filters)
	case api.MqPingreq, api.MqPingresp, api.MqDisconnect:
		return true
	}
	return false
}

func validConnect(p api.Mq) (ok bool) {
	if !isText(p.Client, 0, api.MaxClient) || p.KeepAlive < 0 || p.KeepAlive > maxNumber || !validWill(p.Will) {
		goto end
	}
	if !isText(p.User, 0, api.MaxText) || !p.HasUser && p.User != "" {
		goto end
	}
	if len(p.Pass) > api.MaxText || !p.HasPass && p.Pass != "" || p.HasPass && !p.HasUser {
		goto end
	}
	ok = true
end:
	return ok
}

func validWill(w api.Will) bool {
	if !w.Is {
		return w == api.Will{}
	}
	return isText(w.Topic, 1, api.MaxTopic) && len(w.Payload) <= api.MaxPayload && isQoS(w.QoS)
}

func validPublish(p api.Mq) bool {
	if !isTopic(p.Topic) || !isQoS(p.QoS) || len(p.Payload) > api.MaxPayload {
		return false
	}
	if p.QoS == 0 {
		return !p.Dup && p.ID == 0
	}
	return isID(p.ID)
}

func validWishes(l []api.Wish) bool {
	for _, w := range l {
		if !isText(w.Filter, 1, api.MaxTopic) || !isQoS(w.QoS) {
			return false
		}
	}
	return true
}

func validCodes(l []int) bool {
	for _, c := range l {
		if !isQoS(c) && c != 128 {
			return false
		}
	}
	return true
}

func validFilters(l []string) bool {
	for _, f := range l {
		if !isText(f, 1, api.MaxTopic) {
			return false
		}
	}
	return true
}

// bare tells whether all fields that the kind does not have are 0, false or empty.
func bare(p api.Mq) bool {
	q := p
	switch p.Kind {
	case api.MqConnect:
		q.Client, q.Clean, q.KeepAlive, q.Will = "", false, 0, api.Will{}
		q.User, q.HasUser, q.Pass, q.HasPass = "", false, "", false
	case api.MqConnack:
		q.Present, q.Code = false, 0
	case api.MqPublish:
		q.Topic, q.QoS, q.Retain, q.Payload, q.Dup, q.ID = "", 0, false, "", false, 0
	case api.MqPuback, api.MqPubrec, api.MqPubrel, api.MqPubcomp, api.MqUnsuback:
		q.ID = 0
	case api.MqSubscribe:
		q.ID, q.Wishes = 0, nil
	case api.MqSuback:
		q.ID, q.Codes = 0, nil
	case api.MqUnsubscribe:
		q.ID, q.Filters = 0, nil
	}
	return nothing(q)
}

// nothing tells whether all fields but Kind are 0, false or empty.
func nothing(p api.Mq) bool {
	return p.Client == "" && !p.Clean && p.KeepAlive == 0 && p.Will == api.Will{} &&
		p.User == "" && !p.HasUser && p.Pass == "" && !p.HasPass &&
		!p.Present && p.Code == 0 && len(p.Codes) == 0 &&
		!p.Dup && p.QoS == 0 && !p.Retain && p.Topic == "" && p.ID == 0 && p.Payload == "" &&
		len(p.Wishes) == 0 && len(p.Filters) == 0
}
