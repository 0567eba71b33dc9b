package num_test

import (
	"fmt"
	"testing"

	"kiosk/num"
)

func TestNumbers(t *testing.T) {
	b := num.Append(nil, 2, 0x1234)
	b = num.Append(b, 6, 0x010203040506)
	b = num.Append(b, 1, 0xffee)
	if s := fmt.Sprintf("%x", b); s != "1234010203040506ee" {
		t.Error(s)
	}
	if v := num.Read(b[2:8]); v != 0x010203040506 {
		t.Errorf("%x", v)
	}
	if num.Read(nil) != 0 || num.Read([]byte{255, 255}) != 65535 {
		t.Error("nothing, or the greatest")
	}
}
