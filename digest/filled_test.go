package digest

import (
	"bytes"
	"testing"
)

// The bits of so many bytes as reach the count's high half are too many to write in a test.
func TestFilledCount(t *testing.T) { // P2.1
	for _, c := range []struct {
		length int
		want   []byte
	}{
		{0, []byte{0, 0, 0, 0, 0, 0, 0, 0}},
		{1 << 20, []byte{0, 0, 0, 0, 0, 0x80, 0, 0}},
		{1<<29 - 1, []byte{0, 0, 0, 0, 0xFF, 0xFF, 0xFF, 0xF8}},
		{1 << 29, []byte{0, 0, 0, 1, 0, 0, 0, 0}},
		{1<<31 - 1, []byte{0, 0, 0, 3, 0xFF, 0xFF, 0xFF, 0xF8}},
	} {
		h := New()
		h.length = c.length
		h.end()
		if got := h.open[blockOctets-8:]; !bytes.Equal(got, c.want) {
			t.Errorf("the count of %d bytes: %v, want %v", c.length, got, c.want)
		}
		if h.length%blockOctets != 0 {
			t.Errorf("%d bytes are filled to %d", c.length, h.length)
		}
	}
}
