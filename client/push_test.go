package client

import (
	"bytes"
	"fmt"
	"testing"

	"locket/api"
	"locket/entry"
	"locket/frame"
	"locket/replay"
	"locket/suite"
)

// P18.4: a frame for each MaxBatch of the pending records. More than one frame's are never pending as the limits stand, so this goes ahead of Issue.
func TestPushOfMoreThanABatch(t *testing.T) {
	for _, n := range []int{0, 1, api.MaxBatch - 1, api.MaxBatch, api.MaxBatch + 1, 2 * api.MaxBatch, 2*api.MaxBatch + 1} {
		c, e := New(suite.Signs(), replay.Who{Collection: 5, Founder: 1, Who: 1})
		if e != api.OK {
			t.Fatal(e)
		}
		var want [][]byte
		for i := range n {
			record := fmt.Appendf(nil, "record %d", i)
			c.pending = append(c.pending, waiting{Entry: entry.Entry{Kind: entry.Put, Writer: 1, Seq: i + 1}, record: record})
			want = append(want, bytes.Clone(record))
		}
		frames, e := c.Push()
		if e != api.OK || len(frames) != (n+api.MaxBatch-1)/api.MaxBatch {
			t.Fatalf("%d pending: %d frames, error %d", n, len(frames), e)
		}
		for i, b := range frames {
			f := frame.Frame{Kind: 1, Collection: 5, Links: want[i*api.MaxBatch : min(n, (i+1)*api.MaxBatch)]}
			if got, e := frame.Decode(b); e != api.OK || !frame.Same(got, f) {
				t.Errorf("%d pending: frame %d is %+v, error %d", n, i, got, e)
			}
		}
		if len(c.pending) != n {
			t.Errorf("%d pending: %d are left", n, len(c.pending))
		}
	}
}
