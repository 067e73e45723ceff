package codec_test

import (
	"fmt"

	"vergers/api"
	"vergers/codec"
)

func Example() {
	b, code := codec.Encode(api.Record{Epoch: 3, Order: api.Order{Kind: api.OTake, Now: 258, Worker: 1, Term: 7}})
	fmt.Println(b, code)
	fmt.Println(codec.Decode(b))
	fmt.Println(codec.Decode(b[:8]))
	fmt.Println(codec.All(append(b, 3, 2, 1)))
	// Output:
	// [3 2 1 2 0 0 1 7 82] 0
	// {3 {2 258 0 0 1 7}} 0
	// {0 {0 0 0 0 0 0}} 7
	// [{3 {2 258 0 0 1 7}}]
}
