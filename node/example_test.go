package node_test

import (
	"fmt"

	"vergers/api"
	"vergers/disk"
	"vergers/node"
)

func Example() {
	d := disk.New()
	first, _ := node.Open(d)
	fmt.Println(first.Order(api.Order{Kind: api.OAdd, Job: 2}))
	fmt.Println(first.Order(api.Order{Kind: api.OTake, Worker: 1, Term: 5}))
	second, _ := node.Open(d)
	fmt.Println(first.Down(), first.Order(api.Order{Kind: api.OAdd, Job: 3}), first.Down())
	done := api.Order{Kind: api.ODone, Now: 4, Job: 2, Try: 1, Worker: 1}
	fmt.Println(second.Tear(done, 8), second.Down(), len(d.Bytes()))
	third, _ := node.Open(d)
	fmt.Println(third.Epoch(), third.Job(2), len(d.Bytes()))
	fmt.Println(third.Order(done), third.Job(2))
	fmt.Println(node.Open(nil))
	// Output:
	// {0 0 0}
	// {0 2 1}
	// false {9 0 0} true
	// 0 true 26
	// 3 {2 1 1 5} 18
	// {0 0 0} {3 1 1 0}
	// <nil> 5
}
