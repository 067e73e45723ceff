package guild_test

import (
	"fmt"

	"vergers/api"
	"vergers/guild"
)

func Example() {
	g := guild.New()
	fmt.Println(g.Step(api.Step{Kind: api.SOpen, N: 0}))
	fmt.Println(g.Step(api.Step{Kind: api.SOrder, N: 0, Order: api.Order{Kind: api.OAdd, Job: 2}}))
	fmt.Println(g.Step(api.Step{Kind: api.SOrder, N: 0, Order: api.Order{Kind: api.OTake, Worker: 1, Term: 5}}))
	fmt.Println(g.Step(api.Step{Kind: api.STick, N: 5}), g.Now())
	fmt.Println(g.Step(api.Step{Kind: api.SOpen, N: 2}), g.Node(2).Epoch())
	next := api.Order{Kind: api.OTake, Worker: 3, Term: 5}
	fmt.Println(g.Step(api.Step{Kind: api.SOrder, N: 0, Order: next}))
	fmt.Println(g.Step(api.Step{Kind: api.STear, N: 2, Keep: 8, Order: next}), len(g.Bytes()))
	fmt.Println(g.Step(api.Step{Kind: api.SOpen, N: 0}), len(g.Bytes()))
	fmt.Println(g.Step(api.Step{Kind: api.SOrder, N: 0, Order: next}), g.Node(0).Job(2))
	fmt.Println(g.Step(api.Step{Kind: api.SDown, N: 0}), g.Step(api.Step{Kind: api.SDown, N: 1}))
	// Output:
	// {0 0 0}
	// {0 0 0}
	// {0 2 1}
	// {0 0 0} 5
	// {0 0 0} 2
	// {9 0 0}
	// {0 0 0} 26
	// {0 0 0} 18
	// {0 2 2} {2 3 2 10}
	// {0 0 0} {5 0 0}
}
