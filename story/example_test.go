package story_test

import (
	"fmt"

	"vergers/api"
	"vergers/guild"
	"vergers/story"
)

func Example() {
	g := guild.New()
	g.Step(api.Step{Kind: api.SOpen})
	g.Step(api.Step{Kind: api.SOrder, Order: api.Order{Kind: api.OAdd, Job: 2}})
	g.Step(api.Step{Kind: api.SOrder, Order: api.Order{Kind: api.OTake, Worker: 1, Term: 5}})
	g.Step(api.Step{Kind: api.STick, N: 5})
	g.Step(api.Step{Kind: api.SOpen, N: 1})
	g.Step(api.Step{Kind: api.SOrder, N: 1, Order: api.Order{Kind: api.OTake, Worker: 3, Term: 5}})
	events := story.Of(g.Bytes())
	fmt.Println(len(events))
	fmt.Println(events[2].Record.Epoch, events[2].Answer, events[2].Job)
	fmt.Println(story.Holders(events, 2))
	fmt.Println(story.Table(g.Bytes(), 2).Job(2))
	fmt.Println(story.Table(g.Bytes(), 4) == nil)
	// Output:
	// 3
	// 2 {0 2 2} {2 3 2 10}
	// [[1 1] [3 2]]
	// {2 1 1 5}
	// true
}
