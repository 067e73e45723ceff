package jobs_test

import (
	"fmt"

	"vergers/api"
	"vergers/jobs"
)

func Example() {
	t := jobs.New()
	fmt.Println(t.Do(api.Order{Kind: api.OAdd, Job: 2}))
	fmt.Println(t.Do(api.Order{Kind: api.OTake, Worker: 1, Term: 5}))
	fmt.Println(t.Do(api.Order{Kind: api.OTake, Now: 5, Worker: 3, Term: 5}))
	fmt.Println(t.Do(api.Order{Kind: api.ODone, Now: 6, Job: 2, Try: 1, Worker: 1}))
	fmt.Println(t.Do(api.Order{Kind: api.ODone, Now: 6, Job: 2, Try: 2, Worker: 3}))
	// Output:
	// {0 0 0}
	// {0 2 1}
	// {0 2 2}
	// {6 0 0}
	// {0 0 0}
}
