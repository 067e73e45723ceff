package desk_test

import (
	"fmt"

	"vergers/desk"
)

func Example() {
	d := desk.New()
	told, _ := d.Do([]string{"open 0", "add 0 2", "take 0 1 5", "tick 3", "tear 4 done 0 2 1 1", "done 0 2 1 1"})
	fmt.Print(told)
	told, _ = d.Do([]string{"open 1", "done 1 2 1 1", "job 1 2", "log", "holders 2", "disk", "wait"})
	fmt.Print(told)
	_, fault := d.Do([]string{"disk", "open 0\nopen 1"})
	fmt.Println(fault)
	// Output:
	// ok
	// ok
	// ok 2 1
	// ok
	// ok
	// no 10
	// ok
	// ok
	// job 3 1 1 0
	// record 1 1 0 2 0 0 0 job 1 0 0 0
	// record 1 2 0 0 0 1 5 job 2 1 1 5
	// record 2 4 3 2 1 1 0 job 3 1 1 0
	// end
	// holders 1 1
	// disk 2 27 3
	// what
	// {13 1}
}
