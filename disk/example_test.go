package disk_test

import (
	"fmt"

	"vergers/disk"
)

func Example() {
	d := disk.New()
	fmt.Println(d.Append(0, []byte("x")))
	fmt.Println(d.Raise())
	fmt.Println(d.Append(1, []byte("abc")))
	fmt.Println(d.Raise())
	fmt.Println(d.Append(1, []byte("x")))
	fmt.Println(d.Cut(2, 2), d.Cut(2, 3))
	fmt.Println(d.Epoch(), string(d.Bytes()))
	// Output:
	// 9
	// 1 0
	// 0
	// 2 0
	// 9
	// 0 3
	// 2 ab
}
