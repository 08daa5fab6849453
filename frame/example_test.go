package frame_test

import (
	"fmt"

	"fairlead/api"
	"fairlead/frame"
)

func Example() {
	short := api.Form{Acfc: true, Pfc: true}
	b, _ := frame.Encode(api.ProtoIP, []byte{0x45}, api.Form{})
	fmt.Printf("% X\n", b)
	b, _ = frame.Encode(api.ProtoIP, []byte{0x45}, short)
	fmt.Printf("% X\n", b)
	b, _ = frame.Encode(api.ProtoLCP, []byte{1}, short)
	fmt.Printf("% X\n", b)

	_, _, err := frame.Decode([]byte{0x21, 0x45}, api.Form{})
	fmt.Println(err)
	proto, info, _ := frame.Decode([]byte{0x21, 0x45}, short)
	fmt.Printf("%04X % X\n", proto, info)
	// Output:
	// FF 03 00 21 45
	// 21 45
	// FF 03 C0 21 01
	// form
	// 0021 45
}
