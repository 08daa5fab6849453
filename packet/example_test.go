package packet_test

import (
	"fmt"

	"fairlead/api"
	"fairlead/packet"
)

func Example() {
	ask := []api.Option{{Type: 1, Data: []byte{5, 0xdc}}, {Type: 7}}
	data, _ := packet.Options(ask)
	b, _ := packet.Encode(api.Packet{Code: api.ConfReq, Id: 7, Data: data})
	fmt.Printf("% X\n", b)

	p, _ := packet.Decode(append(b, 0xff))
	l, _ := packet.Split(p.Data)
	fmt.Println(p.Code, p.Id, l, packet.Same(l, ask))

	_, err := packet.Decode(b[:len(b)-1])
	fmt.Println(err)
	_, err = packet.Split(p.Data[:len(p.Data)-1])
	fmt.Println(err)
	// Output:
	// 01 07 00 0A 01 04 05 DC 07 02
	// 1 7 [{1 [5 220]} {7 []}] true
	// too short
	// form
}
