package lcp_test

import (
	"fmt"

	"fairlead/api"
	"fairlead/lcp"
)

func Example() {
	server, _ := lcp.New(api.Config{Server: true, Mru: 1000, Accm: 0, Timeout: 3, Tries: 10}, 7)
	client, _ := lcp.New(api.Config{Mru: 1500, Accm: 0, Timeout: 3, Tries: 10}, 8)
	server.Do(api.Open)
	client.Do(api.Open)
	line := [2][]api.Packet{server.Do(api.Up).Send, client.Do(api.Up).Send}
	ends := [2]*lcp.Lcp{client, server} // who gets what is on each way of the line
	for range 10 {
		for way, end := range ends {
			if len(line[way]) > 0 {
				p := line[way][0]
				line[way] = line[way][1:]
				line[1-way] = append(line[1-way], end.Input(p).Send...)
			}
		}
	}
	peer := client.Peer()
	fmt.Println(client.State() == api.Opened, peer.Mru, peer.Auth, peer.Magic)
	fmt.Println(client.Input(api.Packet{Code: api.EchoReq, Id: 5, Data: []byte{0, 0, 0, 7, 'h', 'i'}}).Send)
	fmt.Println(client.Refuse(api.ProtoECP, []byte{1, 2}).Send)
	fmt.Println(client.Input(api.Packet{Code: api.ProtRej, Data: []byte{0x80, 0xfd}}).Reject == api.ProtoCCP)
	// Output:
	// true 1000 true 7
	// [{10 5 [0 0 0 8 104 105]}]
	// [{8 2 [128 83 1 2]}]
	// true
}

func ExampleAsk() {
	fmt.Println(lcp.Ask(api.Config{Server: true, Mru: 1500, Accm: 0}, 7))
	// Output:
	// [{2 [0 0 0 0]} {3 [194 35 129]} {5 [0 0 0 7]}]
}
