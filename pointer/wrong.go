package pointer

import "caulker/api"

// wrong is what is panicked with where something is wrong.
type wrong struct{ fault api.Fault }

// faultOf does a step, tells what it finds wrong, and is the one place where that is recovered.
func faultOf(step func()) (fault api.Fault) {
	defer func() {
		x := recover()
		if w, ok := x.(wrong); ok {
			fault = w.fault
		} else if x != nil { // a mistake of this program, which must not pass for a good answer
			panic(x)
		}
	}()
	step()
	return api.Fault{}
}

func demand(holds bool, e api.Errno, at int) {
	if !holds {
		panic(wrong{api.Fault{Err: e, At: at}})
	}
}

// demandMay demands that a pointer may be.
func demandMay(p api.Pointer) {
	if Hole(p) {
		return
	}
	demandWithin(len(p.Addrs), 1, api.MaxCopies)
	for i, a := range p.Addrs {
		demandWithin(a.Dev, 0, api.MaxDevs-1)
		demandWithin(a.At, api.First, api.MaxSectors-1)
		for _, b := range p.Addrs[:i] {
			demand(a.Dev != b.Dev, api.ErrArg, 0)
		}
	}
	demandWithin(p.Birth, 1, api.MaxTxg)
	demandWithin(p.Level, 0, api.Depth)
}

func demandWithin(n, least, most int) {
	demand(least <= n && n <= most, api.ErrArg, 0)
}
