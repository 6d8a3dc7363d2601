package cpu

import (
	"embrasure/api"
	"embrasure/isa"
)

// kind is an instruction whose type tells what it does; nil is one that is not right.
type kind any

type (
	pass      struct{} // on to the next one, no more
	halt      struct{}
	constant  api.Ins // Li
	move      api.Ins // Mov
	quotient  api.Ins // Div, which stands apart as it can fail
	reckoning api.Ins // the others that make A of A and B
	load      api.Ins // Ld, Ldb
	store     api.Ins // St, Stb
	jump      api.Ins // Jmp
	zeroJump  api.Ins // Jz, Jnz
	lessJump  api.Ins // Jlt
	call      api.Ins // Call
	back      struct{}
	system    api.Ins // Sys
)

func kindOf(i api.Ins) kind {
	if !isa.Right(i) {
		return nil
	}
	switch i.Op {
	case api.Nop:
		return pass{}
	case api.Halt:
		return halt{}
	case api.Li:
		return constant(i)
	case api.Mov:
		return move(i)
	case api.Div:
		return quotient(i)
	case api.Ld, api.Ldb:
		return load(i)
	case api.St, api.Stb:
		return store(i)
	case api.Jmp:
		return jump(i)
	case api.Jz, api.Jnz:
		return zeroJump(i)
	case api.Jlt:
		return lessJump(i)
	case api.Call:
		return call(i)
	case api.Ret:
		return back{}
	case api.Sys:
		return system(i)
	}
	return reckoning(i)
}

// Reads are the registers that an instruction reads.
func Reads(i api.Ins) []uint8 {
	return list(reads(kindOf(i)))
}

// Writes are the registers that an instruction writes.
func Writes(i api.Ins) []uint8 {
	return list(writes(kindOf(i)))
}

// marks tell of each register whether it is meant: marked twice it is meant once.
type marks [api.Registers]bool

func list(m marks) []uint8 {
	var l []uint8
	for r, meant := range m {
		if meant {
			l = append(l, uint8(r))
		}
	}
	return l
}

func reads(k kind) marks {
	var m marks
	switch x := k.(type) {
	case move:
		m[x.B] = true
	case quotient:
		m[x.A], m[x.B] = true, true
	case reckoning:
		m[x.A], m[x.B] = true, true
	case load:
		m[x.B] = true
	case store:
		m[x.A], m[x.B] = true, true
	case zeroJump:
		m[x.A] = true
	case lessJump:
		m[x.A], m[x.B] = true, true
	case back:
		m[link] = true
	}
	return m
}

func writes(k kind) marks {
	var m marks
	switch x := k.(type) {
	case constant:
		m[x.A] = true
	case move:
		m[x.A] = true
	case quotient:
		m[x.A] = true
	case reckoning:
		m[x.A] = true
	case load:
		m[x.A] = true
	case call:
		m[link] = true
	}
	return m
}
