package machine

import (
	"embrasure/api"
	"embrasure/cpu"
	"embrasure/isa"
	"embrasure/kernel"
)

const (
	soft = api.Quantum                  // steps at which a slice's environment is told that its end has come
	hard = api.Quantum + 2*api.Epilogue // steps at which it ends, whoever was told
)

// turn is a core at its step, with the kernel beneath: both stand inside of it.
type turn struct {
	*core
	*kernel.Kernel
}

func (t turn) step() api.Step {
	t.Tick()
	if !t.begin() {
		return api.Step{}
	}
	env := t.env
	o := t.once()
	t.count(o)
	return tell(env, o)
}

// begin lets the core be in a slice of one that lives, the next one, if it is in none; false: there is none.
func (t turn) begin() bool {
	if !t.Alive(t.env) {
		t.leave()
	}
	if !t.runs {
		t.env, t.runs = t.Turn(t.number)
	}
	return t.runs
}

// leave lets the core run none.
func (t turn) leave() {
	t.slice = slice{}
}

// once does one instruction of the environment, as far as it can.
func (t turn) once() outcome {
	s := t.Regs(t.env)
	code, e := t.fetch(s)
	if e != api.OK {
		return t.fault(s.Pc)
	}
	i, e := isa.Decode(code)
	if e != api.OK {
		return t.end()
	}
	return t.ask(cpu.Exec(s, i))
}

// fetch are the four bytes at which registers stand.
func (t turn) fetch(s api.Regs) ([]byte, api.Errno) {
	at, e := cpu.Fetch(s)
	if e != api.OK {
		return nil, e
	}
	var code []byte
	for _, addr := range []api.Word{at, at + 2} {
		w, e := t.Load(t.number, t.env, addr, true)
		if e != api.OK {
			return nil, e
		}
		code = append(code, byte(w>>8), byte(w))
	}
	return code, api.OK
}

// ask does what an instruction asks for, which left the registers s.
func (t turn) ask(s api.Regs, a api.Access) outcome {
	switch a.Kind {
	case api.Trapped, api.Halted:
		return t.end()
	case api.LoadWord, api.LoadByte:
		return t.load(s, a)
	case api.StoreWord, api.StoreByte:
		return t.store(s, a)
	case api.SysCall:
		return t.call(s, a.Value)
	}
	return t.goOn(s)
}

// goOn lets the environment's registers be those behind its instruction. What faults does not come here: it can be done again.
func (t turn) goOn(s api.Regs) outcome {
	t.Set(t.env, s)
	return ran{}
}

func (t turn) load(s api.Regs, a api.Access) outcome {
	w, e := t.Load(t.number, t.env, a.Addr, a.Kind == api.LoadWord)
	if e != api.OK {
		return t.fault(a.Addr)
	}
	s, _ = cpu.Load(s, a.Reg, w)
	return t.goOn(s)
}

func (t turn) store(s api.Regs, a api.Access) outcome {
	if e := t.Store(t.number, t.env, a.Addr, a.Value, a.Kind == api.StoreWord); e != api.OK {
		return t.fault(a.Addr)
	}
	return t.goOn(s)
}

// call does a call of the environment, and lets it know what it came to: but for one that went back from an upcall, whose registers are those that were kept.
func (t turn) call(s api.Regs, w api.Word) outcome {
	t.Set(t.env, s)
	kind := callKind(w)
	value, e := t.Call(t.env, kind, s.R[1], s.R[2], s.R[3])
	if !t.Alive(t.env) {
		return ended{}
	}
	if kind != api.ReturnCall || e != api.OK {
		s.R[0], s.R[1] = api.Word(e), value
		t.Set(t.env, s)
	}
	return called{word: w, errno: e}
}

func (t turn) end() outcome {
	t.Exit(t.env)
	return ended{}
}

func (t turn) fault(at api.Word) outcome {
	t.Upcall(t.env, api.FaultUp, at)
	return faulted{at}
}

// count counts a step, and ends the slice, where its end has come.
func (t turn) count(o outcome) {
	t.used++
	switch {
	case !t.Alive(t.env):
		t.leave()
	case yields(o):
		t.pay()
	case t.used == soft:
		if !t.Upcall(t.env, api.TimerUp, api.Word(t.Time())) {
			t.pay()
		}
	case t.used == hard:
		t.pay()
	}
}

// pay ends the slice: what it had more than its steps is owed.
func (t turn) pay() {
	t.Over(t.number, t.env, max(0, t.used-soft))
	t.leave()
}
