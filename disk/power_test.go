package disk_test

import (
	"math"
	"testing"

	"cooperage/api"
	"cooperage/disk"
)

// refused asks whether a disk is down, and what it refuses then, whatever it is handed.
func refused(t *testing.T, d *disk.Disk) {
	t.Helper()
	if !d.Down() {
		t.Error("it is not down")
	}
	for _, i := range []int{0, 1, -1, d.Size(), math.MinInt, math.MaxInt} {
		for _, b := range [][]byte{of(200), nil, {1}, make([]byte, 65)} {
			if e := d.Write(i, b); e != api.ErrDown {
				t.Errorf("Write(%d) of %d bytes, down: %d", i, len(b), e)
			}
		}
		if b, e := d.Read(i); len(b) != 0 || e != api.ErrDown {
			t.Errorf("Read(%d), down: %v, %d", i, b, e)
		}
	}
	if e := d.Flush(); e != api.ErrDown {
		t.Errorf("Flush, down: %d", e)
	}
}

// P5.1, P5.2: of an armed disk so many operations are done, of both kinds, and the next one is not: its power has failed.
func TestArm(t *testing.T) {
	for n := range 20 {
		for _, first := range []int{0, 1} {
			d := made(t, 2)
			d.Arm(n)
			for k := range n {
				if k%2 == first {
					write(t, d, 0, mixed(uint32(k)))
				} else {
					flush(t, d)
				}
				if d.Down() {
					t.Fatalf("Arm(%d): down behind %d operations", n, k+1)
				}
			}
			if n%2 == first {
				if e := d.Write(1, of(1)); e != api.ErrDown {
					t.Errorf("Arm(%d): Write behind them: %d", n, e)
				}
			} else if e := d.Flush(); e != api.ErrDown {
				t.Errorf("Arm(%d): Flush behind them: %d", n, e)
			}
			refused(t, d)
		}
	}
}

// P5.2: armed with less than 0 it is armed with 0.
func TestArmBelow(t *testing.T) {
	for _, n := range []int{0, -1, -2, -1 << 32, math.MinInt} {
		d := made(t, 2)
		d.Arm(n)
		if d.Down() {
			t.Errorf("Arm(%d): it is down already", n)
		}
		reads(t, d, 0, of(0))
		if e := d.Flush(); e != api.ErrDown {
			t.Errorf("Arm(%d): Flush: %d", n, e)
		}
		refused(t, d)
	}
}

// P5.2: what it was armed with last counts, also if it was armed with 0.
func TestArmAnew(t *testing.T) {
	for _, then := range []int{0, 1, 2, 5} {
		for _, n := range []int{-1, 0, 1, 3, math.MaxInt} {
			d := made(t, 2)
			d.Arm(n)
			d.Arm(then)
			for range then {
				flush(t, d)
			}
			if e := d.Write(0, of(1)); e != api.ErrDown || !d.Down() {
				t.Errorf("Arm(%d), Arm(%d): Write: %d, Down %v", n, then, e, d.Down())
			}
		}
	}
}

// P5.2: a great number is far off.
func TestArmFarOff(t *testing.T) {
	for _, n := range []int{math.MaxInt, 1 << 40, 1 << 32, 1<<32 + 1, 1 << 31} {
		d := made(t, 2)
		d.Arm(n)
		for k := range 100 {
			write(t, d, k%2, of(byte(k)))
			flush(t, d)
		}
		reads(t, d, 1, of(99))
	}
}

// P5.1: a call that is refused by something else, or is no operation, takes nothing from the number.
func TestNoOperations(t *testing.T) {
	for n := range 3 {
		d := made(t, 4)
		d.Arm(n)
		for range 5 {
			d.Read(1)
			d.Read(9)
			d.Write(-1, of(1))
			d.Write(4, of(1))
			d.Write(4, nil)
			d.Write(1, nil)
			d.Write(1, make([]byte, 63))
			d.Spoil(1, 0, 0)
			d.Spoil(9, 0, 1)
			d.Spoil(1, 64, 1)
			d.Cached()
			d.Size()
			d.Down()
		}
		for range n {
			write(t, d, 1, of(1))
		}
		if d.Down() {
			t.Errorf("Arm(%d): down behind as many operations", n)
		}
		if e := d.Write(0, nil); e != api.ErrArg {
			t.Errorf("Arm(%d): Write of none, behind as many operations: %d", n, e)
		}
		if e := d.Write(4, of(1)); e != api.ErrSector {
			t.Errorf("Arm(%d): Write of no sector, behind as many operations: %d", n, e)
		}
		if e := d.Flush(); e != api.ErrDown {
			t.Errorf("Arm(%d): Flush behind as many operations: %d", n, e)
		}
	}
}

// P5.1: the operation at which the power fails does nothing else: what the cache has stays, as it is.
func TestPowerFails(t *testing.T) {
	for name, fail := range map[string]func(d *disk.Disk) api.Errno{
		"Write":          func(d *disk.Disk) api.Errno { return d.Write(1, of(9)) },
		"Write of other": func(d *disk.Disk) api.Errno { return d.Write(3, of(9)) },
		"Flush":          func(d *disk.Disk) api.Errno { return d.Flush() },
	} {
		d := made(t, 4)
		write(t, d, 1, of(1))
		write(t, d, 2, of(2))
		flush(t, d)
		write(t, d, 1, of(3))
		write(t, d, 0, of(4))
		d.Arm(0)
		if e := fail(d); e != api.ErrDown {
			t.Errorf("%s: %d", name, e)
		}
		refused(t, d)
		cached(t, d, 0, 1)
		d.Crash([]bool{false, true})
		for i, b := range []byte{0, 3, 2, 0} {
			reads(t, d, i, of(b))
		}
	}
}

// P5.2: a disk that is down is not armed; behind the crash it works on and on.
func TestArmDown(t *testing.T) {
	for _, n := range []int{-1, 0, 1, 5} {
		d := made(t, 2)
		d.Arm(0)
		d.Flush()
		d.Arm(n)
		refused(t, d)
		d.Crash(nil)
		if d.Down() {
			t.Errorf("down behind a crash, Arm(%d) while it was", n)
		}
		for range 20 {
			write(t, d, 0, of(1))
			flush(t, d)
		}
	}
}

// P5.3: behind a crash a disk is armed no more, whether it was down or not; it can be armed anew.
func TestCrashNotArmed(t *testing.T) {
	for _, n := range []int{0, 1, 3} {
		d := made(t, 2)
		d.Arm(n)
		d.Crash([]bool{true})
		for range 20 {
			write(t, d, 0, of(1))
			flush(t, d)
		}
		d.Arm(n)
		for range n {
			write(t, d, 1, of(2))
		}
		if e := d.Write(1, of(3)); e != api.ErrDown {
			t.Errorf("armed anew with %d: %d", n, e)
		}
		refused(t, d)
		d.Crash(nil)
		reads(t, d, 0, of(1))
		reads(t, d, 1, of(0))
		for range 20 {
			flush(t, d)
		}
	}
}
