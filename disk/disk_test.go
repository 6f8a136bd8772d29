package disk_test

import (
	"bytes"
	"math"
	"math/rand"
	"testing"

	"windlass/api"
	"windlass/disk"
)

func of(b byte) []byte { return bytes.Repeat([]byte{b}, api.BlockSize) }

func made(t *testing.T, blocks int) *disk.Disk {
	t.Helper()
	d, e := disk.New(blocks)
	if e != api.OK || d == nil {
		t.Fatalf("New(%d): %d", blocks, e)
	}
	return d
}

func at(t *testing.T, d *disk.Disk, n int) *disk.Disk {
	t.Helper()
	x, e := d.At(n)
	if e != api.OK || x == nil {
		t.Fatalf("At(%d): %d", n, e)
	}
	return x
}

func wantWrite(t *testing.T, d *disk.Disk, i int, b []byte, want api.Errno) {
	t.Helper()
	before := d.Writes()
	if want == api.OK {
		before++
	}
	if e := d.Write(i, b); e != want {
		t.Errorf("Write(%d, %d bytes): %d, want %d", i, len(b), e, want)
	}
	if d.Writes() != before {
		t.Errorf("Write(%d, %d bytes): Writes() is %d, want %d", i, len(b), d.Writes(), before)
	}
}

func wantRead(t *testing.T, d *disk.Disk, i int, want []byte) {
	t.Helper()
	b, e := d.Read(i)
	if e != api.OK || !bytes.Equal(b, want) {
		t.Errorf("Read(%d): %v, %d, want %v", i, b, e, want)
	}
}

func wantNoRead(t *testing.T, d *disk.Disk, i int, want api.Errno) {
	t.Helper()
	b, e := d.Read(i)
	if e != want || len(b) != 0 {
		t.Errorf("Read(%d): %d bytes, %d, want none, %d", i, len(b), e, want)
	}
}

// P1.1

func TestSizes(t *testing.T) {
	for _, n := range []int{1, 2, api.MaxBlocks - 1, api.MaxBlocks} {
		d := made(t, n)
		if d.Blocks() != n || d.Writes() != 0 {
			t.Errorf("New(%d): Blocks() %d, Writes() %d", n, d.Blocks(), d.Writes())
		}
		for i := range n {
			wantRead(t, d, i, of(0))
		}
		wantNoRead(t, d, n, api.ErrDiskPlace)
		wantWrite(t, d, n-1, of(3), api.OK)
		wantRead(t, d, n-1, of(3))
	}
}

func TestNoSuchSize(t *testing.T) {
	for _, n := range []int{0, -1, api.MaxBlocks + 1, math.MinInt, math.MaxInt} {
		if d, e := disk.New(n); d != nil || e != api.ErrDiskSize {
			t.Errorf("New(%d): %v, %d", n, d, e)
		}
	}
}

func TestWritesCountsWhatWasDone(t *testing.T) {
	d := made(t, 2)
	for n := range 300 { // the same bytes again are a write, too
		if d.Writes() != n {
			t.Fatalf("behind %d writes: Writes() is %d", n, d.Writes())
		}
		d.Write(1, of(1))
	}
	if d.Blocks() != 2 {
		t.Errorf("Blocks() is %d", d.Blocks())
	}
}

// P1.2

func TestWriteAndRead(t *testing.T) {
	d := made(t, 3)
	rising := make([]byte, api.BlockSize)
	for i := range rising {
		rising[i] = byte(i)
	}
	wantWrite(t, d, 1, rising, api.OK)
	wantRead(t, d, 0, of(0))
	wantRead(t, d, 1, rising)
	wantRead(t, d, 2, of(0))
	wantWrite(t, d, 1, of(255), api.OK)
	wantWrite(t, d, 2, of(8), api.OK)
	wantRead(t, d, 1, of(255))
	wantRead(t, d, 2, of(8))
	wantRead(t, d, 0, of(0))
}

func TestNoSuchBlock(t *testing.T) {
	d := made(t, 3)
	for _, i := range []int{-1, 3, 4, api.MaxBlocks, math.MinInt, math.MaxInt} {
		wantWrite(t, d, i, of(1), api.ErrDiskPlace)
		wantNoRead(t, d, i, api.ErrDiskPlace)
	}
	for i := range 3 {
		wantRead(t, d, i, of(0))
	}
}

func TestWrongLengths(t *testing.T) {
	d := made(t, 1)
	wantWrite(t, d, 0, of(1), api.OK)
	for _, n := range []int{0, 1, api.BlockSize - 1, api.BlockSize + 1, 2 * api.BlockSize} {
		wantWrite(t, d, 0, make([]byte, n), api.ErrDiskSize)
	}
	wantWrite(t, d, 0, nil, api.ErrDiskSize)
	wantWrite(t, d, 0, make([]byte, api.BlockSize-1, api.BlockSize), api.ErrDiskSize)
	wantRead(t, d, 0, of(1))
}

func TestWhichErrorComesFirst(t *testing.T) {
	d := made(t, 1)
	wantWrite(t, d, 1, nil, api.ErrDiskPlace)
	wantWrite(t, d, -1, make([]byte, api.BlockSize+1), api.ErrDiskPlace)
	d.Halt(0)
	wantWrite(t, d, 1, nil, api.ErrDiskDown)
	wantWrite(t, d, -1, of(1), api.ErrDiskDown)
	wantWrite(t, d, 0, nil, api.ErrDiskDown)
	wantNoRead(t, d, 1, api.ErrDiskDown)
	wantNoRead(t, d, -1, api.ErrDiskDown)
}

func TestNoMemoryIsShared(t *testing.T) {
	d := made(t, 2)
	room := bytes.Repeat([]byte{7}, 2*api.BlockSize)
	wantWrite(t, d, 0, room[:api.BlockSize], api.OK)
	if !bytes.Equal(room, bytes.Repeat([]byte{7}, 2*api.BlockSize)) {
		t.Error("Write changed what it was handed")
	}
	clear(room)
	wantRead(t, d, 0, of(7))

	a, _ := d.Read(0)
	b, _ := d.Read(0)
	c, _ := d.Read(1)
	clear(a[:cap(a)])
	if !bytes.Equal(b, of(7)) || !bytes.Equal(c, of(0)) {
		t.Error("two answers of Read share memory")
	}
	for i := range c[:cap(c)] {
		c[:cap(c)][i] = 9
	}
	wantRead(t, d, 0, of(7))
	wantRead(t, d, 1, of(0))
	wantRead(t, at(t, d, 0), 0, of(0))
	wantRead(t, at(t, d, 1), 0, of(7))
	wantRead(t, made(t, 1), 0, of(0))

	kept, _ := d.Read(0)
	wantWrite(t, d, 0, of(8), api.OK)
	if !bytes.Equal(kept, of(7)) {
		t.Error("a Write touched an earlier answer of Read")
	}
}

func TestDisksDontTouch(t *testing.T) {
	a, b := made(t, 2), made(t, 2)
	wantWrite(t, a, 0, of(1), api.OK)
	a.Halt(0)
	wantRead(t, b, 0, of(0))
	wantWrite(t, b, 0, of(2), api.OK)
	a.Restart()
	wantRead(t, a, 0, of(1))
	if a.Writes() != 1 || b.Writes() != 1 {
		t.Errorf("Writes(): %d, %d", a.Writes(), b.Writes())
	}
}

// P1.3

func TestHaltAtOnce(t *testing.T) {
	d := made(t, 1)
	wantWrite(t, d, 0, of(1), api.OK)
	d.Halt(0)
	for range 3 {
		wantWrite(t, d, 0, of(2), api.ErrDiskDown)
		wantNoRead(t, d, 0, api.ErrDiskDown)
	}
	if d.Blocks() != 1 || d.Writes() != 1 {
		t.Errorf("cut: Blocks() %d, Writes() %d", d.Blocks(), d.Writes())
	}
	d.Restart()
	wantRead(t, d, 0, of(1))
	wantWrite(t, d, 0, of(3), api.OK)
}

func TestHaltBehindWrites(t *testing.T) {
	for n := 1; n <= 5; n++ {
		d := made(t, 1)
		wantWrite(t, d, 0, of(99), api.OK) // ahead of Halt: it doesn't count
		d.Halt(n)
		for k := range n {
			wantRead(t, d, 0, of([]byte{99, 1, 2, 3, 4}[k]))
			wantWrite(t, d, 1, of(50), api.ErrDiskPlace) // refused writes aren't done ..
			wantWrite(t, d, 0, nil, api.ErrDiskSize)
			wantNoRead(t, d, -1, api.ErrDiskPlace) // .. and reads aren't writes
			wantWrite(t, d, 0, of(byte(k+1)), api.OK)
		}
		wantWrite(t, d, 0, of(60), api.ErrDiskDown)
		wantNoRead(t, d, 0, api.ErrDiskDown)
		d.Restart()
		wantRead(t, d, 0, of(byte(n)))
	}
}

func TestHaltBelowZero(t *testing.T) {
	for _, n := range []int{-1, -2, math.MinInt} {
		d := made(t, 1)
		d.Halt(n)
		wantWrite(t, d, 0, of(1), api.OK)
		d.Halt(1)
		d.Halt(n)
		for k := range 5 {
			wantWrite(t, d, 0, of(byte(k)), api.OK)
		}
		d.Halt(0)
		d.Halt(n)
		wantWrite(t, d, 0, of(9), api.ErrDiskDown)
		wantNoRead(t, d, 0, api.ErrDiskDown)
		d.Restart()
		wantRead(t, d, 0, of(4))
	}
}

func TestHaltWhileCut(t *testing.T) {
	for _, n := range []int{-1, 0, 1, 3, math.MaxInt} {
		d := made(t, 1)
		d.Halt(0)
		d.Halt(n)
		for range 4 {
			wantWrite(t, d, 0, of(1), api.ErrDiskDown)
			wantNoRead(t, d, 0, api.ErrDiskDown)
		}
		d.Restart()
		for k := range 6 { // what was asked for while it was cut doesn't come behind Restart
			wantWrite(t, d, 0, of(byte(k)), api.OK)
		}
		wantRead(t, d, 0, of(5))
	}
}

func TestLaterHaltHolds(t *testing.T) {
	d := made(t, 1)
	d.Halt(1)
	d.Halt(3)
	wantWrite(t, d, 0, of(1), api.OK)
	wantWrite(t, d, 0, of(2), api.OK)
	d.Halt(2)
	wantWrite(t, d, 0, of(3), api.OK)
	wantWrite(t, d, 0, of(4), api.OK)
	wantWrite(t, d, 0, of(5), api.ErrDiskDown)
	d.Restart()
	d.Halt(5)
	d.Halt(0)
	wantNoRead(t, d, 0, api.ErrDiskDown)
	d.Restart()
	d.Halt(math.MaxInt)
	wantWrite(t, d, 0, of(6), api.OK)
	wantRead(t, d, 0, of(6))
}

func TestRestartTakesHaltBack(t *testing.T) {
	d := made(t, 1)
	d.Restart()
	wantWrite(t, d, 0, of(1), api.OK)
	d.Halt(2)
	wantWrite(t, d, 0, of(2), api.OK)
	d.Restart()
	for k := range 5 {
		wantWrite(t, d, 0, of(byte(k)), api.OK)
	}
	d.Halt(1)
	wantWrite(t, d, 0, of(9), api.OK)
	wantWrite(t, d, 0, of(10), api.ErrDiskDown)
}

// P1.4

func TestAtEdges(t *testing.T) {
	d := made(t, 2)
	for k := range 4 {
		for _, n := range []int{-1, k + 1, math.MinInt, math.MaxInt} {
			if x, e := d.At(n); x != nil || e != api.ErrDiskPlace {
				t.Errorf("At(%d) of %d writes: %v, %d", n, k, x, e)
			}
		}
		wantRead(t, at(t, d, 0), 0, of(0))
		wantRead(t, at(t, d, k), 0, of(byte(k)))
		wantWrite(t, d, 0, of(byte(k+1)), api.OK)
	}
}

func TestAtTellsTheMoment(t *testing.T) {
	d := made(t, 2)
	wantWrite(t, d, 0, of(1), api.OK)
	wantWrite(t, d, 0, of(2), api.OK)
	wantWrite(t, d, 9, of(90), api.ErrDiskPlace)
	wantWrite(t, d, 1, nil, api.ErrDiskSize)
	wantWrite(t, d, 1, of(3), api.OK)
	for n, want := range [][2]byte{{0, 0}, {1, 0}, {2, 0}, {2, 3}} {
		x := at(t, d, n)
		if x.Blocks() != 2 || x.Writes() != 0 {
			t.Errorf("At(%d): Blocks() %d, Writes() %d", n, x.Blocks(), x.Writes())
		}
		wantRead(t, x, 0, of(want[0]))
		wantRead(t, x, 1, of(want[1]))
	}
}

func TestAtIsNotCut(t *testing.T) {
	d := made(t, 1)
	d.Halt(2)
	wantWrite(t, d, 0, of(1), api.OK)
	x := at(t, d, 1) // one write ahead of the cut
	wantWrite(t, d, 0, of(2), api.OK)
	y := at(t, d, 2) // of a disk that is cut
	if _, e := d.At(3); e != api.ErrDiskPlace {
		t.Errorf("At(3) of a cut disk: %d", e)
	}
	wantNoRead(t, d, 0, api.ErrDiskDown)
	wantRead(t, x, 0, of(1))
	wantRead(t, y, 0, of(2))
	for k := range 4 {
		wantWrite(t, x, 0, of(byte(k)), api.OK)
		wantWrite(t, y, 0, of(byte(k)), api.OK)
	}
	y.Halt(0)
	wantRead(t, x, 0, of(3))
	y.Restart()
	wantNoRead(t, d, 0, api.ErrDiskDown)
}

func TestAtIsADiskOfItsOwn(t *testing.T) {
	d := made(t, 2)
	wantWrite(t, d, 0, of(1), api.OK)
	wantWrite(t, d, 0, of(2), api.OK)
	x, twin := at(t, d, 1), at(t, d, 1)
	wantWrite(t, x, 0, of(50), api.OK)
	wantWrite(t, x, 1, of(51), api.OK)
	wantWrite(t, d, 1, of(3), api.OK)
	wantRead(t, d, 0, of(2))
	wantRead(t, d, 1, of(3))
	wantRead(t, twin, 0, of(1))
	wantRead(t, twin, 1, of(0))
	wantRead(t, at(t, d, 1), 0, of(1))
	wantRead(t, at(t, d, 0), 0, of(0))
	wantRead(t, at(t, x, 0), 0, of(1))
	wantRead(t, at(t, x, 1), 0, of(50))
	wantRead(t, at(t, x, 1), 1, of(0))
	wantRead(t, at(t, x, 2), 1, of(51))
	if x.Writes() != 2 || d.Writes() != 3 || twin.Writes() != 0 {
		t.Errorf("Writes(): %d, %d, %d", x.Writes(), d.Writes(), twin.Writes())
	}
	if _, e := x.At(3); e != api.ErrDiskPlace {
		t.Errorf("At(3) of two writes: %d", e)
	}
}

// P1.5, and all of them together: a disk beside a plain account of what it must be.

type account struct {
	moments [][]byte // the first byte of each block, behind 0, 1 .. writes
	left    int
}

func (a *account) write(i int, b byte, n int) api.Errno {
	now := a.moments[len(a.moments)-1]
	switch {
	case a.left == 0:
		return api.ErrDiskDown
	case i < 0 || i >= len(now):
		return api.ErrDiskPlace
	case n != api.BlockSize:
		return api.ErrDiskSize
	}
	next := bytes.Clone(now)
	next[i] = b
	a.moments = append(a.moments, next)
	if a.left > 0 {
		a.left--
	}
	return api.OK
}

func wantBlocks(t *testing.T, d *disk.Disk, want []byte) {
	t.Helper()
	for i, b := range want {
		wantRead(t, d, i, of(b))
	}
}

func TestRowsOfActs(t *testing.T) {
	for seed := range int64(60) {
		r := rand.New(rand.NewSource(seed))
		blocks := 1 + r.Intn(5)
		d := made(t, blocks)
		a := &account{moments: [][]byte{make([]byte, blocks)}, left: -1}
		for range 120 {
			switch r.Intn(8) {
			case 0:
				n := r.Intn(7) - 1
				d.Halt(n)
				if a.left != 0 {
					a.left = n
				}
			case 1, 2:
				d.Restart()
				a.left = -1
			default:
				i, b, n := r.Intn(blocks+2)-1, byte(r.Intn(256)), api.BlockSize
				if r.Intn(10) == 0 {
					n += r.Intn(3) - 1
				}
				wantWrite(t, d, i, bytes.Repeat([]byte{b}, n), a.write(i, b, n))
			}
			if a.left == 0 {
				wantNoRead(t, d, 0, api.ErrDiskDown)
			} else {
				wantBlocks(t, d, a.moments[len(a.moments)-1])
			}
		}
		for n, want := range a.moments {
			wantBlocks(t, at(t, d, n), want)
		}
		d.Restart()
		wantBlocks(t, at(t, d, d.Writes()), a.moments[len(a.moments)-1])
		wantBlocks(t, d, a.moments[len(a.moments)-1])
	}
}

func TestAtTheEnds(t *testing.T) {
	d := made(t, api.MaxBlocks)
	for _, i := range []int{0, 1, api.MaxBlocks - 1, 0} {
		wantWrite(t, d, i, of(byte(d.Writes()+1)), api.OK)
	}
	begin, end := at(t, d, 0), at(t, d, d.Writes())
	for i := range api.MaxBlocks {
		now, _ := d.Read(i)
		wantRead(t, end, i, now)
		wantRead(t, begin, i, of(0))
	}
	wantWrite(t, end, 0, of(77), api.OK)
	again := at(t, end, 0) // as when end was made, not as when d was
	for i := range api.MaxBlocks {
		now, _ := d.Read(i)
		wantRead(t, again, i, now)
	}
}
