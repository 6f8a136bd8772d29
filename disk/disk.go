// Package disk: blocks: see doc/01-disk.md.
package disk

import (
	"iter"
	"slices"

	"windlass/api"
)

// never: of Disk.left, as every number below 0: no cut is on its way.
const never = -1

// write: a write that was done. Its bytes are a string because nothing can change one: disks may share it.
type write struct {
	place int
	bytes string
}

// Disk: see the chapter.
type Disk struct {
	first []string // the blocks when it was made
	now   []string // the blocks behind the whole row: Read needn't go through it
	row   []write  // all writes that were done, in order
	left  int      // how many writes may be done until it is cut: at 0 it is; below 0: never
}

// New: see the chapter.
func New(blocks int) (*Disk, api.Errno) {
	if blocks < 1 || blocks > api.MaxBlocks {
		return nil, api.ErrDiskSize
	}
	empty := string(make([]byte, api.BlockSize))
	return holding(slices.Repeat([]string{empty}, blocks)), api.OK
}

// holding makes a disk that begins with these blocks, and keeps the list.
func holding(blocks []string) *Disk {
	return &Disk{first: blocks, now: slices.Clone(blocks), left: never}
}

// Read: see the chapter.
func (d *Disk) Read(i int) ([]byte, api.Errno) {
	if e := d.reach(i); e != api.OK {
		return nil, e
	}
	return []byte(d.now[i]), api.OK
}

// Write: see the chapter.
func (d *Disk) Write(i int, b []byte) api.Errno {
	if e := d.reach(i); e != api.OK {
		return e
	}
	if len(b) != api.BlockSize {
		return api.ErrDiskSize
	}
	w := write{place: i, bytes: string(b)}
	d.row = append(d.row, w)
	d.now[w.place] = w.bytes
	if d.left > 0 {
		d.left--
	}
	return api.OK
}

// reach tells what keeps block i from being read and written.
func (d *Disk) reach(i int) api.Errno {
	if d.left == 0 {
		return api.ErrDiskDown
	}
	if i < 0 || i >= len(d.now) {
		return api.ErrDiskPlace
	}
	return api.OK
}

// Blocks: see the chapter.
func (d *Disk) Blocks() int { return len(d.now) }

// Writes: see the chapter.
func (d *Disk) Writes() int { return len(d.row) }

// Halt: see the chapter.
func (d *Disk) Halt(n int) {
	if d.left == 0 { // only Restart ends a cut
		return
	}
	d.left = n
}

// Restart: see the chapter.
func (d *Disk) Restart() { d.left = never }

// At: see the chapter.
func (d *Disk) At(n int) (*Disk, api.Errno) {
	if n < 0 || n > d.Writes() {
		return nil, api.ErrDiskPlace
	}
	return holding(d.blocksAt(n)), api.OK
}

// blocksAt does the first n writes over again, on the blocks as they were at the beginning.
func (d *Disk) blocksAt(n int) []string {
	blocks := slices.Clone(d.first)
replay:
	for done, w := range d.written() {
		if done == n {
			break replay
		}
		blocks[w.place] = w.bytes
	}
	return blocks
}

// written tells the row: each write, and how many were done ahead of it.
func (d *Disk) written() iter.Seq2[int, write] {
	return func(yield func(int, write) bool) {
		for done, w := range d.row {
			if !yield(done, w) {
				return
			}
		}
	}
}
