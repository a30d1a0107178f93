package store_test

import (
	"fmt"
	"testing"

	"escritoire/api"
	"escritoire/files"
	"escritoire/merkle"
	"escritoire/place"
	"escritoire/store"
)

func nodeAt(level int, index uint64) place.Node {
	return place.Node{Level: level, Index: index}
}

// P18.6: behind any Adds, cleaned or not, and opened anew or not, the tree is that of all entries.
func TestTrees(t *testing.T) {
	whole := treeOf(entriesOf(0, 1000))
	for seed := range 25 {
		l := lottery(seed)
		d := newDisk(t)
		s := open(t, d, 0)
		size := 0
		for size < 400 {
			more := 1 + l.below(1+l.below(120))
			wantOK(t, s.Add(whole.entries[size:size+more]))
			size += more
			if l.below(2) == 0 {
				wantOK(t, s.Clean())
			}
			if l.below(3) == 0 {
				s = open(t, d, uint64(size))
			}
			wantHash(t, "Root", s.Root, 0, uint64(size), merkle.Root(whole.nodes[0][:size]))
		}
		wantTree(t, fmt.Sprint("seed ", seed), d, whole.first(size))
	}
}

// P18.6, one by one: each size's tree is told behind the Add that makes it.
func TestTreeThatGrows(t *testing.T) {
	whole := treeOf(entriesOf(0, 40))
	d := newDisk(t)
	s := open(t, d, 0)
	for size := range 40 {
		wantTree(t, "one by one", d, whole.first(size))
		wantOK(t, s.Add(whole.entries[size:size+1]))
		if size%7 == 0 {
			wantOK(t, s.Clean())
		}
	}
	wantTree(t, "one by one", d, whole)
}

// P18.6: of a tree with three levels of tiles, by package merkle.
func TestGreaterTree(t *testing.T) {
	x := treeOf(entriesOf(0, 4500))
	d := newDisk(t)
	s := open(t, d, 0)
	for at := 0; at < 4500; at += 250 {
		wantOK(t, s.Add(x.entries[at:at+250]))
	}
	wantOK(t, s.Clean())
	for level, l := range merkle.Levels(x.nodes[0]) {
		for i := 0; i < len(l); i += 1 + 13*i%50 {
			if got, e := s.Node(nodeAt(level, uint64(i))); e != api.OK || got != l[i] {
				t.Fatalf("Node of level %d, %d: %x, error %d", level, i, got, e)
			}
		}
	}
	wantHash(t, "Root", s.Root, 0, 4500, merkle.Root(x.nodes[0]))
	wantHash(t, "Root", s.Root, 0, 4096, merkle.Root(x.nodes[0][:4096]))
	wantHash(t, "Root", s.Root, 4096, 4500, merkle.Root(x.nodes[0][4096:]))
	if n := len(d.Names()); n != len(store.Wanted(4500)) {
		t.Errorf("%d files, %d wanted", n, len(store.Wanted(4500)))
	}
}

// crashes wants of a disk, whatever a crash keeps, that a store of each of these trees tells it.
func crashes(t *testing.T, what string, d *files.Disk, l ...*tree) {
	t.Helper()
	none := d.Copy()
	none.Crash(nil)
	loose := d.Used() - none.Used()
	for _, kept := range []int{0, 1, loose / 2, loose - 1, loose} {
		c := d.Copy()
		c.Crash([]uint16{uint16(max(kept, 0))})
		for _, x := range l {
			wantTree(t, fmt.Sprintf("%s, %d of %d bytes kept", what, kept, loose), c, x)
		}
	}
}

// P18.7: wherever the power goes in an Add, the former tree is told; behind it, both are.
func TestCrashesInAdd(t *testing.T) {
	whole := treeOf(entriesOf(0, 300))
	for _, p := range [][2]int{{0, 5}, {0, 16}, {1, 1}, {5, 30}, {15, 1}, {16, 16}, {20, 3}, {250, 8}} {
		former, x := whole.first(p[0]), whole.first(p[0]+p[1])
		for n := 1; ; n++ {
			what := fmt.Sprintf("%d behind %d, the power goes with change %d", p[1], p[0], n)
			d := diskOf(t, former)
			s := open(t, d, uint64(p[0]))
			d.Fuse(n)
			if s.Add(x.entries[p[0]:]) == api.OK {
				crashes(t, what, d, former, x)
				break
			}
			crashes(t, what, d, former)
		}
	}
}

// P18.7: wherever the power goes in a Clean, nothing that the store tells is changed.
func TestCrashesInClean(t *testing.T) {
	x := treeOf(entriesOf(0, 50))
	d := newDisk(t)
	s := open(t, d, 0)
	for at := 0; at < 50; at += 5 {
		wantOK(t, s.Add(x.entries[at:at+5]))
	}
	for n := 1; ; n++ {
		c := d.Copy()
		s := open(t, c, 50)
		c.Fuse(n)
		if e := s.Clean(); e == api.OK {
			crashes(t, "Clean", c, x)
			break
		}
		crashes(t, fmt.Sprint("Clean, the power goes with removal ", n), c, x)
	}
}

// P18.7: rows of Adds and Cleans, with the power going now and then. What a log knows is the size of the last Add that told OK.
func TestRowsOfCrashes(t *testing.T) {
	for seed := range 40 {
		l := lottery(seed)
		d := newDisk(t)
		s := open(t, d, 0)
		var all []api.Entry
		for i := range 40 {
			if l.below(2) == 0 {
				d.Fuse(1 + l.below(20))
			}
			more := entriesOf(100*i, 100*i+l.below(20))
			if s.Add(more) == api.OK {
				all = append(all, more...)
			}
			if l.below(2) == 0 {
				s.Clean()
			}
			if l.below(2) == 0 || d.Off() {
				d.Crash([]uint16{uint16(l.below(1000))})
				s = open(t, d, uint64(len(all)))
			}
			if s.Size() != uint64(len(all)) {
				t.Fatalf("seed %d, step %d: Size is %d, want %d", seed, i, s.Size(), len(all))
			}
		}
		wantTree(t, fmt.Sprint("seed ", seed), d, treeOf(all))
	}
}
