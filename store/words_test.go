package store_test

import (
	"regexp"
	"slices"

	"escritoire/api"
	"escritoire/files"
	"escritoire/place"
)

// byWords is a store that does the chapter's words, one by one.
type byWords struct {
	disk *files.Disk
	size int
}

// told are the hashes of a tile of that width.
func told(b []byte, n int) ([]api.Digest, bool) {
	if len(b) != 32*n {
		return nil, false
	}
	var out []api.Digest
	for part := range slices.Chunk(b, 32) {
		out = append(out, api.Digest(part))
	}
	return out, true
}

// cut takes a vector of 3 off b's front.
func cut(b string) (string, string, bool) {
	if len(b) < 3 {
		return "", "", false
	}
	n := int(b[0])<<16 + int(b[1])<<8 + int(b[2])
	if len(b)-3 < n {
		return "", "", false
	}
	return b[3 : 3+n], b[3+n:], true
}

// toldVectors are the vectors of 3 of which b consists, if each has so many bytes.
func toldVectors(b string, least, most int) ([]string, bool) {
	var out []string
	for b != "" {
		data, rest, is := cut(b)
		if !is || len(data) < least || len(data) > most {
			return nil, false
		}
		out, b = append(out, data), rest
	}
	return out, true
}

// toldEntries are the entries of a bundle of that width.
func toldEntries(b []byte, n int) ([]api.Entry, bool) {
	records, is := toldVectors(string(b), 8, 1<<24)
	if !is || len(records) != n {
		return nil, false
	}
	var out []api.Entry
	for _, record := range records {
		in, rest, is := cut(record[8:])
		certs, are := toldVectors(in, 1, mostBytes)
		if !is || !are || rest != "" || len(certs) < 1 || len(certs) > mostCerts {
			return nil, false
		}
		var time uint64
		for i := range 8 {
			time = time*256 + uint64(record[i])
		}
		out = append(out, of(time, certs...))
	}
	return out, true
}

// counted is how many hashes a tile level has.
func (r *byWords) counted(level int) int {
	n := r.size
	for range level {
		n /= width
	}
	return n
}

func (r *byWords) node(n place.Node) (api.Digest, api.Errno) {
	if r.disk.Off() {
		return api.Digest{}, api.ErrOff
	}
	if n.Level < 0 || n.Level > topLevel || n.Index >= mostLeaves>>n.Level {
		return api.Digest{}, api.ErrArg
	}
	if (n.Index+1)<<n.Level > uint64(r.size) {
		return api.Digest{}, api.ErrRange
	}
	if n.Level%height != 0 {
		a, e := r.node(place.Node{Level: n.Level - 1, Index: 2 * n.Index})
		b, ee := r.node(place.Node{Level: n.Level - 1, Index: 2*n.Index + 1})
		if e != api.OK || ee != api.OK {
			return api.Digest{}, max(e, ee)
		}
		return nodeOf(a, b), api.OK
	}
	l, is := r.tile(n.Level/height, int(n.Index)/width)
	if !is {
		return api.Digest{}, api.ErrState
	}
	return l[n.Index%width], api.OK
}

// tile is what a tile of the size says.
func (r *byWords) tile(level, number int) ([]api.Digest, bool) {
	n := min(r.counted(level)-width*number, width)
	b, e := r.disk.Read(tileName(level, number, n))
	if e != api.OK {
		return nil, false
	}
	return told(b, n)
}

// bundle is what a bundle of the size says.
func (r *byWords) bundle(number int) ([]api.Entry, bool) {
	n := min(r.size-width*number, width)
	b, e := r.disk.Read(bundleName(number, n))
	if e != api.OK {
		return nil, false
	}
	return toldEntries(b, n)
}

func (r *byWords) entry(i uint64) (api.Entry, api.Errno) {
	if r.disk.Off() {
		return api.Entry{}, api.ErrOff
	}
	if i >= uint64(r.size) {
		return api.Entry{}, api.ErrRange
	}
	l, is := r.bundle(int(i) / width)
	if !is {
		return api.Entry{}, api.ErrState
	}
	return l[i%width], api.OK
}

// root goes down through RFC 6962's halves.
func (r *byWords) root(from, to uint64) (api.Digest, api.Errno) {
	if r.disk.Off() {
		return api.Digest{}, api.ErrOff
	}
	if from >= to {
		return api.Digest{}, api.ErrArg
	}
	power, level := uint64(1), 0
	for power < to-from {
		power, level = 2*power, level+1
	}
	if from%power != 0 {
		return api.Digest{}, api.ErrArg
	}
	if to > uint64(r.size) {
		return api.Digest{}, api.ErrRange
	}
	if power == to-from {
		return r.node(place.Node{Level: level, Index: from / power})
	}
	a, e := r.root(from, from+power/2)
	b, ee := r.root(from+power/2, to)
	if e != api.OK || ee != api.OK {
		return api.Digest{}, max(e, ee)
	}
	return nodeOf(a, b), api.OK
}

func (r *byWords) add(l []api.Entry) api.Errno {
	if r.disk.Off() {
		return api.ErrOff
	}
	for _, x := range l {
		if len(x.Chain) < 1 || len(x.Chain) > mostCerts || slices.ContainsFunc(x.Chain, func(c []byte) bool { return len(c) < 1 || len(c) > mostBytes }) {
			return api.ErrArg
		}
	}
	if r.size+len(l) > mostLeaves {
		return api.ErrFull
	}
	if len(l) == 0 {
		return api.OK
	}
	if e := r.addBundles(l); e != api.OK {
		return e
	}
	var heads []api.Digest
	for _, x := range l {
		heads = append(heads, leafOf(x))
	}
	for level := 0; len(heads) > 0; level++ {
		var e api.Errno
		if heads, e = r.addTiles(level, heads); e != api.OK {
			return e
		}
	}
	r.size += len(l)
	return api.OK
}

// addBundles writes the bundles that new entries stand in.
func (r *byWords) addBundles(l []api.Entry) api.Errno {
	number := r.size / width
	if r.size%width > 0 {
		former, is := r.bundle(number)
		if !is {
			return api.ErrState
		}
		l = slices.Concat(former, l)
	}
	for ; len(l) > 0; number++ {
		n := min(len(l), width)
		if e := r.put(bundleName(number, n), bundleOf(l[:n])); e != api.OK {
			return e
		}
		l = l[n:]
	}
	return api.OK
}

// addTiles writes the tiles of a level that new heads stand in, and tells those of the level above.
func (r *byWords) addTiles(level int, l []api.Digest) ([]api.Digest, api.Errno) {
	number := r.counted(level) / width
	if r.counted(level)%width > 0 {
		former, is := r.tile(level, number)
		if !is {
			return nil, api.ErrState
		}
		l = slices.Concat(former, l)
	}
	var above []api.Digest
	for ; len(l) > 0; number++ {
		n := min(len(l), width)
		if e := r.put(tileName(level, number, n), tileOf(l[:n])); e != api.OK {
			return nil, e
		}
		if n == width {
			above = append(above, rootOf(l[:n]))
		}
		l = l[n:]
	}
	return above, api.OK
}

// put writes a file.
func (r *byWords) put(name, data string) api.Errno {
	e := r.disk.Create(name)
	if e == api.OK {
		e = r.disk.Append(name, []byte(data))
	}
	if e == api.OK {
		e = r.disk.Sync(name)
	}
	return e
}

// wanted are the names of the size's files.
func (r *byWords) wanted() []string {
	var out []string
	for i := 0; i < r.size; i += width {
		out = append(out, bundleName(i/width, min(r.size-i, width)))
	}
	for level := range tileLevels {
		for i := 0; i < r.counted(level); i += width {
			out = append(out, tileName(level, i/width, min(r.counted(level)-i, width)))
		}
	}
	return out
}

// own is the form of the names of the store: the width is looked at beside it.
var own = regexp.MustCompile(`\A(b|t[0-5])-[0-9]{6}-([0-9]{2})\z`)

// isOwn tells whether a name is one of the store.
func isOwn(name string) bool {
	m := own.FindStringSubmatch(name)
	return m != nil && m[2] >= "01" && m[2] <= "16"
}

func (r *byWords) clean() api.Errno {
	if r.disk.Off() {
		return api.ErrOff
	}
	wanted := r.wanted()
	for _, name := range r.disk.Names() {
		if isOwn(name) && !slices.Contains(wanted, name) {
			if e := r.disk.Remove(name); e != api.OK {
				return e
			}
		}
	}
	return api.OK
}
