package store

import (
	"slices"

	"escritoire/api"
	"escritoire/bundle"
	"escritoire/files"
	"escritoire/tiles"
)

// row is what stands, one behind the other, in files of up to api.Width: entries, or the hashes of a level.
type row[T any] struct {
	count uint64 // how many these are
	name  func(number uint64, width int) (string, api.Errno)
	put   func(l []T) ([]byte, api.Errno)
	take  func(b []byte) ([]T, api.Errno)
}

// entries is the row of a size's entries, in bundles.
func entries(size uint64) row[api.Entry] {
	return row[api.Entry]{size, bundle.Name, bundle.Put, bundle.Take}
}

// hashes is the row of a size's hashes of a level, in tiles.
func hashes(size uint64, level int) row[api.Digest] {
	name := func(number uint64, width int) (string, api.Errno) {
		return tiles.Name(level, number, width)
	}
	return row[api.Digest]{tiles.Count(size, level), name, tiles.Put, tiles.Take}
}

// Wanted are the names of the files of a size, rising byte by byte.
func Wanted(size uint64) []string {
	if size > api.MaxLeaves {
		return nil
	}
	// The bundles' names stand ahead of the tiles' ones, and numbers have as many digits each: so all of them rise.
	out := names(entries(size))
	// Of a level above the highest one Count tells none, too.
	for level := 0; tiles.Count(size, level) > 0; level++ {
		out = append(out, names(hashes(size, level))...)
	}
	return out
}

// isName tells whether a name is one of the store.
func isName(name string) bool {
	_, _, _, ofTile := tiles.Parse(name)
	_, _, ofBundle := bundle.Parse(name)
	return ofTile == api.OK || ofBundle == api.OK
}

// file is the name of the file of that number, and how many of the row it has.
func file[T any](r row[T], number uint64) (string, int) {
	width := int(min(r.count-number*api.Width, api.Width))
	// The numbers and the widths of a size that may be may all be, so that this tells no error.
	name, _ := r.name(number, width)
	return name, width
}

// names are those of a row's files, by rising numbers.
func names[T any](r row[T]) []string {
	var out []string
	for number := range (r.count + api.Width - 1) / api.Width {
		name, _ := file(r, number)
		out = append(out, name)
	}
	return out
}

// read is what the file of that number has.
func read[T any](d *files.Disk, r row[T], number uint64) ([]T, api.Errno) {
	name, width := file(r, number)
	b, e := d.Read(name)
	if e != api.OK {
		return nil, api.ErrState
	}
	l, e := r.take(b)
	if e != api.OK || len(l) != width {
		return nil, api.ErrState
	}
	return l, api.OK
}

// item is what stands at that place of a row.
func item[T any](d *files.Disk, r row[T], at uint64) (T, api.Errno) {
	l, e := read(d, r, at/api.Width)
	if e != api.OK {
		var none T
		return none, e
	}
	return l[at%api.Width], api.OK
}

// extend writes the files that a row has, or has with another width, when more stands behind it. It tells all that stands in them: what the last file had is laid down again, if that was not whole.
func extend[T any](d *files.Disk, r row[T], more []T) ([]T, api.Errno) {
	if len(more) == 0 {
		return nil, api.OK
	}
	number := r.count / api.Width
	var all []T
	if r.count%api.Width > 0 {
		former, e := read(d, r, number)
		if e != api.OK {
			return nil, e
		}
		all = former
	}
	all = append(all, more...)
	for part := range slices.Chunk(all, api.Width) {
		// Each part is of 1 to api.Width that may be, so that neither call tells an error.
		name, _ := r.name(number, len(part))
		b, _ := r.put(part)
		if e := create(d, name, b); e != api.OK {
			return nil, e
		}
		number++
	}
	return all, api.OK
}

// create makes a file with these bytes, which last.
func create(d *files.Disk, name string, b []byte) api.Errno {
	if e := d.Create(name); e != api.OK {
		return e
	}
	if e := d.Append(name, b); e != api.OK {
		return e
	}
	return d.Sync(name)
}
