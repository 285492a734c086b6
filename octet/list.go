package octet

// list is the first bytes of a store, as many as size says. Where a Writer is copied, both lists have one store, so bytes that stand in it are never changed.
type list struct {
	store *store
	size  int
}

// store is bytes that may be in more than one list.
type store struct {
	bytes []byte
}

// put sets bytes behind those of the list.
func (l *list) put(b []byte) {
	if !l.last() {
		l.store = &store{bytes: l.all()}
	}
	l.store.bytes = append(l.store.bytes, b...)
	l.size = len(l.store.bytes)
}

// last tells whether nothing stands in the store behind the bytes of the list: another list may have put some there.
func (l *list) last() bool {
	return l.store != nil && len(l.store.bytes) == l.size
}

// all is the bytes of the list in memory of their own.
func (l *list) all() []byte {
	if l.store == nil {
		return nil
	}
	return fresh(l.store.bytes[:l.size])
}
