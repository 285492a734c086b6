package duct_test

import (
	"bytes"
	"math/rand"
	"slices"
	"testing"

	"undertow/api"
	"undertow/duct"
)

// one is a copy that was put once, and what became of it.
type one struct {
	of, at, end, kind int
	raw               []byte
}

// model is what the chapter says, in words as near as may be: all copies there ever were, and the time of the last call that had no error.
type model struct {
	now int
	all []one
}

// clone is the same model, going its own way.
func (m *model) clone() *model {
	return &model{m.now, slices.Clone(m.all)}
}

// flying is the copies under way.
func (m *model) flying() []duct.Copy {
	var l []duct.Copy
	for id, o := range m.all {
		if o.kind == duct.Flying {
			l = append(l, duct.Copy{Id: id, Of: o.of, At: o.at, Raw: o.raw})
		}
	}
	return l
}

// under is whether a copy is under way.
func (m *model) under(id int) bool {
	return id >= 0 && id < len(m.all) && m.all[id].kind == duct.Flying
}

// put is what Put must answer.
func (m *model) put(raw []byte, now int) (int, api.Errno) {
	switch {
	case now < m.now || now > api.MaxOff:
		return 0, api.ErrRange
	case len(raw) > longest:
		return 0, api.ErrLong
	case len(m.flying()) >= api.MaxFlight:
		return 0, api.ErrFull
	}
	m.all = append(m.all, one{of: len(m.all), at: now, raw: slices.Clone(raw)})
	m.now = now
	return len(m.all) - 1, api.OK
}

// double is what Double must answer.
func (m *model) double(id, now int) (int, api.Errno) {
	switch {
	case now < m.now || now > api.MaxOff:
		return 0, api.ErrRange
	case !m.under(id):
		return 0, api.ErrNone
	case len(m.flying()) >= api.MaxFlight:
		return 0, api.ErrFull
	}
	m.all = append(m.all, one{of: m.all[id].of, at: m.all[id].at, raw: m.all[id].raw})
	m.now = now
	return len(m.all) - 1, api.OK
}

// end is what Take and Drop must answer, by what becomes of the copy.
func (m *model) end(id, now, kind int) ([]byte, api.Errno) {
	switch {
	case now < m.now || now > api.MaxOff:
		return nil, api.ErrRange
	case !m.under(id):
		return nil, api.ErrNone
	}
	m.all[id].end, m.all[id].kind = now, kind
	m.now = now
	return m.all[id].raw, api.OK
}

// pair is a duct, and its model.
type pair struct {
	d *duct.Duct
	m *model
}

// step does something to both, and fails if they don't answer alike.
func (p *pair) step(t *testing.T, rnd *rand.Rand) {
	t.Helper()
	now := p.m.now + rnd.Intn(5) - 1
	id := rnd.Intn(len(p.m.all)+3) - 1
	if l := p.m.flying(); len(l) > 0 && rnd.Intn(3) > 0 {
		id = l[rnd.Intn(len(l))].Id
	}
	switch rnd.Intn(4) {
	case 0:
		raw := make([]byte, rnd.Intn(6))
		rnd.Read(raw)
		if rnd.Intn(20) == 0 {
			raw = make([]byte, longest+rnd.Intn(2))
		}
		want, e := p.m.put(raw, now)
		mustPut(t, p.d, raw, now, want, e)
	case 1:
		want, e := p.m.double(id, now)
		mustDouble(t, p.d, id, now, want, e)
	case 2:
		want, e := p.m.end(id, now, duct.Came)
		mustTake(t, p.d, id, now, want, e)
	case 3:
		_, e := p.m.end(id, now, duct.Dropped)
		mustDrop(t, p.d, id, now, e)
	}
}

// check fails if the two don't tell the same.
func (p *pair) check(t *testing.T) {
	t.Helper()
	mustFly(t, p.d, len(p.m.all), p.m.flying()...)
	for id, o := range p.m.all {
		mustFate(t, p.d, id, duct.Fate{Of: o.of, At: o.at, End: o.end, Kind: o.kind})
	}
}

// P25.1 to P25.3: some that go their own ways, beside the model.
func TestAnyWay(t *testing.T) {
	for seed := range int64(60) {
		rnd := rand.New(rand.NewSource(seed))
		pairs := []*pair{{duct.New(), &model{}}}
		for range 150 {
			p := pairs[rnd.Intn(len(pairs))]
			if rnd.Intn(30) == 0 {
				pairs = append(pairs[:min(len(pairs), 2)], &pair{p.d.Clone(), p.m.clone()})
			}
			p.step(t, rnd)
			for _, p := range pairs {
				p.check(t)
			}
		}
	}
}

// P25.4, P25.5: each copy comes or is dropped once at most, no earlier than it was put, with the bytes that were put; those that came, were dropped, and are under way are all.
func TestEachOnceAtMost(t *testing.T) {
	rnd := rand.New(rand.NewSource(25))
	d := duct.New()
	var put [][]byte // the bytes of each copy, by its Id
	ended := map[int]int{}
	now := 0
	for range 3000 {
		now += rnd.Intn(3)
		id := rnd.Intn(len(put) + 1)
		switch rnd.Intn(4) {
		case 0:
			raw := []byte{byte(rnd.Intn(256)), byte(rnd.Intn(256))}
			if _, e := d.Put(raw, now); e == api.OK {
				put = append(put, raw)
			}
		case 1:
			if _, e := d.Double(id, now); e == api.OK {
				put = append(put, put[id])
			}
		case 2:
			if raw, e := d.Take(id, now); e == api.OK {
				ended[id]++
				if !bytes.Equal(raw, put[id]) {
					t.Fatalf("%d: %v, not %v", id, raw, put[id])
				}
			}
		case 3:
			if e := d.Drop(id, now); e == api.OK {
				ended[id]++
			}
		}
	}
	kinds := map[int]int{}
	for id := range d.Total() {
		f, ok := d.Fate(id)
		kinds[f.Kind]++
		if !ok || ended[id] > 1 || (ended[id] == 1) != (f.Kind != duct.Flying) || f.Kind != duct.Flying && f.End < f.At {
			t.Fatalf("%d: %+v, %v, ended %d times", id, f, ok, ended[id])
		}
	}
	if d.Total() != len(put) || kinds[duct.Flying] != d.Len() || kinds[duct.Flying]+kinds[duct.Came]+kinds[duct.Dropped] != d.Total() {
		t.Error(d.Total(), d.Len(), kinds)
	}
}
