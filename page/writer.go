package page

import (
	"masthead/api"
	"masthead/mark"
	"masthead/tmpl"
)

// most is how many bytes are written at all; beyond that nothing is promised.
const most = 1<<31 - 1

// writer writes HTML, and notes what is read for it, until something goes wrong.
type writer struct {
	host   Host
	run    func(name string, dot api.Value) (tmpl.Result, api.Errno)
	hooks  map[int]hook  // by Kind
	docs   [][]mark.Node // of the texts that come
	ids    []string      // of the Headings that come
	out    []byte
	reads  []string
	isRead map[string]bool
	broken []string
	e      api.Errno
}

// newWriter is a writer without hooks, for documents that have these Headings.
func newWriter(h Host, entries []mark.Entry) *writer {
	w := &writer{host: h, run: runner(h), isRead: map[string]bool{}}
	for _, entry := range entries {
		w.ids = append(w.ids, entry.Id)
	}
	return w
}

func (w *writer) add(s string) {
	if w.e == api.OK && len(s) > most-len(w.out) {
		w.e = api.ErrLarge
	}
	if w.e == api.OK {
		w.out = append(w.out, s...)
	}
}

// apart is what something writes, and is not written.
func (w *writer) apart(write func()) string {
	start := len(w.out)
	write()
	s := string(w.out[start:])
	w.out = w.out[:start]
	return s
}

// read notes that something has been read.
func (w *writer) read(name string) {
	if !w.isRead[name] {
		w.isRead[name] = true
		w.reads = append(w.reads, name)
	}
}

// template writes what the run of a template gives.
func (w *writer) template(name string, dot api.Value) {
	if w.e != api.OK {
		return
	}
	result, e := w.run(name, dot)
	w.e = e
	for _, name := range result.Reads {
		w.read(name)
	}
	w.add(tmpl.String(result.Pieces))
}

func (w *writer) parts(l []Part) {
	for _, p := range l {
		if p.Name != "" {
			w.shortcode(p)
		} else {
			w.nodes(w.docs[0])
			w.docs = w.docs[1:]
		}
	}
}

func (w *writer) shortcode(p Part) {
	inner := w.apart(func() { w.parts(p.Inner) })
	w.template(shortName(p.Name), Dot(p, w.host.Address, inner))
	w.add("\n")
}

// nodes writes nodes that are side by side.
func (w *writer) nodes(l []mark.Node) {
	for _, n := range l {
		w.node(n, false)
	}
}

// kids writes the Kids of a node. The first row of a table is its head, and so are its cells.
func (w *writer) kids(n mark.Node, head bool) {
	for i, kid := range n.Kids {
		w.node(kid, n.Kind == mark.Table && i == 0 || n.Kind == mark.Row && head)
	}
}

// node writes a node as its hook does, or else as mark does.
func (w *writer) node(n mark.Node, head bool) {
	if w.e != api.OK {
		return
	}
	if name := hookName(n.Kind); name != "" {
		w.read(templatePrefix + name)
	}
	id := ""
	switch n.Kind {
	case mark.Link, mark.Image:
		n.Dest = w.target(n.Dest)
	case mark.Heading:
		id, w.ids = w.ids[0], w.ids[1:]
	}
	if write := w.hooks[n.Kind]; write != nil {
		write(n, id, w.apart(func() { w.kids(n, head) }))
		return
	}
	before, after := around(n, id, head)
	w.add(before)
	w.kids(n, head)
	w.add(after)
}

// target is where a Dest leads.
func (w *writer) target(dest string) string {
	leads, fact, ok := Target(w.host, dest)
	if fact != "" {
		w.read(fact)
	}
	if !ok {
		w.broken = append(w.broken, dest)
	}
	return leads
}
