package ship

import (
	"slices"
	"strconv"
	"strings"

	"masthead/api"
	"masthead/build"
	"masthead/conf"
	"masthead/tree"
)

const deskHits = 10

// Session replies to the lines of a string.
func Session(text string) string {
	if len(text) > api.MaxOut {
		return "too long\n"
	}
	d := &desk{builder: build.New()}
	var b strings.Builder
	for _, line := range linesOf(text) {
		b.WriteString(d.reply(line) + "\n")
	}
	return b.String()
}

// linesOf are the lines of a string. A line feed at its end begins no further one.
func linesOf(text string) []string {
	if text == "" {
		return nil
	}
	return strings.Split(strings.TrimSuffix(text, "\n"), "\n")
}

// desk is what lines have changed.
type desk struct {
	files   []api.File // in the order of their paths
	day     int
	builder *build.Builder
	built   // the last build
	shipped []api.Out
}

func (d *desk) reply(line string) string {
	reply, e := d.run(line)
	if e != api.OK {
		return "error " + strconv.Itoa(int(e))
	}
	return reply
}

func (d *desk) run(line string) (string, api.Errno) {
	name, rest, hasRest := strings.Cut(line, " ")
	if !hasRest {
		return d.runAlone(name)
	}
	switch name {
	case "add":
		return d.add(rest)
	case "day":
		return d.setDay(rest)
	case "see":
		return d.see(rest)
	case "find":
		return d.search(rest)
	}
	if !isWord(rest) {
		return "", api.ErrSyntax
	}
	switch name {
	case "drop":
		return d.drop(rest)
	case "get":
		return d.get(rest)
	case "reads":
		return d.reads(rest)
	}
	return "", api.ErrSyntax
}

// isWord says whether a string can be a path or an address in a line.
func isWord(s string) bool { return s != "" && !strings.Contains(s, " ") }

// runAlone runs a command that is a whole line.
func (d *desk) runAlone(name string) (string, api.Errno) {
	switch name {
	case "build":
		return d.build(), api.OK
	case "broken":
		return counted(Broken(d.outs, d.moved))
	case "faults":
		return counted(Faults(d.outs))
	case "plan":
		return counted(Plan(d.shipped, d.outs))
	case "ship":
		return d.ship()
	}
	return "", api.ErrSyntax
}

// counted is the reply that says how many there are.
func counted[T any](l []T, e api.Errno) (string, api.Errno) {
	return "ok " + strconv.Itoa(len(l)), e
}

func fileOf(file api.File) string { return file.Path }

func (d *desk) add(s string) (string, api.Errno) {
	path, rest, ok := strings.Cut(s, " ")
	if !ok || path == "" {
		return "", api.ErrSyntax
	}
	if tree.CheckPath(path) != api.OK {
		return "", api.ErrPath
	}
	i, ok := find(d.files, path, fileOf)
	body := rest + "\n"
	if ok {
		body = d.files[i].Body + body
	}
	if len(body) > api.MaxBody || !ok && len(d.files) == api.MaxFiles {
		return "", api.ErrLarge
	}
	if !ok {
		d.files = slices.Insert(d.files, i, api.File{Path: path})
	}
	d.files[i].Body = body
	return "ok", api.OK
}

func (d *desk) drop(path string) (string, api.Errno) {
	i, ok := find(d.files, path, fileOf)
	if !ok {
		return "", api.ErrNone
	}
	d.files = slices.Delete(d.files, i, i+1)
	return "ok", api.OK
}

func (d *desk) setDay(s string) (string, api.Errno) {
	day, e := conf.ReadDay(s)
	if e != api.OK {
		return "", e
	}
	d.day = day
	return "ok", api.OK
}

// build builds the files. With a fault all stays as it was.
func (d *desk) build() string {
	job, fault := build.Load(d.files, d.day)
	var report build.Report
	if fault.E == api.OK {
		report, fault = d.builder.Build(job)
	}
	if fault.E != api.OK {
		return faultReply(fault)
	}
	d.built = newBuilt(job, d.builder)
	reply := "ok"
	for _, l := range [][]string{report.Bodies, report.Outs, report.Removed, report.Changed} {
		reply += " " + strconv.Itoa(len(l))
	}
	return reply
}

func faultReply(fault build.Fault) string {
	reply := "fault " + strconv.Itoa(int(fault.E))
	if fault.Where != "" {
		reply += " " + fault.Where
	}
	return reply
}

func (d *desk) get(address string) (string, api.Errno) {
	r, e := Serve(d.outs, d.moved, address)
	reply := strconv.Itoa(r.Code)
	if r.Code != codeNone {
		reply += " " + r.Path
	}
	if r.Code == codeFound {
		reply += " " + strconv.Itoa(len(r.Body))
	}
	return reply, e
}

func (d *desk) see(s string) (string, api.Errno) {
	path, digits, _ := strings.Cut(s, " ")
	n, ok := number(digits)
	if !ok || path == "" {
		return "", api.ErrSyntax
	}
	i, ok := find(d.outs, path, pathOf)
	if !ok {
		return "", api.ErrNone
	}
	lines := linesOf(d.outs[i].Body)
	if n >= len(lines) {
		return "", api.ErrNone
	}
	return "ok " + lines[n], api.OK
}

func (d *desk) reads(path string) (string, api.Errno) {
	reads, ok := d.builder.Reads(path)
	if !ok {
		return "", api.ErrNone
	}
	return "ok " + strings.Join(reads, " "), api.OK
}

func (d *desk) search(query string) (string, api.Errno) {
	x, e := d.indexOf(d.builder)
	if e != api.OK {
		return "", e
	}
	hits, e := search(x, query, deskHits)
	reply := "ok"
	for _, hit := range hits {
		reply += " " + hit.Address
	}
	return reply, e
}

// ship notes that what has been built is shipped.
func (d *desk) ship() (string, api.Errno) {
	events, e := Events(d.shipped, d.outs)
	if e == api.OK {
		d.shipped = d.outs
	}
	return counted(events, e)
}
