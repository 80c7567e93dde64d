package ship

import (
	"cmp"
	"slices"
	"strings"

	"masthead/api"
	"masthead/conf"
	"masthead/mark"
)

const declaration = `<?xml version="1.0" encoding="utf-8"?>`

// Feed is the feed of the newest entries.
func Feed(title, base string, day int, l []Entry, most int) (string, api.Errno) {
	if most < 0 || most > MaxEntries {
		return "", api.ErrRange
	}
	if len(l) > MaxEntries {
		return "", api.ErrLarge
	}
	if hasControl(title) || hasControl(base) {
		return "", api.ErrByte
	}
	updated, e := conf.DayString(day)
	if e != api.OK {
		return "", e
	}
	if e := checkEntries(l); e != api.OK {
		return "", e
	}
	newest := slices.Clone(l)
	slices.SortFunc(newest, func(a, b Entry) int { return cmp.Or(cmp.Compare(b.Day, a.Day), strings.Compare(a.Address, b.Address)) })
	lines := []string{declaration, "<feed>", element("title", title), linkTo(base + "/"), element("updated", updated)}
	for _, x := range newest[:min(most, len(newest))] {
		day, _ := conf.DayString(x.Day)
		lines = append(lines, "<entry>"+element("title", x.Title)+linkTo(base+x.Address)+element("updated", day)+element("summary", x.Summary)+"</entry>")
	}
	return joinLines(append(lines, "</feed>")), api.OK
}

func checkEntries(l []Entry) api.Errno {
	before := map[string]bool{}
	for _, x := range l {
		switch {
		case hasControl(x.Title) || hasControl(x.Address) || hasControl(x.Summary):
			return api.ErrByte
		case !isAddress(x.Address):
			return api.ErrPath
		case x.Day < 0 || x.Day > api.MaxDay:
			return api.ErrRange
		case before[x.Address]:
			return api.ErrTwice
		}
		before[x.Address] = true
	}
	return api.OK
}

// SiteMap lists the addresses of all pages.
func SiteMap(base string, l []api.Out) (string, api.Errno) {
	if e := CheckOuts(l); e != api.OK {
		return "", e
	}
	if hasControl(base) {
		return "", api.ErrByte
	}
	lines := []string{declaration, "<urlset>"}
	for _, out := range l {
		if isPage(out) {
			lines = append(lines, "<url>"+element("loc", base+addressOf(out.Path))+"</url>")
		}
	}
	return joinLines(append(lines, "</urlset>")), api.OK
}

func element(name, text string) string {
	return "<" + name + ">" + mark.Escape(text) + "</" + name + ">"
}

func linkTo(address string) string { return `<link href="` + mark.Escape(address) + `"/>` }

// joinLines is lines with a line feed after each.
func joinLines(l []string) string { return strings.Join(l, "\n") + "\n" }
