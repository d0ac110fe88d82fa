// Package impl: two sides that keep the same keys, each never ahead of what it knows.
package impl

import "cmp"

// Limits of stamps.
const (
	StampMax = 9999
	Sites    = 4
)

// sitesOfSide is how many sites a side has.
const sitesOfSide = 2

// Stamp orders versions of a key: by time, then by the site that made it.
type Stamp struct {
	Time int
	Site int
}

// stampCode is an ok stamp as one number, time ahead of site, so that the numbers ascend as the stamps do.
type stampCode int

// stampOrder holds two stamps against each other: below 0, if a is ahead, above 0, if b is, else 0.
type stampOrder func(a Stamp, b Stamp) int

// codeOrder is the same for stamps that are one number each.
type codeOrder func(a stampCode, b stampCode) int

// code puts a stamp together as one number; only of ok stamps, as others would wrap round or fall together.
func (s Stamp) code() stampCode {
	return stampCode(s.Time*Sites + s.Site)
}

func (c stampCode) time() int {
	return int(c) / Sites
}

func (c stampCode) site() int {
	return int(c) % Sites
}

// stamp takes the number apart again.
func (c stampCode) stamp() Stamp {
	return Stamp{Time: c.time(), Site: c.site()}
}

// next is a site's number, one time later.
func (c stampCode) next(site int) stampCode {
	return Stamp{Time: c.time() + 1, Site: site}.code()
}

// then is an order that asks another one about those that are alike to it.
func (o stampOrder) then(other stampOrder) stampOrder {
	return func(a Stamp, b Stamp) int {
		if c := o(a, b); c != 0 {
			return c
		}
		return other(a, b)
	}
}

// last is the one of both that is behind.
func (o codeOrder) last(a stampCode, b stampCode) stampCode {
	if o(a, b) < 0 {
		return b
	}
	return a
}

func byTime(a Stamp, b Stamp) int {
	return cmp.Compare(a.Time, b.Time)
}

func bySite(a Stamp, b Stamp) int {
	return cmp.Compare(a.Site, b.Site)
}

// StampOk says whether a stamp is ok.
func StampOk(s Stamp) bool {
	return s.Time >= 1 && s.Time <= StampMax && SiteSide(s.Site) >= 0
}

// StampLess says whether a stamp is ahead of another one.
// It asks part by part and not by the one number: it answers of any two, and stamps that are not ok may have no number of their own.
func StampLess(a Stamp, b Stamp) bool {
	return stampOrder(byTime).then(bySite)(a, b) < 0
}

// StampNext is the stamp of a site behind all of these.
func StampNext(site int, list []Stamp) (Stamp, bool) {
	if SiteSide(site) < 0 {
		return Stamp{}, false
	}
	latest, ok := latestCode(list, cmp.Compare[stampCode])
	if !ok {
		return Stamp{}, false
	}
	next := latest.next(site).stamp()
	if !StampOk(next) {
		return Stamp{}, false
	}
	return next, true
}

// latestCode is the number of the last stamp by an order, and 0, if there are none; false, if one is not ok.
func latestCode(list []Stamp, order codeOrder) (stampCode, bool) {
	latest := stampCode(0)
	for _, s := range list {
		if !StampOk(s) {
			return 0, false
		}
		latest = order.last(latest, s.code())
	}
	return latest, true
}

// SiteSide is the side of a site.
func SiteSide(site int) int {
	if site < 0 || site >= Sites {
		return -1
	}
	return site / sitesOfSide
}
