package impl

// Codes is the number of codes of an area or a job.
const Codes = 4

// PayMax is the greatest pay.
const PayMax = 999

// PeopleMax is the greatest number of people.
const PeopleMax = 40

// sexCodes is the number of codes of a sex.
const sexCodes = 2

// anyCode stands for any code of its kind.
const anyCode = -1

// bandWidth is the number of pays in one band.
const bandWidth = 100

// Person has three codes and a pay.
type Person struct {
	Area int
	Job  int
	Sex  int
	Pay  int
}

// personLink is a link of a linked list of people.
// The first link of a list is its head and holds nobody, so that leaving out the first person is no special case.
type personLink struct {
	person Person
	next   *personLink
}

// linkPeople returns the head of a linked list of people in their order.
func linkPeople(list []Person) *personLink {
	head := &personLink{}
	last := head
	for _, p := range list {
		last.next = &personLink{person: p}
		last = last.next
	}
	return head
}

// cutNext leaves out the person behind a link; there must be one.
func cutNext(link *personLink) {
	link.next = link.next.next
}

// unlinkPeople returns the people of a linked list in their order.
func unlinkPeople(head *personLink) []Person {
	list := []Person{}
	for link := head.next; link != nil; link = link.next {
		list = append(list, link.person)
	}
	return list
}

// inCodes reports whether a code is one of the first many codes.
func inCodes(code int, many int) bool {
	return code >= 0 && code < many
}

// asksCode reports whether a code is one of the first many codes, or stands for any.
func asksCode(code int, many int) bool {
	return code == anyCode || inCodes(code, many)
}

// fitsCode reports whether a code is the one that is asked for.
func fitsCode(code int, asked int) bool {
	return asked == anyCode || code == asked
}

// choosePeople returns a linked list of the people with an area, a job and a sex, and whether the people and the codes are valid.
func choosePeople(list []Person, area int, job int, sex int) (*personLink, bool) {
	if !PeopleValid(list) || !asksCode(area, Codes) || !asksCode(job, Codes) || !asksCode(sex, sexCodes) {
		return nil, false
	}
	head := linkPeople(list)
	link := head
	for link.next != nil {
		p := link.next.person
		if fitsCode(p.Area, area) && fitsCode(p.Job, job) && fitsCode(p.Sex, sex) {
			link = link.next
		} else {
			cutNext(link)
		}
	}
	return head, true
}

// PersonValid reports whether a person is valid.
func PersonValid(p Person) bool {
	return inCodes(p.Area, Codes) && inCodes(p.Job, Codes) && inCodes(p.Sex, sexCodes) && p.Pay >= 0 && p.Pay <= PayMax
}

// PeopleValid reports whether a list is one of people.
func PeopleValid(list []Person) bool {
	if len(list) > PeopleMax {
		return false
	}
	for _, p := range list {
		if !PersonValid(p) {
			return false
		}
	}
	return true
}

// PeopleMany returns the number of people with an area, a job and a sex, where -1 stands for any.
// It returns -1 if the people are invalid, or one of the codes is neither -1 nor in its range.
func PeopleMany(list []Person, area int, job int, sex int) int {
	head, ok := choosePeople(list, area, job, sex)
	if !ok {
		return -1
	}
	many := 0
	for link := head.next; link != nil; link = link.next {
		many++
	}
	return many
}

// PeoplePay returns the sum of the pays of the people with an area, a job and a sex, where -1 stands for any.
// It returns -1 if PeopleMany does.
func PeoplePay(list []Person, area int, job int, sex int) int {
	head, ok := choosePeople(list, area, job, sex)
	if !ok {
		return -1
	}
	sum := 0
	for link := head.next; link != nil; link = link.next {
		sum += link.person.Pay
	}
	return sum
}

// PeopleWithout returns the people without the one with an index, and true.
// It fails if the people are invalid or there is no such index.
func PeopleWithout(list []Person, k int) ([]Person, bool) {
	if !PeopleValid(list) || k < 0 || k >= len(list) {
		return []Person{}, false
	}
	head := linkPeople(list)
	link := head
	for range k {
		link = link.next
	}
	cutNext(link)
	return unlinkPeople(head), true
}

// PeopleBand returns the band of a pay, the pay divided by 100 and rounded down, or -1 if it is not in the range 0 to PayMax.
func PeopleBand(pay int) int {
	if pay < 0 || pay > PayMax {
		return -1
	}
	return pay / bandWidth
}
