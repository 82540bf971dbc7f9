package jlex

import "strings"

// The states of a string, each named by what was read last.
const (
	readCharacter = iota // a whole one, or the " ahead of all
	readSlash
	readNumber // the u, or one of the digits behind it but the last
	readHalf   // the first half of a pair, which no character is without the second
	readHalfSlash
	readAll
	readWrong
)

// Of a pair the first half is a number from leastFirst on, the second one from leastSecond on, both up to the next of these bounds.
const (
	leastFirst  = 0xD800
	leastSecond = 0xDC00
	behindPairs = 0xE000
	leastPaired = 0x10000
	allDigits   = 4
)

// reader is what was read of a string.
type reader struct {
	state  int
	text   strings.Builder
	number rune // what the digits read so far tell
	digits int
	first  rune // the first half of a pair that is open; 0, if none is
}

// take reads one more character.
func (p *reader) take(r rune) {
	switch p.state {
	case readCharacter:
		p.state = p.afterCharacter(r)
	case readSlash:
		p.state = p.afterSlash(r)
	case readNumber:
		p.state = p.afterDigit(r)
	case readHalf:
		p.state = onlyWith(r, '\\', readHalfSlash)
	case readHalfSlash:
		p.state = onlyWith(r, 'u', readNumber)
	}
}

// put puts a character behind those that the string means.
func (p *reader) put(r rune) int {
	p.text.WriteRune(r)
	return readCharacter
}

// onlyWith is a state that one character alone leads to.
func onlyWith(r, only rune, state int) int {
	if r == only {
		return state
	}
	return readWrong
}

// afterCharacter is the state behind a character that stands for itself, begins an escape, or ends the string.
func (p *reader) afterCharacter(r rune) int {
	switch {
	case r == '"':
		return readAll
	case r == '\\':
		return readSlash
	case r < leastPlain:
		return readWrong
	}
	return p.put(r)
}

// afterSlash is the state behind the sign that follows a \.
func (p *reader) afterSlash(r rune) int {
	if r == 'u' {
		return readNumber
	}
	if r == '/' {
		return p.put(r)
	}
	if at := strings.IndexRune(shortSigns, r); at >= 0 {
		return p.put(rune(shortMeans[at]))
	}
	return readWrong
}

// afterDigit is the state behind one more digit of a number.
func (p *reader) afterDigit(r rune) int {
	digit := digitOf(r)
	if digit < 0 {
		return readWrong
	}
	p.number = p.number<<4 | digit
	p.digits++
	switch {
	case !p.mayGoOn():
		return readWrong
	case p.digits < allDigits:
		return readNumber
	}
	return p.endNumber()
}

// mayGoOn tells whether some number that may stand here begins with the digits read so far: behind a first half a second one, else any but a second one.
func (p *reader) mayGoOn() bool {
	open := 4 * (allDigits - p.digits)
	least, behind := p.number<<open, (p.number+1)<<open
	if p.first != 0 {
		return behind > leastSecond && least < behindPairs
	}
	return least < leastSecond || behind > behindPairs
}

// endNumber is the state behind a number's last digit.
func (p *reader) endNumber() int {
	number, first := p.number, p.first
	p.number, p.digits, p.first = 0, 0, 0
	switch {
	case first != 0:
		return p.put(leastPaired + (first-leastFirst)<<10 + number - leastSecond)
	case number >= leastFirst && number < behindPairs:
		p.first = number
		return readHalf
	}
	return p.put(number)
}

// digitOf is what a digit of base 16 counts; -1, if it is none.
func digitOf(r rune) rune {
	switch {
	case r >= '0' && r <= '9':
		return r - '0'
	case r >= 'a' && r <= 'f':
		return r - 'a' + 10
	case r >= 'A' && r <= 'F':
		return r - 'A' + 10
	}
	return -1
}
