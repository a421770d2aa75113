package hist

import (
	"iter"
	"strconv"
	"strings"

	"shutter/api"
)

// pendingText stands in a line for the To of a span that has not returned.
const pendingText = "-"

// Print is spans as lines.
func Print(l []api.Span) (string, api.Errno) {
	if errno := Right(l); errno != api.OK {
		return "", errno
	}
	var text strings.Builder
	for _, s := range l {
		text.WriteString(line(s))
	}
	return text.String(), api.OK
}

// line is the line of a right span, its line feed too.
func line(s api.Span) string {
	to := pendingText
	if !pending(s) {
		to = strconv.Itoa(s.To)
	}
	return strconv.Itoa(s.Thread) + " " + strconv.Itoa(s.Index) + " " + strconv.Itoa(s.From) + " " + to + "\n"
}

// Parse reads them.
func Parse(s string) ([]api.Span, api.Errno) {
	var spans []api.Span
	for span, ok := range read(s) {
		if !ok {
			return nil, api.ErrForm
		}
		spans = append(spans, span)
	}
	if Right(spans) != api.OK {
		return nil, api.ErrForm
	}
	return spans, api.OK
}

// read yields the span of each line, and whether the line is that of a span.
func read(s string) iter.Seq2[api.Span, bool] {
	return func(yield func(api.Span, bool) bool) {
		for rest := s; rest != ""; {
			end := strings.IndexByte(rest, '\n') + 1
			if end == 0 {
				end = len(rest)
			}
			span, ok := spanOf(rest[:end])
			if !yield(span, ok) {
				return
			}
			rest = rest[end:]
		}
	}
}

// spanOf is the span that has the line, and whether there is one.
func spanOf(text string) (api.Span, bool) {
	fields := strings.Split(strings.TrimSuffix(text, "\n"), " ")
	if len(fields) != 4 {
		return api.Span{}, false
	}
	if fields[3] == pendingText {
		fields[3] = strconv.Itoa(pendingTo)
	}
	var numbers [4]int
	for i, field := range fields {
		n, err := strconv.Atoi(field)
		if err != nil {
			return api.Span{}, false
		}
		numbers[i] = n
	}
	span := api.Span{Thread: numbers[0], Index: numbers[1], From: numbers[2], To: numbers[3]}
	// There is one way to write a span: a line that it is not written as (a nought too many, no line feed) is none of it.
	return span, line(span) == text
}
