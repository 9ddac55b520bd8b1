package sha

import (
	"strconv"
	"testing"

	"coffer/api"
)

// mustAsk asks a book for a text that it takes.
func mustAsk(t *testing.T, b *Book, s string) {
	t.Helper()
	if d, e := b.Of(s); e != api.OK || d != expected(s) {
		t.Fatalf("Of(%q) of a book: %x, %v", s, d, e)
	}
}

// P1.3: a text is counted once, however often it is asked for.
func TestBook(t *testing.T) {
	b := NewBook()
	if b == nil || b.Len() != 0 {
		t.Fatal("NewBook")
	}
	for i, c := range []struct {
		text string
		len  int
	}{{"a", 1}, {"a", 1}, {"b", 2}, {"", 3}, {"a", 3}, {"", 3}, {"b", 3}, {"a\x00", 4}, {text(200, 1), 5}, {text(200, 1), 5}} {
		mustAsk(t, b, c.text)
		if b.Len() != c.len {
			t.Errorf("Len behind text %d: %d, not %d", i, b.Len(), c.len)
		}
		if x, y, is := b.Clash(); x != "" || y != "" || is {
			t.Errorf("a clash of %q and %q", x, y)
		}
	}
	if NewBook().Len() != 0 {
		t.Error("a second book has what the first one has")
	}
}

// P1.3, R2: the last text that has room, the first that has none; those that are in the book go on.
func TestBookFull(t *testing.T) {
	b := NewBook()
	for i := range api.MaxBook {
		mustAsk(t, b, strconv.Itoa(i))
		if b.Len() != i+1 {
			t.Fatalf("Len: %d, not %d", b.Len(), i+1)
		}
	}
	for range 2 {
		if d, e := b.Of("one more"); e != api.ErrFull || d != "" || b.Len() != api.MaxBook {
			t.Errorf("one text beyond: %x, %v, %d", d, e, b.Len())
		}
	}
	for i := range api.MaxBook {
		mustAsk(t, b, strconv.Itoa(i))
	}
	if _, _, is := b.Clash(); is || b.Len() != api.MaxBook {
		t.Error("a full book")
	}
}

// P1.3: of several clashes the one whose second text came first. No two unlike texts of one digest are known: they are written into the book.
func TestClash(t *testing.T) {
	cases := []struct {
		digests string // of the texts 0, 1, 2 and so on, a byte each
		x, y    string
		is      bool
	}{
		{"", "", "", false},
		{"p", "", "", false},
		{"pqr", "", "", false},
		{"pp", "0", "1", true},
		{"pqrp", "0", "3", true},
		{"pqqp", "1", "2", true},
		{"pqrqp", "1", "3", true},
		{"ppqq", "0", "1", true},
		{"ppp", "0", "1", true},
		{"pqpqp", "0", "2", true},
		{"qpprq", "1", "2", true},
	}
	for _, c := range cases {
		b := NewBook()
		for i := range len(c.digests) {
			b.asked = append(b.asked, entry{strconv.Itoa(i), c.digests[i : i+1]})
		}
		for range 2 {
			if x, y, is := b.Clash(); x != c.x || y != c.y || is != c.is {
				t.Errorf("Clash of %s: %q, %q, %v", c.digests, x, y, is)
			}
		}
	}
}

// P1.3: a clash stands, whatever is asked for behind it.
func TestClashStands(t *testing.T) {
	b := NewBook()
	b.asked = []entry{{"lie", expected("a")}}
	mustAsk(t, b, "b")
	mustAsk(t, b, "a")
	mustAsk(t, b, "c")
	mustAsk(t, b, "a")
	if x, y, is := b.Clash(); x != "lie" || y != "a" || !is || b.Len() != 4 {
		t.Errorf("%q, %q, %v, %d", x, y, is, b.Len())
	}
}

// R3: a book that is nil, or that no call of the package made.
func TestBookNotMade(t *testing.T) {
	for name, b := range map[string]*Book{"nil": nil, "a bare one": {}} {
		if d, e := b.Of("a"); e != api.ErrNil || d != "" {
			t.Errorf("Of of %s: %x, %v", name, d, e)
		}
		if x, y, is := b.Clash(); b.Len() != 0 || x != "" || y != "" || is {
			t.Errorf("%s: %d, %q, %q, %v", name, b.Len(), x, y, is)
		}
	}
	var bare Book
	bare.Of("a")
	if bare.made || bare.asked != nil {
		t.Error("Of of a bare book did something")
	}
}
