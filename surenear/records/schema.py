"""Schemas: what all records of a collection have in common."""

from surenear.basics.letters import is_word
from surenear.basics.numbers import differing, distance, inner
from surenear.basics.values import kind_of_value
from surenear.errors import InvalidRecord, InvalidSchema

KINDS = ("integer", "text", "flag")
MEASURES = ("square", "dot", "bits")
WIDTHS = {"bit": (0, 1), "small": (-128, 127), "wide": (-32768, 32767)}
# These words have a meaning in filters, so no field is called so.
RESERVED = ("every", "has", "in", "and", "or", "not", "true", "false")


class Schema:
    """The size, the width, the measure and the fields of records."""

    def __init__(self, size, *, width="small", measure="square", fields=()):
        self.size = size
        self.width = width
        self.measure = measure
        self.fields = tuple([tuple(pair) for pair in fields])
        check_vectors(size, width, measure)
        check_fields(self.fields)

    @property
    def least(self):
        """The least number of a vector."""
        return WIDTHS[self.width][0]

    @property
    def greatest(self):
        """The greatest number of a vector."""
        return WIDTHS[self.width][1]

    def kind_of(self, name):
        """Return the kind of a field, None if there is no such field."""
        for known, kind in self.fields:
            if known == name:
                return kind
        return None

    def far(self, a, b):
        """Return how far two vectors are apart, by the measure."""
        if self.measure == "square":
            return distance(a, b)
        if self.measure == "dot":
            return -inner(a, b)
        return differing(a, b)

    def __contains__(self, record):
        return (
            record.name != ""
            and len(record.vector) == self.size
            and are_within(record.vector, self.width)
            and are_fields_of(record.fields, self.fields)
            and are_words(record.words)
        )

    def check(self, record):
        """Raise InvalidRecord if the record is not of this schema."""
        if record not in self:
            raise InvalidRecord("the record is not of the schema")

    def __eq__(self, other):
        return (
            isinstance(other, Schema)
            and self.size == other.size
            and self.width == other.width
            and self.measure == other.measure
            and self.fields == other.fields
        )


def check_vectors(size, width, measure):
    """Raise InvalidSchema if there are no such vectors, or they cannot be measured so."""
    if size < 1:
        raise InvalidSchema("the size is less than 1")
    if width not in WIDTHS:
        raise InvalidSchema("there is no such width")
    if measure not in MEASURES:
        raise InvalidSchema("there is no such measure")
    if measure == "bits" and width != "bit":
        raise InvalidSchema("bits can be measured only where the width is bit")


def check_fields(fields):
    """Raise InvalidSchema if the names or the kinds of the fields are not allowed."""
    for name, kind in fields:
        if not is_word(name) or name in RESERVED:
            raise InvalidSchema("this is no name of a field")
        if kind not in KINDS:
            raise InvalidSchema("there is no such kind")
    if len(set([name for name, _ in fields])) < len(fields):
        raise InvalidSchema("two fields have the same name")


def are_within(vector, width):
    """Return whether all numbers of a vector are within a width."""
    low, high = WIDTHS[width]
    return all([low <= number <= high for number in vector])


def are_fields_of(fields, known):
    """Return whether the fields of a record are known ones, in order, of their kinds."""
    place = 0
    for name, worth in fields:
        while place < len(known) and known[place][0] != name:
            place += 1
        if place == len(known) or known[place][1] != kind_of_value(worth):
            return False
        # Each field at most once: the next one is looked for behind this one.
        place += 1
    return True


def are_words(words):
    """Return whether words are in order, each once, not empty and with a count."""
    last = ""
    for word, count in words:
        # The empty string is before all words, so it is not after last either.
        if word <= last or count < 1:
            return False
        last = word
    return True
