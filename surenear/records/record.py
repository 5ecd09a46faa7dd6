"""Records."""

from surenear.basics.values import kind_of_value


class Record:
    """A name with a vector, fields and words."""

    def __init__(self, name, vector, *, fields=(), words=()):
        self.name = name
        self.vector = tuple(vector)
        self.fields = tuple([tuple(pair) for pair in fields])
        self.words = tuple([tuple(pair) for pair in words])

    def value(self, name):
        """Return the value of a field, None if the record lacks it."""
        for known, worth in self.fields:
            if known == name:
                return worth
        return None

    def count_of(self, word):
        """Return the count of a word, 0 if the record does not have it."""
        for known, count in self.words:
            if known == word:
                return count
        return 0

    def __eq__(self, other):
        return (
            isinstance(other, Record)
            and self.name == other.name
            and self.vector == other.vector
            and same_fields(self.fields, other.fields)
            and self.words == other.words
        )


def same_fields(ones, others):
    """Return whether two tuples of pairs are equal, and their values of the same kinds."""
    kinds = [kind_of_value(worth) for _, worth in ones]
    return kinds == [kind_of_value(worth) for _, worth in others] and ones == others
