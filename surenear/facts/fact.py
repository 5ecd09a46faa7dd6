"""What every fact can be asked."""


class Fact:
    """The base class of all facts; by itself it holds for every record and tells nothing."""

    def holds(self, record):
        """Return whether the fact holds for a record."""
        return True

    def least_distance(self, q):
        """Return the least distance from q that the fact tells."""
        return 0

    def least_differing(self, q):
        """Return the least number of places differing from q that the fact tells."""
        return self.least_distance(q)

    def most_product(self, q):
        """Return the most inner product with q that the fact tells, None if it tells none."""
        return None

    def count_bound(self, word):
        """Return the bound of a word's count, None if the fact tells none."""
        return None

    def name_bound(self):
        """Return what no name is before, None if the fact tells nothing of names."""
        return None

    def outcomes(self, condition):
        """Return whether some record can pass and whether some can fail a condition.

        None if the fact does not speak of the condition.
        """
        return None
