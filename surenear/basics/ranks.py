"""The order of records in answers."""


class Rank:
    """A cost and a name; the cost comes first."""

    def __init__(self, cost, name):
        self.cost = cost
        self.name = name

    @property
    def pair(self):
        """The tuple of the cost and the name."""
        return (self.cost, self.name)

    def before(self, other):
        """Return whether this rank comes before the other one."""
        return self.pair < other.pair

    def __eq__(self, other):
        return isinstance(other, Rank) and self.cost == other.cost and self.name == other.name
