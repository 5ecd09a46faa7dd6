"""Questions: queries for a schema, and what records cost by them."""

from surenear.basics.ranks import Rank
from surenear.errors import InvalidQuery
from surenear.filters.reading import read_filter
from surenear.records.schema import are_within

# A greater count of a word in a record counts as this one.
MOST_COUNT = 15


class Question:
    """A query for a schema, with its filter."""

    def __init__(self, schema, query):
        check_query(schema, query)
        self.schema = schema
        self.query = query
        self.condition = read_filter(schema, query.text)

    def passes(self, record):
        """Return whether a record passes the filter."""
        return self.condition.passes(record)

    def cost(self, record):
        """Return the cost of a record: its weighted distance minus its weighted words."""
        far = self.schema.far(record.vector, self.query.vector)
        counted = [weight * min(MOST_COUNT, record.count_of(word)) for word, weight in self.query.words]
        return self.query.near * far - sum(counted)

    def rank(self, record):
        """Return the rank of a record."""
        return Rank(self.cost(record), record.name)

    def first(self, records):
        """Return the first ones of the records that pass, in the order of their ranks."""
        passed = [record for record in records if self.passes(record)]
        return sorted(passed, key=lambda record: self.rank(record).pair)[:self.query.most]


def check_query(schema, query):
    """Raise InvalidQuery if a query is invalid for a schema; its filter is not looked at."""
    if len(query.vector) != schema.size or not are_within(query.vector, schema.width):
        raise InvalidQuery("the vector is none of the schema")
    if query.near < 0 or any([weight < 0 for _, weight in query.words]):
        raise InvalidQuery("a weight is less than 0")
    if query.most < 1:
        raise InvalidQuery("less than one record is asked for")
    if len(set([word for word, _ in query.words])) < len(query.words):
        raise InvalidQuery("a word stands twice")
