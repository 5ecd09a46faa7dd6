"""Facts about fields, words and names."""

from surenear.basics.values import is_among, kind_of_value, same_values, satisfies
from surenear.facts.fact import Fact
from surenear.filters.conditions import Has, OneOf


class Range(Fact):
    """The integers of a field are from a low one to a high one."""

    def __init__(self, field, low, high, *, lack="nobody"):
        self.field = field
        self.low = low
        self.high = high
        self.lack = lack

    def holds(self, record):
        """Return whether the record has such an integer, or lacks the field and may."""
        worth = record.value(self.field)
        if worth is None:
            return self.lack != "nobody"
        return self.lack != "all" and is_from(self.low, self.high, worth)

    def outcomes(self, condition):
        """Return what the integers and the lack tell of a condition on the field."""
        if condition.field != self.field:
            return None
        if self.lack == "all" or isinstance(condition, Has):
            return outcomes_of_lack(self.lack)
        if isinstance(condition, OneOf):
            can_pass = any([is_from(self.low, self.high, worth) for worth in condition.choices])
            can_fail = True
        else:
            can_pass, can_fail = range_outcomes(self.low, self.high, condition.sign, condition.value)
        return (can_pass, can_fail or self.lack == "some")

    def __eq__(self, other):
        return (
            isinstance(other, Range)
            and self.field == other.field
            and self.low == other.low
            and self.high == other.high
            and self.lack == other.lack
        )


class Values(Fact):
    """The values of a field are some choices."""

    def __init__(self, field, choices, *, lack="nobody"):
        self.field = field
        self.choices = tuple(choices)
        self.lack = lack

    def holds(self, record):
        """Return whether the record has one of the choices, or lacks the field and may."""
        worth = record.value(self.field)
        if worth is None:
            return self.lack != "nobody"
        return self.lack != "all" and is_among(worth, self.choices)

    def outcomes(self, condition):
        """Return what the choices and the lack tell of a condition on the field."""
        if condition.field != self.field:
            return None
        if self.lack == "all" or isinstance(condition, Has):
            return outcomes_of_lack(self.lack)
        passed = [value_passes(worth, condition) for worth in self.choices]
        return (True in passed, False in passed or self.lack == "some")

    def __eq__(self, other):
        return (
            isinstance(other, Values)
            and self.field == other.field
            and same_values(self.choices, other.choices)
            and self.lack == other.lack
        )


class Counts(Fact):
    """The words of records are some words, with counts up to theirs."""

    def __init__(self, words):
        self.words = tuple([tuple(pair) for pair in words])
        self.bounds = greatest_counts(self.words)

    def holds(self, record):
        """Return whether all words of the record are among the words, with such counts."""
        return all([word in self.bounds and count <= self.bounds[word] for word, count in record.words])

    def count_bound(self, word):
        """Return the greatest count of a word, 0 if it is not named."""
        return self.bounds.get(word, 0)

    def __eq__(self, other):
        return isinstance(other, Counts) and self.words == other.words


class Names(Fact):
    """Names are from a low one to a high one."""

    def __init__(self, low, high):
        self.low = low
        self.high = high

    def holds(self, record):
        """Return whether the record's name is from low to high."""
        return self.low <= record.name <= self.high

    def name_bound(self):
        """Return low: no name is before it."""
        return self.low

    def __eq__(self, other):
        return isinstance(other, Names) and self.low == other.low and self.high == other.high


def greatest_counts(words):
    """Return a dict of the greatest count of each word, at least 0."""
    bounds = {}
    for word, count in words:
        bounds[word] = max(count, bounds.get(word, 0))
    return bounds


def is_from(low, high, worth):
    """Return whether a value is an integer from low to high."""
    return kind_of_value(worth) == "integer" and low <= worth <= high


def outcomes_of_lack(lack):
    """Return the outcomes of has, and those of every condition if all records lack the field."""
    return (lack != "all", lack != "nobody")


def range_outcomes(low, high, sign, value):
    """Return the outcomes of a comparison for the integers from low to high."""
    if kind_of_value(value) != "integer":
        return (False, True)
    can_equal = low <= value <= high
    can_differ = not (low == value == high)
    if sign == "=":
        return (can_equal, can_differ)
    if sign == "!=":
        return (can_differ, can_equal)
    if sign == "<":
        return (low < value, value <= high)
    if sign == "<=":
        return (low <= value, value < high)
    if sign == ">":
        return (value < high, low <= value)
    return (value <= high, low < value)


def value_passes(worth, condition):
    """Return whether a value satisfies a comparison or a list."""
    if isinstance(condition, OneOf):
        return is_among(worth, condition.choices)
    return satisfies(worth, condition.sign, condition.value)
