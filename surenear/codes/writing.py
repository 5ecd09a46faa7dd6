"""How values are written as codes."""

from surenear.basics.values import kind_of_value
from surenear.facts.contents import Counts, Range, Values
from surenear.facts.vectors import Box, Cell, Differ, Norms, Parts

# The numbers with which the codes of facts begin.
PARTS = 1
CELL = 2
BOX = 3
NORMS = 4
DIFFER = 5
RANGE = 6
VALUES = 7
COUNTS = 8
NAMES = 9
# The place of a lack is its number.
LACKS = ("nobody", "some", "all")


def list_code(codes):
    """Return the code of a list of values with these codes."""
    return [len(codes)] + [number for code in codes for number in code]


def numbers_code(numbers):
    """Return the code of a list of integers."""
    return [len(numbers)] + list(numbers)


def string_code(text):
    """Return the code of a string."""
    return numbers_code([ord(char) for char in text])


def value_code(worth):
    """Return the code of a value of a field."""
    kind = kind_of_value(worth)
    if kind == "integer":
        return [0, worth]
    if kind == "text":
        return [1] + string_code(worth)
    return [2, 1 if worth else 0]


def maybe_code(code):
    """Return the code of a value that may be missing; its own code is None if it is."""
    if code is None:
        return [0]
    return [1] + code


def words_code(words):
    """Return the code of a list of words with their counts."""
    return list_code([string_code(word) + [count] for word, count in words])


def record_code(record):
    """Return the code of a record."""
    fields = list_code([string_code(name) + value_code(worth) for name, worth in record.fields])
    return string_code(record.name) + numbers_code(record.vector) + fields + words_code(record.words)


def fact_code(fact):
    """Return the code of a fact: the number of its class, and its fields."""
    if isinstance(fact, Parts):
        return [PARTS] + list_code([part_code(part) for part in fact.parts])
    if isinstance(fact, Cell):
        return [CELL] + numbers_code(fact.near) + numbers_code(fact.rival)
    if isinstance(fact, Box):
        return [BOX] + numbers_code(fact.low) + numbers_code(fact.high)
    if isinstance(fact, Norms):
        return [NORMS, fact.low, fact.high]
    if isinstance(fact, Differ):
        return [DIFFER] + numbers_code(fact.centre) + [fact.most]
    if isinstance(fact, Range):
        return [RANGE] + string_code(fact.field) + [fact.low, fact.high, LACKS.index(fact.lack)]
    if isinstance(fact, Values):
        choices = list_code([value_code(worth) for worth in fact.choices])
        return [VALUES] + string_code(fact.field) + choices + [LACKS.index(fact.lack)]
    if isinstance(fact, Counts):
        return [COUNTS] + words_code(fact.words)
    return [NAMES] + string_code(fact.low) + string_code(fact.high)


def part_code(part):
    """Return the code of a part of a fact Parts."""
    return [part.start] + numbers_code(part.centre) + [part.radius]


def region_code(region):
    """Return the code of a region."""
    parent = None if region.parent is None else [region.parent]
    return maybe_code(parent) + list_code([fact_code(fact) for fact in region.facts])


def partition_code(regions):
    """Return the code of a partition, a list of regions."""
    return list_code([region_code(region) for region in regions])


def entry_code(entry):
    """Return the code of an entry of an offer."""
    return [entry.number] + record_code(entry.record) + numbers_code(entry.leaves)


def offer_code(offer):
    """Return the code of an offer."""
    partitions = list_code([partition_code(regions) for regions in offer.partitions])
    return partitions + list_code([entry_code(entry) for entry in offer.entries])
