"""Which messages of shards have the form of their kind; all others are ignored."""

from surenear.facts.contents import Counts, Names, Range, Values
from surenear.facts.vectors import Box, Cell, Differ, Norms, Parts
from surenear.records.record import Record
from surenear.regions.offer import Entry
from surenear.regions.region import Region
from surenear.search.report import ReportPart

# The kinds, and the number of items of each.
SIZES = {"sealed": 4, "piece": 5, "gone": 2, "needs": 2, "fetched": 2, "answer": 3}


def is_known(message):
    """Return whether a message, which a shard may have invented, has the form of its kind."""
    if len(message) == 0 or not isinstance(message[0], str):
        return False
    kind = message[0]
    if kind not in SIZES or len(message) != SIZES[kind]:
        return False
    if kind == "fetched":
        return is_list(message[1]) and all([is_numbered(pair) for pair in message[1]])
    if kind == "answer":
        return is_list(message[2]) and all([isinstance(part, ReportPart) for part in message[2]])
    if not is_name(message[1]):
        return False
    if kind == "sealed":
        return isinstance(message[2], int) and is_list(message[3]) and all([is_regions(told) for told in message[3]])
    if kind == "piece":
        return is_list(message[4]) and all([isinstance(entry, Entry) for entry in message[4]])
    return True


def is_list(told):
    """Return whether something is a list or a tuple."""
    return isinstance(told, (list, tuple))


def is_name(told):
    """Return whether something is the name of a segment."""
    return isinstance(told, tuple) and len(told) == 2 and all([isinstance(number, int) for number in told])


def is_regions(told):
    """Return whether something is a list of regions whose facts have codes."""
    return is_list(told) and all([isinstance(region, Region) and has_codes(region.facts) for region in told])


def has_codes(facts):
    """Return whether all facts are of classes that the gateway's disk can keep."""
    return all([
        isinstance(fact, (Parts, Cell, Box, Norms, Differ, Range, Values, Counts, Names)) for fact in facts
    ])


def is_numbered(told):
    """Return whether something is a number and a record."""
    return is_list(told) and len(told) == 2 and isinstance(told[0], int) and isinstance(told[1], Record)
