"""Points [64] to [67]: how values are written as codes."""

import unittest

from surenear.codes.writing import (
    entry_code, fact_code, list_code, maybe_code, numbers_code, offer_code, partition_code, record_code, region_code,
    string_code, value_code,
)
from surenear.facts.contents import Counts, Names, Range, Values
from surenear.facts.vectors import Box, Cell, Differ, Norms, Part, Parts
from surenear.records.record import Record
from surenear.regions.offer import Entry, Offer
from surenear.regions.region import Region

RECORD = Record("ab", [3, -4], fields=[("i", -7), ("t", "x"), ("f", True)], words=[("a", 2), ("bc", 1)])
RECORD_CODE = [
    2, 97, 98, 2, 3, -4,
    3, 1, 105, 0, -7, 1, 116, 1, 1, 120, 1, 102, 2, 1,
    2, 1, 97, 2, 2, 98, 99, 1,
]
FACT_CODES = (
    (Parts([]), [1, 0]),
    (Parts([Part(0, [5, -6], 7), Part(2, [], 0)]), [1, 2, 0, 2, 5, -6, 7, 2, 0, 0]),
    (Cell([1, 2], [3]), [2, 2, 1, 2, 1, 3]),
    (Box([-1], [4, 5]), [3, 1, -1, 2, 4, 5]),
    (Norms(3, 9), [4, 3, 9]),
    (Differ([1, 0, 1], 2), [5, 3, 1, 0, 1, 2]),
    (Range("i", -2, 8), [6, 1, 105, -2, 8, 0]),
    (Range("i", -2, 8, lack="some"), [6, 1, 105, -2, 8, 1]),
    (Range("i", -2, 8, lack="all"), [6, 1, 105, -2, 8, 2]),
    (Values("t", [3, "x", False]), [7, 1, 116, 3, 0, 3, 1, 1, 120, 2, 0, 0]),
    (Values("t", [], lack="some"), [7, 1, 116, 0, 1]),
    (Values("t", [True, 1], lack="all"), [7, 1, 116, 2, 2, 1, 0, 1, 2]),
    (Counts([]), [8, 0]),
    (Counts([("b", 4), ("ab", -1), ("b", 2)]), [8, 3, 1, 98, 4, 2, 97, 98, -1, 1, 98, 2]),
    (Names("a", "~z"), [9, 1, 97, 2, 126, 122]),
    (Names("", ""), [9, 0, 0]),
)


class SimpleCodeTest(unittest.TestCase):
    def test_list(self):
        for codes, code in (([], [0]), ([[]], [1]), ([[5]], [1, 5]), ([[5, 6], [], [7]], [3, 5, 6, 7]), ([[1, 0], [0]], [2, 1, 0, 0])):
            self.assertEqual(list_code(codes), code)

    def test_numbers(self):
        for numbers, code in (([], [0]), ([7], [1, 7]), ((3, -1, 3), [3, 3, -1, 3]), ([10 ** 30], [1, 10 ** 30])):
            self.assertEqual(numbers_code(numbers), code)

    def test_string(self):
        for text, code in (("", [0]), (" ", [1, 32]), ("~", [1, 126]), ("Ab 1", [4, 65, 98, 32, 49]), ('"\\', [2, 34, 92])):
            self.assertEqual(string_code(text), code)

    def test_value(self):
        for worth, code in ((0, [0, 0]), (1, [0, 1]), (-5, [0, -5]), ("", [1, 0]), ("ab", [1, 2, 97, 98]), ("1", [1, 1, 49]),
                            (True, [2, 1]), (False, [2, 0])):
            self.assertEqual(value_code(worth), code)
            self.assertEqual([type(number) for number in value_code(worth)], [int] * len(code))

    def test_maybe(self):
        for code, expected in ((None, [0]), ([], [1]), ([0], [1, 0]), ([5, 6], [1, 5, 6])):
            self.assertEqual(maybe_code(code), expected)

    def test_new_lists(self):
        code, codes, numbers = [5], [[5], [6]], [5, 6]
        for made in (maybe_code(code), list_code(codes), list_code([code]), numbers_code(numbers), maybe_code(None), string_code("")):
            self.assertIs(type(made), list)
            made.append(9)
        self.assertEqual((code, codes, numbers), ([5], [[5], [6]], [5, 6]))
        self.assertEqual((maybe_code(None), string_code(""), list_code([])), ([0], [0], [0]))


class RecordCodeTest(unittest.TestCase):
    def test_record(self):
        self.assertEqual(record_code(RECORD), RECORD_CODE)

    def test_bare_records(self):
        self.assertEqual(record_code(Record("", [])), [0, 0, 0, 0])
        self.assertEqual(record_code(Record("n", [0])), [1, 110, 1, 0, 0, 0])
        self.assertEqual(record_code(Record("n", [0], fields=[("f", False)])), [1, 110, 1, 0, 1, 1, 102, 2, 0, 0])
        self.assertEqual(record_code(Record("n", [0], words=[("", 3)])), [1, 110, 1, 0, 0, 1, 0, 3])


class FactCodeTest(unittest.TestCase):
    def test_facts(self):
        for fact, code in FACT_CODES:
            self.assertEqual(fact_code(fact), code)
            self.assertIs(type(fact_code(fact)), list)

    def test_facts_are_not_changed(self):
        for (fact, _), (same, _) in zip(FACT_CODES, FACT_CODES, strict=True):
            fact_code(fact).clear()
            self.assertEqual(fact, same)


class OfferCodeTest(unittest.TestCase):
    def test_region(self):
        self.assertEqual(region_code(Region(None, [])), [0, 0])
        self.assertEqual(region_code(Region(0, [])), [1, 0, 0])
        self.assertEqual(region_code(Region(3, [Norms(1, 2), Names("", "a")])), [1, 3, 2, 4, 1, 2, 9, 0, 1, 97])

    def test_partition(self):
        self.assertEqual(partition_code([]), [0])
        self.assertEqual(partition_code((Region(None, []), Region(0, [Norms(1, 2)]))), [2, 0, 0, 1, 0, 1, 4, 1, 2])

    def test_entry(self):
        self.assertEqual(entry_code(Entry(7, RECORD, [2, 0])), [7] + RECORD_CODE + [2, 2, 0])
        self.assertEqual(entry_code(Entry(-1, Record("", []), [])), [-1, 0, 0, 0, 0, 0])

    def test_offer(self):
        self.assertEqual(offer_code(Offer([], [])), [0, 0])
        self.assertEqual(offer_code(Offer([[]], [])), [1, 0, 0])
        offer = Offer([[Region(None, []), Region(0, [])], []], [Entry(4, RECORD, [1]), Entry(5, Record("", []), [])])
        self.assertEqual(offer_code(offer), [2, 2, 0, 0, 1, 0, 0, 0, 2, 4] + RECORD_CODE + [1, 1, 5, 0, 0, 0, 0, 0])


if __name__ == "__main__":
    unittest.main()
