"""Points [28], [30] to [35]: what a plain fact tells, and what facts do not tell."""

import unittest

from surenear.facts.contents import Counts, Names, Range, Values
from surenear.facts.fact import Fact
from surenear.facts.vectors import Box, Cell, Differ, Norms, Part, Parts
from surenear.filters.conditions import Compare, Has, OneOf
from surenear.records.record import Record

CONDITIONS = (Has("i"), Compare("i", "=", 1), OneOf("i", [1]))


def facts():
    """Facts that are all different, new ones each time."""
    return [
        Parts([]), Parts([Part(0, [1], 2)]), Parts([Part(1, [1], 2)]), Parts([Part(0, [2], 2)]),
        Parts([Part(0, [1], 3)]), Parts([Part(0, [1], 2), Part(0, [1], 2)]), Parts([Part(0, [], 2)]),
        Cell([1], [2]), Cell([2], [1]), Cell([1], [3]), Cell([1, 1], [2, 2]),
        Box([1], [2]), Box([0], [2]), Box([1], [3]), Box([1, 1], [2, 2]),
        Norms(1, 2), Norms(0, 2), Norms(1, 3), Norms(2, 1),
        Differ([1], 2), Differ([2], 2), Differ([1], 3), Differ([1, 1], 2),
        Range("i", 1, 2), Range("j", 1, 2), Range("i", 0, 2), Range("i", 1, 3),
        Range("i", 1, 2, lack="some"), Range("i", 1, 2, lack="all"),
        Values("i", [1, 2]), Values("j", [1, 2]), Values("i", [2, 1]), Values("i", [1]), Values("i", []),
        Values("i", [True, 2]), Values("i", ["1", 2]), Values("i", [1, 2, 2]),
        Values("i", [1, 2], lack="some"), Values("i", [1, 2], lack="all"),
        Values("i", [0]), Values("i", [False]), Values("i", [True]),
        Counts([]), Counts([("a", 1)]), Counts([("a", 2)]), Counts([("b", 1)]), Counts([("a", 1), ("b", 1)]),
        Counts([("b", 1), ("a", 1)]),
        Names("a", "b"), Names("b", "a"), Names("a", "c"), Names("", "b"),
    ]


class PlainFactTest(unittest.TestCase):
    def test_holds_for_every_record(self):
        for record in (Record("n", []), Record("", [1, 2], fields=[("i", 1)], words=[("a", 1)])):
            self.assertIs(Fact().holds(record), True)

    def test_tells_nothing(self):
        for q in ([], [1], (3, -4)):
            self.assertEqual(Fact().least_distance(q), 0)
            self.assertEqual(Fact().least_differing(q), 0)
            self.assertIsNone(Fact().most_product(q))
        self.assertIsNone(Fact().count_bound("a"))
        self.assertIsNone(Fact().name_bound())
        for condition in CONDITIONS:
            self.assertIsNone(Fact().outcomes(condition))

    def test_base_class(self):
        for fact in facts():
            self.assertIsInstance(fact, Fact)


class EqualityTest(unittest.TestCase):
    def test_equal_only_to_the_same(self):
        ones, others = facts(), facts()
        for k, one in enumerate(ones):
            for j, other in enumerate(others):
                self.assertIs(one == other, k == j, (k, j))
                self.assertIs(one != other, k != j, (k, j))

    def test_lists_and_tuples(self):
        self.assertTrue(Parts([Part(0, [1], 2)]) == Parts((Part(0, (1,), 2),)))
        self.assertTrue(Cell([1], (2,)) == Cell((1,), [2]))
        self.assertTrue(Counts([["a", 1]]) == Counts((("a", 1),)))
        self.assertTrue(Values("i", [1]) == Values("i", (1,)))

    def test_not_equal_to_other_values(self):
        for fact in facts():
            for other in (None, 1, "a", (1, 2), ("a", "b"), [], (), object(), Fact()):
                self.assertFalse(fact == other)
                self.assertTrue(fact != other)


class NothingToldTest(unittest.TestCase):
    """What facts tell that do not speak of something."""

    def test_least_distance(self):
        for fact in (Differ([0, 0], 0), Range("i", 1, 1), Values("i", [1]), Counts([]), Names("b", "b")):
            self.assertEqual(fact.least_distance([5, 5]), 0)
            self.assertEqual(fact.least_distance([]), 0)

    def test_least_differing_is_the_least_distance_of_all_but_differ(self):
        q = [5, -5]
        told = [(fact.least_differing(q), fact.least_distance(q)) for fact in (
            Parts([Part(0, [0, 0], 1)]), Cell([0, 0], [5, 5]), Box([0, 0], [1, 1]), Norms(0, 4), Norms(100, 200),
            Range("i", 1, 1), Values("i", [1]), Counts([]), Names("b", "b"),
        )]
        for differing, distance in told:
            self.assertEqual(differing, distance)
        self.assertEqual([distance for _, distance in told], [37, 0, 41, 26, 9, 0, 0, 0, 0])
        self.assertEqual(Cell([0, 0], [9, 9]).least_differing([9, 9]), 41)

    def test_most_product(self):
        for fact in (Cell([0, 0], [1, 1]), Differ([0, 0], 0), Range("i", 1, 1), Values("i", [1]), Counts([]),
                     Names("b", "b")):
            self.assertIsNone(fact.most_product([5, 5]))
            self.assertIsNone(fact.most_product([]))

    def test_count_bound(self):
        for fact in facts():
            if not isinstance(fact, Counts):
                self.assertIsNone(fact.count_bound("a"))

    def test_name_bound(self):
        for fact in facts():
            if not isinstance(fact, Names):
                self.assertIsNone(fact.name_bound())

    def test_outcomes(self):
        for fact in facts():
            if not isinstance(fact, (Range, Values)):
                for condition in CONDITIONS:
                    self.assertIsNone(fact.outcomes(condition))


if __name__ == "__main__":
    unittest.main()
