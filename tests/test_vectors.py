"""Points [28] to [32]: the facts about vectors."""

import itertools
import math
import unittest

from surenear.facts.vectors import Box, Cell, Differ, Norms, Part, Parts
from surenear.records.record import Record


def record(*vector):
    return Record("n", vector)


def grid(size, low=-3, high=3):
    """All vectors of a size with numbers from low to high."""
    return list(itertools.product(range(low, high + 1), repeat=size))


def square(a, b):
    return sum((x - y) ** 2 for x, y in zip(a, b, strict=True))


def inner(a, b):
    return sum(x * y for x, y in zip(a, b, strict=True))


def differing(a, b):
    return sum(x != y for x, y in zip(a, b, strict=True))


class SoundTest(unittest.TestCase):
    """What facts tell of a vector is true of all records for which they hold."""

    def test_bounds(self):
        facts = [
            Parts([Part(0, [1, -2], 3)]), Parts([Part(0, [2], 1), Part(1, [-1], 2)]), Parts([Part(1, [2], 1)]),
            Parts([Part(0, [1, 1], 5), Part(1, [0], 1)]), Parts([]), Parts([Part(0, [2, 2], 0)]),
            Parts([Part(1, [2], 1), Part(0, [0], 1)]), Parts([Part(0, [], 0), Part(0, [3, 0], 4)]),
            Cell([0, 0], [2, 1]), Cell([-3, 1], [1, 1]), Cell([1, 1], [1, 1]), Cell([3, 3], [-3, -2]),
            Box([0, -1], [1, 2]), Box([-2, -2], [-1, -1]), Box([3, -3], [3, 3]),
            Norms(0, 2), Norms(5, 10), Norms(9, 18), Norms(0, 0),
            Differ([0, 1], 0), Differ([0, 1], 1), Differ([2, 2], 2),
        ]
        vectors = grid(2)
        for k, fact in enumerate(facts):
            held = [vector for vector in vectors if fact.holds(record(*vector))]
            self.assertTrue(held)
            for q in vectors:
                distance, product = fact.least_distance(q), fact.most_product(q)
                self.assertLessEqual(distance, min(square(q, vector) for vector in held), (k, q))
                if not isinstance(fact, (Cell, Parts, Box, Norms)):
                    self.assertLessEqual(fact.least_differing(q), min(differing(q, vector) for vector in held))
                if product is not None:
                    self.assertGreaterEqual(product, max(inner(q, vector) for vector in held), (k, q))


class PartTest(unittest.TestCase):
    def test_fields(self):
        centre = [1, 2]
        part = Part(3, centre, 4)
        self.assertEqual((part.start, part.centre, part.radius), (3, (1, 2), 4))
        self.assertIs(type(part.centre), tuple)
        centre[0] = 9
        self.assertEqual(part.centre, (1, 2))

    def test_after(self):
        self.assertEqual(Part(3, [1, 2], 4).after, 5)
        self.assertEqual(Part(0, [], 4).after, 0)
        self.assertEqual(Part(-1, [1, 2, 3], 4).after, 2)
        self.assertIsInstance(Part.__dict__["after"], property)

    def test_equality(self):
        self.assertTrue(Part(0, [1], 2) == Part(0, (1,), 2))
        self.assertFalse(Part(0, [1], 2) != Part(0, [1], 2))
        for other in (Part(1, [1], 2), Part(0, [2], 2), Part(0, [1], 3), Part(0, [1, 1], 2), (0, (1,), 2), None, 0):
            self.assertFalse(Part(0, [1], 2) == other)
            self.assertTrue(Part(0, [1], 2) != other)


class PartsTest(unittest.TestCase):
    def test_fields(self):
        parts = [Part(0, [1], 2), Part(1, [1], 2)]
        fact = Parts(parts)
        self.assertEqual(fact.parts, tuple(parts))
        self.assertIs(type(fact.parts), tuple)
        parts.pop()
        self.assertEqual(len(fact.parts), 2)

    def test_holds(self):
        fact = Parts([Part(0, [1, 2], 5)])
        self.assertIs(fact.holds(record(1, 2)), True)
        self.assertIs(fact.holds(record(2, 4)), True)
        self.assertIs(fact.holds(record(0, 0)), True)
        self.assertIs(fact.holds(record(1, 5)), False)
        self.assertIs(fact.holds(record(3, 3)), True)
        self.assertIs(fact.holds(record(3, 4)), False)

    def test_holds_just_inside_and_outside(self):
        for radius, holds in ((12, False), (13, True), (14, True)):
            self.assertIs(Parts([Part(0, [1, 2], radius)]).holds(record(3, 5)), holds)
        self.assertIs(Parts([Part(0, [1, 2], 0)]).holds(record(1, 2)), True)
        self.assertIs(Parts([Part(0, [1, 2], 0)]).holds(record(1, 3)), False)
        self.assertIs(Parts([Part(0, [1, 2], -1)]).holds(record(1, 2)), False)

    def test_holds_for_the_numbers_from_the_start_on(self):
        fact = Parts([Part(1, [5], 1)])
        self.assertIs(fact.holds(record(99, 5, 99)), True)
        self.assertIs(fact.holds(record(99, 6)), True)
        self.assertIs(fact.holds(record(5, 7)), False)
        self.assertIs(fact.holds(record(99, 3, 5)), False)

    def test_all_parts_must_hold(self):
        fact = Parts([Part(0, [1], 1), Part(2, [3], 4)])
        self.assertIs(fact.holds(record(1, 99, 3)), True)
        self.assertIs(fact.holds(record(2, -99, 5)), True)
        self.assertIs(fact.holds(record(3, 99, 3)), False)
        self.assertIs(fact.holds(record(1, 99, 6)), False)

    def test_holds_for_vectors_that_are_long_enough(self):
        fact = Parts([Part(1, [0, 0], 100)])
        self.assertIs(fact.holds(record(0, 0)), False)
        self.assertIs(fact.holds(record(0)), False)
        self.assertIs(fact.holds(record()), False)
        self.assertIs(fact.holds(record(0, 0, 0)), True)
        self.assertIs(fact.holds(record(0, 0, 0, 0)), True)

    def test_start_below_zero(self):
        for start, centre in ((-1, [0]), (-1, []), (-2, [0, 0]), (-1, [0, 0]), (-3, [0])):
            fact = Parts([Part(start, centre, 100)])
            for vector in ((), (0,), (0, 0), (0, 0, 0)):
                self.assertIs(fact.holds(record(*vector)), False)
                self.assertEqual(fact.least_distance(vector), 0)
                self.assertIsNone(fact.most_product(vector))
            self.assertEqual(Parts([Part(start, [50] * len(centre), 0)]).least_distance([0, 0]), 0)
            mixed = Parts([Part(start, centre, 100), Part(0, [50, 50], 0)])
            self.assertEqual(mixed.least_distance([0, 0]), 0)
            self.assertIs(mixed.holds(record(50, 50)), False)

    def test_empty_parts(self):
        self.assertIs(Parts([]).holds(record()), True)
        self.assertIs(Parts([]).holds(record(1, 2)), True)
        self.assertIs(Parts([Part(2, [], 0)]).holds(record(1, 2)), True)
        self.assertIs(Parts([Part(3, [], 0)]).holds(record(1, 2)), False)
        self.assertIs(Parts([Part(0, [], 0)]).holds(record()), True)

    def test_least_distance(self):
        # gap(25, 4) is 9, gap(13, 2) is 15 - 10.
        self.assertEqual(Parts([Part(0, [0, 0], 4)]).least_distance([3, 4]), 9)
        self.assertEqual(Parts([Part(0, [1, 2], 2)]).least_distance((3, 5)), 5)
        self.assertEqual(Parts([Part(0, [0, 0], 0)]).least_distance([3, 4]), 25)
        self.assertEqual(Parts([Part(0, [0, 0], 24)]).least_distance([3, 4]), 49 - math.isqrt(4 * 25 * 24))
        self.assertEqual(Parts([Part(0, [0, 0], 25)]).least_distance([3, 4]), 0)
        self.assertEqual(Parts([Part(0, [0, 0], 36)]).least_distance([3, 4]), 0)

    def test_least_distance_of_parts_that_follow_each_other(self):
        fact = Parts([Part(0, [0], 1), Part(1, [0, 0], 4)])
        self.assertEqual(fact.least_distance([5, 3, 4]), 16 + 9)
        self.assertEqual(fact.least_distance([1, 3, 4]), 9)
        self.assertEqual(fact.least_distance([5, 3, 4, 99]), 16 + 9)

    def test_least_distance_with_gaps(self):
        fact = Parts([Part(1, [0], 1), Part(3, [0, 0], 4)])
        self.assertEqual(fact.least_distance([99, 5, 99, 3, 4]), 16 + 9)
        self.assertEqual(Parts([Part(1, [0, 0], 4)]).least_distance([99, 3, 4]), 9)

    def test_least_distance_of_parts_that_overlap(self):
        self.assertEqual(Parts([Part(0, [0, 0], 0), Part(1, [0], 0)]).least_distance([3, 4]), 0)
        self.assertEqual(Parts([Part(0, [0], 0), Part(0, [0], 0)]).least_distance([3]), 0)
        self.assertEqual(Parts([Part(0, [0, 0, 0], 0), Part(1, [0], 0), Part(3, [0], 0)]).least_distance([3, 3, 3, 3]), 0)

    def test_least_distance_of_parts_out_of_order(self):
        self.assertEqual(Parts([Part(1, [0], 0), Part(0, [0], 0)]).least_distance([3, 4]), 0)
        self.assertEqual(Parts([Part(0, [0], 0), Part(2, [0], 0), Part(1, [0], 0)]).least_distance([3, 4, 5]), 0)

    def test_least_distance_with_empty_parts(self):
        self.assertEqual(Parts([Part(0, [], 0), Part(0, [0], 0), Part(1, [], 0)]).least_distance([3]), 9)
        self.assertEqual(Parts([Part(0, [0, 0], 0), Part(1, [], 0)]).least_distance([3, 4]), 0)
        self.assertEqual(Parts([]).least_distance([3, 4]), 0)
        self.assertEqual(Parts([]).least_distance([]), 0)
        self.assertEqual(Parts([Part(0, [], 0)]).least_distance([]), 0)

    def test_least_distance_of_vectors_that_do_not_fit(self):
        for q in ([], [9], [9, 9]):
            self.assertEqual(Parts([Part(1, [0, 0], 0)]).least_distance(q), 0)
            self.assertEqual(Parts([Part(0, [0], 0), Part(1, [0, 0], 0)]).least_distance(q), 0)
        self.assertEqual(Parts([Part(0, [0], 0), Part(1, [0, 0], 0)]).least_distance([9, 0, 0]), 81)

    def test_most_product(self):
        # 3*1 + 4*2 and the root of 25 * 2.
        self.assertEqual(Parts([Part(0, [1, 2], 2)]).most_product([3, 4]), 11 + 7)
        self.assertEqual(Parts([Part(0, [-1, 2], 4)]).most_product((3, -4)), -11 + 10)
        self.assertEqual(Parts([Part(0, [1, 2], 0)]).most_product([3, 4]), 11)
        self.assertEqual(Parts([Part(0, [1, 2], 9)]).most_product([0, 0]), 0)

    def test_most_product_of_parts_that_follow_each_other(self):
        fact = Parts([Part(0, [2], 3), Part(1, [1, -1], 5)])
        self.assertEqual(fact.most_product([-3, 2, 1]), -6 + 5 + 1 + 5)
        # The roots are taken part by part.
        fact = Parts([Part(0, [0], 2), Part(1, [0], 2)])
        self.assertEqual(fact.most_product([1, 1]), 1 + 1)

    def test_most_product_of_parts_that_do_not(self):
        q = [1, 2, 3]
        for parts in (
            [Part(0, [1], 0), Part(2, [1], 0)],
            [Part(0, [1], 0), Part(1, [1], 0)],
            [Part(1, [1, 1], 0)],
            [Part(0, [1, 1], 0), Part(1, [1, 1], 0)],
            [Part(0, [1, 1], 0), Part(1, [1], 0), Part(2, [1], 0)],
            [Part(1, [1, 1], 0), Part(0, [1], 0)],
            [Part(0, [1, 1, 1], 0), Part(0, [1, 1, 1], 0)],
            [Part(0, [1, 1, 1, 1], 0)],
            [Part(0, [1, 1, 1], 0), Part(3, [1], 0)],
            [Part(3, [], 0)],
            [Part(0, [], 0)],
            [Part(0, [1, 1], 0), Part(3, [], 0)],
            [],
        ):
            self.assertIsNone(Parts(parts).most_product(q))

    def test_most_product_with_empty_parts(self):
        self.assertEqual(Parts([]).most_product([]), 0)
        self.assertEqual(Parts([]).most_product(()), 0)
        self.assertIsNone(Parts([]).most_product([1]))
        self.assertEqual(Parts([Part(0, [], 5)]).most_product([]), 0)
        self.assertEqual(Parts([Part(0, [], 5), Part(0, [2], 0), Part(1, [], 5)]).most_product([3]), 6)


class CellTest(unittest.TestCase):
    def test_fields(self):
        near, rival = [1, 2], [3, 4]
        fact = Cell(near, rival)
        near[0] = rival[0] = 9
        self.assertEqual((fact.near, fact.rival), ((1, 2), (3, 4)))
        self.assertIs(type(fact.near), tuple)
        self.assertIs(type(fact.rival), tuple)

    def test_holds(self):
        fact = Cell([0, 0], [4, 0])
        for vector, holds in (((0, 0), True), ((1, 9), True), ((2, 5), True), ((3, 0), False), ((4, 0), False),
                              ((-5, 1), True)):
            self.assertIs(fact.holds(record(*vector)), holds)
        self.assertIs(Cell([4, 0], [0, 0]).holds(record(2, 5)), True)
        self.assertIs(Cell([4, 0], [0, 0]).holds(record(1, 5)), False)
        self.assertIs(Cell([1, 1], [1, 1]).holds(record(7, 7)), True)

    def test_sizes(self):
        for near, rival in (([0], [4]), ([0, 0], [4]), ([0], [4, 0]), ([0, 0, 0], [4, 0, 0]), ([], []), ([0, 0, 0], [4, 0])):
            fact = Cell(near, rival)
            self.assertIs(fact.holds(record(0, 0)), False)
            self.assertEqual(fact.least_distance([40, 40]), 0)
        self.assertIs(Cell([], []).holds(record()), True)
        self.assertEqual(Cell([], []).least_distance([]), 0)

    def test_least_distance(self):
        fact = Cell([0, 0], [4, 0])
        self.assertEqual(fact.least_distance([4, 0]), 4)
        self.assertEqual(fact.least_distance((3, 7)), 1)
        self.assertEqual(fact.least_distance([2, 7]), 0)
        self.assertEqual(fact.least_distance([1, 7]), 0)
        self.assertEqual(fact.least_distance([0, 0]), 0)
        self.assertEqual(fact.least_distance([10, 0]), 64)

    def test_least_distance_is_rounded_up(self):
        # d = 9, e = 4, f = 1: 25 / 4.
        self.assertEqual(Cell([0], [1]).least_distance([3]), 7)
        # d = 4, e = 1, f = 1: 9 / 4.
        self.assertEqual(Cell([0], [1]).least_distance([2]), 3)

    def test_centres_at_one_place(self):
        self.assertEqual(Cell([1, 1], [1, 1]).least_distance([5, 5]), 0)


class BoxTest(unittest.TestCase):
    def test_fields(self):
        low, high = [1, 2], [3, 4]
        fact = Box(low, high)
        low[0] = high[0] = 9
        self.assertEqual((fact.low, fact.high), ((1, 2), (3, 4)))
        self.assertIs(type(fact.low), tuple)
        self.assertIs(type(fact.high), tuple)

    def test_holds(self):
        fact = Box([-1, 2], [3, 2])
        for vector, holds in (((-1, 2), True), ((3, 2), True), ((0, 2), True), ((-2, 2), False), ((4, 2), False),
                              ((0, 1), False), ((0, 3), False)):
            self.assertIs(fact.holds(record(*vector)), holds)

    def test_low_above_high(self):
        fact = Box([3], [1])
        for number in range(5):
            self.assertIs(fact.holds(record(number)), False)
        self.assertEqual([fact.least_distance([number]) for number in range(6)], [9, 4, 1, 4, 9, 16])

    def test_sizes(self):
        for low, high in (([0], [1]), ([0, 0], [1]), ([0], [1, 1]), ([0, 0, 0], [1, 1, 1]), ([], []), ([0, 0], [1, 1, 1])):
            fact = Box(low, high)
            self.assertIs(fact.holds(record(0, 0)), False)
            self.assertEqual(fact.least_distance([9, 9]), 0)
            self.assertIsNone(fact.most_product([9, 9]))
        self.assertIs(Box([], []).holds(record()), True)
        self.assertEqual(Box([], []).least_distance([]), 0)
        self.assertEqual(Box([], []).most_product([]), 0)

    def test_least_distance(self):
        fact = Box([-1, 2], [3, 5])
        self.assertEqual(fact.least_distance([0, 3]), 0)
        self.assertEqual(fact.least_distance([-1, 5]), 0)
        self.assertEqual(fact.least_distance((-2, 3)), 1)
        self.assertEqual(fact.least_distance([6, 3]), 9)
        self.assertEqual(fact.least_distance([-4, 0]), 9 + 4)
        self.assertEqual(fact.least_distance([5, 9]), 4 + 16)
        self.assertEqual(fact.least_distance([-3, 9]), 4 + 16)

    def test_most_product(self):
        fact = Box([-1, 2], [3, 5])
        self.assertEqual(fact.most_product([2, 3]), 6 + 15)
        self.assertEqual(fact.most_product((-2, -3)), 2 - 6)
        self.assertEqual(fact.most_product([0, 0]), 0)
        self.assertEqual(fact.most_product([-2, 3]), 2 + 15)
        self.assertEqual(Box([-5], [-2]).most_product([3]), -6)


class NormsTest(unittest.TestCase):
    def test_holds(self):
        fact = Norms(5, 13)
        for vector, holds in (((1, 2), True), ((2, -3), True), ((2, 2), True), ((2, 0), False), ((0, 0), False),
                              ((1, -2, 3), False), ((3, 2, 0), True), ((), False), ((3, 3), False)):
            self.assertIs(fact.holds(record(*vector)), holds)
        self.assertIs(Norms(0, 0).holds(record()), True)
        self.assertIs(Norms(14, 14).holds(record(1, 2, 3)), True)
        self.assertIs(Norms(15, 20).holds(record(1, 2, 3)), False)
        self.assertIs(Norms(0, 13).holds(record(1, 2, 3)), False)

    def test_least_distance(self):
        fact = Norms(4, 9)
        self.assertEqual(fact.least_distance([5]), 4)
        self.assertEqual(fact.least_distance([3, 4]), 4)
        self.assertEqual(fact.least_distance([1]), 1)
        self.assertEqual(fact.least_distance([0, 0]), 4)
        self.assertEqual(fact.least_distance([]), 4)
        for q in ([2], [3], [2, 2], [-2, 0], [0, -3]):
            self.assertEqual(fact.least_distance(q), 0)
        self.assertEqual(fact.least_distance((3, 1)), 19 - math.isqrt(360))
        self.assertEqual(fact.least_distance([1, 1, 1]), 7 - math.isqrt(48))

    def test_high_is_looked_at_first(self):
        # 4 is above high and below low.
        self.assertEqual(Norms(25, 1).least_distance([2]), 1)

    def test_most_product(self):
        fact = Norms(4, 9)
        self.assertEqual(fact.most_product([2]), 6)
        self.assertEqual(fact.most_product([3, 4]), 15)
        self.assertEqual(fact.most_product((-1, 1)), 4)
        self.assertEqual(fact.most_product([]), 0)
        self.assertEqual(Norms(0, 0).most_product([7, 7]), 0)
        self.assertEqual(Norms(100, 2).most_product([1]), 1)


class DifferTest(unittest.TestCase):
    def test_fields(self):
        centre = [0, 1]
        fact = Differ(centre, 2)
        centre[0] = 9
        self.assertEqual((fact.centre, fact.most), ((0, 1), 2))
        self.assertIs(type(fact.centre), tuple)

    def test_holds(self):
        fact = Differ([0, 1, 1, 0], 2)
        for vector, holds in (((0, 1, 1, 0), True), ((1, 1, 1, 0), True), ((1, 0, 1, 0), True), ((1, 0, 0, 0), False),
                              ((1, 0, 0, 1), False), ((9, -9, 1, 0), True)):
            self.assertIs(fact.holds(record(*vector)), holds)
        self.assertIs(Differ([0, 1], 0).holds(record(0, 1)), True)
        self.assertIs(Differ([0, 1], 0).holds(record(0, 0)), False)
        self.assertIs(Differ([0, 1], -1).holds(record(0, 1)), False)

    def test_sizes(self):
        for centre in ([], [0], [0, 0, 0]):
            self.assertIs(Differ(centre, 9).holds(record(0, 0)), False)
            self.assertEqual(Differ(centre, 0).least_differing([1, 1]), 0)
        self.assertIs(Differ([], 0).holds(record()), True)
        self.assertEqual(Differ([], 0).least_differing([]), 0)

    def test_least_differing(self):
        centre = [0, 1, 1, 0]
        q = (1, 0, 0, 0)
        self.assertEqual([Differ(centre, most).least_differing(q) for most in range(6)], [3, 2, 1, 0, 0, 0])
        self.assertEqual(Differ(centre, 0).least_differing([0, 1, 1, 0]), 0)
        self.assertEqual(Differ(centre, 1).least_differing([1, 0, 0, 1]), 3)

    def test_tells_no_distance(self):
        self.assertEqual(Differ([0, 0], 0).least_distance([1, 1]), 0)
        self.assertIsNone(Differ([0, 0], 0).most_product([1, 1]))


if __name__ == "__main__":
    unittest.main()
