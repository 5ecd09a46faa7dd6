"""Points [33] to [36]: what several facts tell of a question."""

import itertools
import random
import unittest

from surenear.costs.query import Query
from surenear.costs.question import Question
from surenear.facts.bounds import Bound, bound_of, can_pass
from surenear.facts.contents import Counts, Names, Range, Values
from surenear.facts.fact import Fact
from surenear.facts.vectors import Box, Cell, Differ, Norms, Part, Parts
from surenear.filters.conditions import Both, Compare, Either, Every, Has, Negation, OneOf
from surenear.filters.reading import read_filter
from surenear.records.record import Record
from surenear.records.schema import Schema

SQUARE = Schema(2, fields=[("i", "integer"), ("t", "text"), ("f", "flag")])
DOT = Schema(2, measure="dot", fields=[("i", "integer")])
BITS = Schema(3, width="bit", measure="bits")


def least_cost(schema, vector, facts, **more):
    return bound_of(Question(schema, Query(vector, **more)), facts).cost


class BoundTest(unittest.TestCase):
    def test_fields(self):
        bound = Bound(3, "a", True)
        self.assertEqual((bound.cost, bound.name, bound.can), (3, "a", True))
        self.assertIsNone(Bound(None, "", False).cost)

    def test_equality(self):
        self.assertTrue(Bound(3, "a", True) == Bound(3, "a", True))
        self.assertFalse(Bound(3, "a", True) != Bound(3, "a", True))
        for other in (Bound(4, "a", True), Bound(None, "a", True), Bound(3, "b", True), Bound(3, "a", False),
                      (3, "a", True), None, 3, "a", object()):
            self.assertFalse(Bound(3, "a", True) == other)
            self.assertTrue(Bound(3, "a", True) != other)


class SquareTest(unittest.TestCase):
    def test_without_facts(self):
        self.assertEqual(least_cost(SQUARE, [5, 5], []), 0)
        self.assertEqual(least_cost(SQUARE, [5, 5], [Fact()]), 0)

    def test_the_greatest_least_distance(self):
        box, parts, norms = Box([0, 0], [1, 1]), Parts([Part(0, [0, 0], 1)]), Norms(0, 4)
        told = [fact.least_distance([5, 5]) for fact in (box, parts, norms)]
        self.assertEqual(told, [32, 37, 26])
        for facts in itertools.permutations([box, parts, norms]):
            self.assertEqual(least_cost(SQUARE, [5, 5], list(facts)), 37)
        self.assertEqual(least_cost(SQUARE, [5, 5], [norms, box]), 32)
        self.assertEqual(least_cost(SQUARE, [5, 5], [norms]), 26)
        self.assertEqual(least_cost(SQUARE, [5, 5], [norms], near=3), 78)

    def test_cells(self):
        self.assertEqual(least_cost(SQUARE, [9, 9], [Cell([0, 0], [9, 9]), Box([0, 0], [9, 9])]), 41)

    def test_facts_that_do_not_fit(self):
        facts = [Box([9], [9]), Parts([Part(1, [9, 9], 0)]), Cell([0], [5]), Norms(8, 8)]
        self.assertEqual(least_cost(SQUARE, [0, 0], facts), 8)
        self.assertEqual(least_cost(SQUARE, [0, 0], facts[:3]), 0)

    def test_differ_tells_nothing(self):
        self.assertEqual(least_cost(SQUARE, [5, 5], [Differ([0, 0], 0)]), 0)


class BitsTest(unittest.TestCase):
    def test_without_facts(self):
        self.assertEqual(least_cost(BITS, [1, 1, 1], []), 0)

    def test_the_greatest_least_differing(self):
        near, far, box = Differ([1, 1, 0], 0), Differ([0, 0, 0], 1), Box([0, 0, 0], [0, 0, 0])
        for facts in itertools.permutations([near, far]):
            self.assertEqual(least_cost(BITS, [1, 1, 1], list(facts)), 2)
        self.assertEqual(least_cost(BITS, [1, 1, 1], [near]), 1)
        self.assertEqual(least_cost(BITS, [1, 1, 1], [near], near=7), 7)
        self.assertEqual(least_cost(BITS, [1, 1, 1], [near, box]), 3)

    def test_differ_that_does_not_fit(self):
        self.assertEqual(least_cost(BITS, [1, 1, 1], [Differ([0, 0], 0)]), 0)


class DotTest(unittest.TestCase):
    def test_nothing_known(self):
        for facts in ([], [Fact()], [Cell([0, 0], [1, 1])], [Range("i", 0, 1)], [Box([0], [1])],
                      [Parts([Part(0, [1], 0)])], [Names("a", "b"), Counts([])]):
            self.assertIsNone(least_cost(DOT, [3, 4], facts))
            self.assertIsNone(least_cost(DOT, [3, 4], facts, words=[("a", 1)]))
            self.assertIsNone(least_cost(DOT, [3, 4], facts, near=2))

    def test_near_0(self):
        self.assertEqual(least_cost(DOT, [3, 4], [], near=0), 0)
        self.assertEqual(least_cost(DOT, [3, 4], [], near=0, words=[("a", 2)]), -30)
        self.assertEqual(least_cost(DOT, [3, 4], [Counts([("a", 4)])], near=0, words=[("a", 2)]), -8)
        self.assertEqual(least_cost(DOT, [3, 4], [Box([0, 0], [2, 1])], near=0), 0)
        self.assertEqual(least_cost(SQUARE, [3, 4], [Box([0, 0], [0, 0])], near=0), 0)

    def test_the_least_most_product(self):
        box, norms = Box([-1, 0], [2, 1]), Norms(0, 9)
        self.assertEqual([fact.most_product([3, 4]) for fact in (box, norms)], [10, 15])
        for facts in ([box, norms], [norms, box], [Cell([0, 0], [1, 1]), box, Range("i", 0, 1)]):
            self.assertEqual(least_cost(DOT, [3, 4], facts), -10)
            self.assertEqual(least_cost(DOT, [3, 4], facts, near=5), -50)
        self.assertEqual(least_cost(DOT, [3, 4], [norms]), -15)

    def test_products_of_0_and_below(self):
        self.assertEqual(least_cost(DOT, [3, 4], [Box([0, 0], [0, 0]), Norms(0, 9)]), 0)
        self.assertEqual(least_cost(DOT, [3, 4], [Box([-2, -1], [-2, -1]), Norms(0, 9)]), 10)


class WordsTest(unittest.TestCase):
    def cost(self, facts, *words):
        return least_cost(SQUARE, [0, 0], facts, words=words)

    def test_without_facts(self):
        self.assertEqual(self.cost([], ("a", 2)), -30)
        self.assertEqual(self.cost([], ("a", 2), ("b", 1), ("c", 0)), -45)
        self.assertEqual(self.cost([Fact(), Names("a", "b")], ("a", 2)), -30)

    def test_counts(self):
        facts = [Counts([("a", 3), ("b", 14), ("c", 15), ("d", 16), ("e", 100)])]
        for word, count in (("a", 3), ("b", 14), ("c", 15), ("d", 15), ("e", 15), ("x", 0), ("", 0)):
            self.assertEqual(self.cost(facts, (word, 7)), -7 * count)
        self.assertEqual(self.cost(facts, ("a", 100), ("x", 50), ("b", 1)), -314)

    def test_the_least_of_several(self):
        facts = [Counts([("a", 3), ("b", 9)]), Counts([("a", 5)]), Counts([("b", 2), ("a", 4)])]
        for ordered in itertools.permutations(facts):
            self.assertEqual(self.cost(list(ordered), ("a", 1)), -3)
            self.assertEqual(self.cost(list(ordered), ("b", 1)), 0)
        self.assertEqual(self.cost([facts[0], facts[2]], ("a", 1), ("b", 1)), -5)

    def test_greatest_and_negative_counts(self):
        self.assertEqual(self.cost([Counts([("a", 2), ("a", 4), ("a", 3)])], ("a", 1)), -4)
        self.assertEqual(self.cost([Counts([("a", -3)])], ("a", 1)), 0)

    def test_with_a_distance(self):
        facts = [Box([0, 0], [1, 1]), Counts([("a", 3)])]
        self.assertEqual(least_cost(SQUARE, [5, 1], facts, near=2, words=[("a", 5)]), 17)
        self.assertEqual(least_cost(DOT, [5, 1], facts, near=2, words=[("a", 5)]), -27)


class LeastNameTest(unittest.TestCase):
    def test_least_name(self):
        question = Question(SQUARE, Query([0, 0]))
        for facts, name in (([], ""), ([Fact(), Norms(0, 1)], ""), ([Names("b", "c")], "b"), ([Names("", "c")], ""),
                            ([Names("b", "z"), Names("ba", "c"), Names("a", "d")], "ba"),
                            ([Names("z", "a"), Box([0, 0], [0, 0])], "z"), ([Names("B", "z"), Names("a", "z")], "a")):
            self.assertEqual(bound_of(question, facts).name, name)


class CanPassTest(unittest.TestCase):
    def told(self, text, *facts):
        return can_pass(read_filter(SQUARE, text), list(facts))

    def test_every(self):
        for facts in ([], [Fact()], [Range("i", 0, 1, lack="all")]):
            self.assertEqual(can_pass(Every(), facts), (True, False))

    def test_without_a_fact_that_speaks(self):
        for text in ("has i", "i = 1", "i in [1, 2]"):
            self.assertEqual(self.told(text), (True, True))
            self.assertEqual(self.told(text, Values("t", ["a"]), Names("a", "b"), Fact()), (True, True))

    def test_one_fact(self):
        fact = Range("i", 3, 5)
        for text, told in (("i < 3", (False, True)), ("i < 4", (True, True)), ("i < 6", (True, False)),
                           ("has i", (True, False)), ("i in [5]", (True, True)), ("i in [6]", (False, True))):
            self.assertEqual(self.told(text, fact), told)
            self.assertEqual(self.told(text, Values("t", []), fact, Norms(0, 1)), told)

    def test_each_fact_says_so(self):
        low, high = Range("i", 0, 5), Range("i", 4, 9)
        for text, told in (("i < 4", (False, True)), ("i > 5", (False, True)), ("i = 4", (True, True)),
                           ("i >= 0", (True, False)), ("i <= 9", (True, False)), ("i = 10", (False, True))):
            self.assertEqual(self.told(text, low, high), told, text)
            self.assertEqual(self.told(text, high, low), told, text)
        self.assertEqual(self.told("has i", Range("i", 0, 1, lack="all"), Range("i", 0, 1)), (False, False))
        self.assertEqual(self.told("i < 4", Range("i", 0, 2), Range("i", 5, 9)), (False, False))
        self.assertEqual(self.told("i < 4", Range("i", 0, 2), Range("i", 5, 9, lack="some")), (False, False))
        self.assertEqual(self.told("i < 4", Range("i", 0, 2, lack="some"), Range("i", 5, 9)), (False, True))

    def test_negation_changes_places(self):
        fact = Range("i", 3, 5)
        for text, told in (("not i < 3", (True, False)), ("not i < 4", (True, True)), ("not i < 6", (False, True)),
                           ("not every", (False, True)), ("not not i < 3", (False, True)), ("not has i", (False, True))):
            self.assertEqual(self.told(text, fact), told)

    def test_both_and_either(self):
        # Conditions on four fields with each pair of outcomes.
        told = {"p": (True, False), "q": (False, True), "r": (True, True), "s": (False, False)}
        facts = [Range("p", 1, 1), Range("q", 2, 2), Range("r", 1, 2), Range("s", 1, 1), Range("s", 2, 2)]
        for name, outcomes in told.items():
            self.assertEqual(can_pass(Compare(name, "=", 1), facts), outcomes)
        for one, other in itertools.product(told, repeat=2):
            a, b = Compare(one, "=", 1), Compare(other, "=", 1)
            (a_passed, a_failed), (b_passed, b_failed) = told[one], told[other]
            self.assertEqual(can_pass(Both(a, b), facts), (a_passed and b_passed, a_failed or b_failed))
            self.assertEqual(can_pass(Either(a, b), facts), (a_passed or b_passed, a_failed and b_failed))
            self.assertEqual(can_pass(Negation(Both(a, b)), facts), (a_failed or b_failed, a_passed and b_passed))

    def test_mixed(self):
        facts = (Range("i", 3, 5), Values("t", ["a", "b"], lack="some"), Values("f", [True]))
        for text, told in (
            ("i < 3 or f = true", (True, False)), ("i < 3 and f = true", (False, True)), ("f = false", (False, True)),
            ('t = "a" and i > 2', (True, True)), ('t = "c" or i > 5', (False, True)), ('not (t = "c" or i > 5)', (True, False)),
            ('has t or has i', (True, False)), ("every and i = 4", (True, True)), ("every or i = 9", (True, False)),
            ("not every or i = 9", (False, True)),
        ):
            self.assertEqual(self.told(text, *facts), told, text)

    def test_many_conditions(self):
        for sign, told in (("and", (False, True)), ("or", (True, True))):
            text = f" {sign} ".join(["i < 4"] * 199 + ["i < 3"])
            self.assertEqual(self.told(text, Range("i", 3, 5)), told)
        deep = "not (" * 20 + "i < 3" + ")" * 20
        self.assertEqual(self.told(deep, Range("i", 3, 5)), (False, True))
        self.assertEqual(self.told(deep[5:-1], Range("i", 3, 5)), (True, False))

    def test_kinds(self):
        for condition in (Every(), Has("i"), Compare("i", "<", 1), OneOf("i", [1]), Has("i") & Has("t"), Has("i") | Has("t"),
                          ~Has("i")):
            for facts in ([], [Range("i", 0, 5)], [Range("i", 0, 0), Range("i", 5, 5)]):
                told = can_pass(condition, facts)
                self.assertIs(type(told), tuple)
                self.assertEqual([type(part) for part in told], [bool, bool])

    def test_refuted(self):
        for text, facts, can in (("i < 3", [Range("i", 3, 5)], False), ("i < 4", [Range("i", 3, 5)], True), ("i < 3", [], True),
                                 ("not i < 6", [Range("i", 3, 5)], False), ("every", [], True), ("not every", [], False),
                                 ("i < 6", [Range("i", 3, 5)], True)):
            question = Question(SQUARE, Query([0, 0], text=text))
            self.assertEqual(bound_of(question, facts), Bound(0, "", can))
            self.assertIs(bound_of(question, facts).can, can)


class SoundTest(unittest.TestCase):
    """What facts tell together is true of all records for which they all hold."""

    def records(self, schema):
        chance = random.Random(1)
        for turn in range(150):
            fields = [(name, chance.randint(0, 4)) for name, kind in schema.fields if kind == "integer" and chance.random() < 0.7]
            words = [(word, chance.randint(1, 20)) for word in "ab" if chance.random() < 0.6]
            vector = [chance.randint(max(schema.least, -3), min(schema.greatest, 3)) for _ in range(schema.size)]
            yield Record(f"n{turn:03}", vector, fields=fields, words=words)

    def test_bounds(self):
        sets = [
            [Box([-1, -2], [2, 3]), Norms(1, 9)], [Parts([Part(0, [1, -1], 4)]), Cell([1, 1], [-2, 0])],
            [Range("i", 1, 3, lack="some"), Counts([("a", 12), ("b", 3)])], [Counts([("a", 20)]), Range("i", 2, 2)],
            [Names("n030", "n090"), Counts([("a", 9), ("b", 20)]), Box([0, 0], [3, 3])], [], [Norms(4, 8), Cell([3, 0], [0, 3])],
        ]
        texts = ["every", "i < 2", "not i < 2", "has i and not i = 2", "not has i or i > 2", "i in [0, 4]"]
        for schema in (Schema(2, fields=[("i", "integer")]), DOT):
            records = list(self.records(schema))
            for facts, text, near in itertools.product(sets, texts, (0, 1, 3)):
                held = [record for record in records if all(fact.holds(record) for fact in facts)]
                self.assertTrue(held)
                for vector in ([0, 0], [3, -2], [-3, 1], [100, -50]):
                    question = Question(schema, Query(vector, near=near, words=[("a", 2), ("b", 5)], text=text))
                    bound = bound_of(question, facts)
                    for record in held:
                        self.assertTrue(bound.can or not question.passes(record))
                        self.assertLessEqual(bound.name, record.name)
                        if bound.cost is not None:
                            self.assertLessEqual(bound.cost, question.cost(record))


if __name__ == "__main__":
    unittest.main()
