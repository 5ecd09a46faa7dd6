"""Points [49] and [50]: hits, bounds and answers."""

import itertools
import random
import unittest

from surenear.building.build import build
from surenear.building.rules import Blocks, Codes, Lists, Net, SortedBlocks
from surenear.costs.query import Query
from surenear.costs.question import Question
from surenear.facts.contents import Names, Range
from surenear.facts.vectors import Box, Cell
from surenear.records.record import Record
from surenear.records.schema import Schema
from surenear.regions.region import facts_at, lies_in
from surenear.search.answers import Answer, Hit, answer_of, at_most

LINE = Schema(1, fields=[("i", "integer")])
DOT = Schema(1, measure="dot", fields=[("i", "integer")])


def question(*, schema=LINE, **more):
    """A question around 0; its costs are the squares of the numbers."""
    return Question(schema, Query([0], **more))


def pairs(*rows):
    """Pairs of a number and a record, from rows of a number, a name and the number of the vector."""
    return [(number, Record(name, [place], fields=[("i", place)])) for number, name, place in rows]


def at_least(cost, low=""):
    """Facts that tell that all costs are at least a square, and names at least low."""
    root = {0: 0, 1: 1, 4: 2, 9: 3, 16: 4, 25: 5}[cost]
    return [Box([root], [100]), Names(low, "~")]


class HitTest(unittest.TestCase):
    def test_fields(self):
        hit = Hit("a", 3, -5)
        self.assertEqual((hit.name, hit.number, hit.cost), ("a", 3, -5))

    def test_equality(self):
        self.assertTrue(Hit("a", 3, 5) == Hit("a", 3, 5))
        self.assertFalse(Hit("a", 3, 5) != Hit("a", 3, 5))
        for other in (Hit("b", 3, 5), Hit("a", 4, 5), Hit("a", 3, 6), Hit("a", 5, 3), ("a", 3, 5), None, "a", 3, object()):
            self.assertFalse(Hit("a", 3, 5) == other)
            self.assertTrue(Hit("a", 3, 5) != other)


class AnswerTest(unittest.TestCase):
    def test_fields(self):
        hits = [Hit("a", 1, 2)]
        answer = Answer(hits, "none", True)
        hits.clear()
        self.assertEqual((answer.hits, answer.bound, answer.exact), ([Hit("a", 1, 2)], "none", True))
        self.assertIs(type(answer.hits), list)
        self.assertIs(type(Answer((), 5, False).hits), list)

    def test_equality(self):
        def answer(hits=(Hit("a", 1, 2), Hit("b", 2, 2)), bound=5, exact=False):
            return Answer(list(hits), bound, exact)

        self.assertTrue(answer() == answer())
        self.assertFalse(answer() != answer())
        for other in (answer(hits=[]), answer(hits=[Hit("a", 1, 2)]), answer(hits=[Hit("b", 2, 2), Hit("a", 1, 2)]),
                      answer(bound=6), answer(bound="none"), answer(bound="unknown"), answer(exact=True),
                      (answer().hits, 5, False), None, 5, object()):
            self.assertFalse(answer() == other)
            self.assertTrue(answer() != other)


class AtMostTest(unittest.TestCase):
    def test_order(self):
        bounds = ["unknown", -10 ** 30, -1, 0, 1, 2, 10 ** 30, "none"]
        for (i, a), (j, b) in itertools.product(enumerate(bounds), repeat=2):
            self.assertIs(at_most(a, b), i <= j, (a, b))


class CandidatesTest(unittest.TestCase):
    def test_nothing(self):
        self.assertEqual(answer_of(question(), [], []), Answer([], "none", True))
        self.assertIs(answer_of(question(), [], []).exact, True)

    def test_order_of_ranks(self):
        read = pairs((1, "c", 2), (2, "a", 3), (3, "b", -2), (4, "d", 1))
        hits = [Hit("d", 4, 1), Hit("b", 3, 4), Hit("c", 1, 4), Hit("a", 2, 9)]
        for ordered in itertools.permutations(read):
            self.assertEqual(answer_of(question(most=9), list(ordered), []), Answer(hits, "none", True))

    def test_those_that_pass(self):
        read = pairs((1, "c", 2), (2, "a", 3), (3, "b", -2), (4, "d", 1))
        self.assertEqual(answer_of(question(text="i > 1", most=9), read, []), Answer([Hit("c", 1, 4), Hit("a", 2, 9)], "none", True))
        self.assertEqual(answer_of(question(text="i > 9", most=9), read, []), Answer([], "none", True))
        # What does not pass bounds nothing either.
        self.assertEqual(answer_of(question(text="i > 1", most=2), read, []).bound, "none")
        self.assertEqual(answer_of(question(text="i > 1", most=1), read, []).bound, 9)

    def test_most(self):
        read = pairs((1, "a", 1), (2, "b", 2), (3, "c", 3))
        hits = [Hit("a", 1, 1), Hit("b", 2, 4), Hit("c", 3, 9)]
        for most, bound in ((1, 4), (2, 9), (3, "none"), (4, "none"), (100, "none")):
            self.assertEqual(answer_of(question(most=most), read, []), Answer(hits[:most], bound, True))

    def test_equal_ranks_keep_the_order_of_reading(self):
        for numbers in itertools.permutations((1, 2, 3)):
            read = pairs(*[(number, "a", 2) for number in numbers])
            hits = [Hit("a", number, 4) for number in numbers]
            self.assertEqual(answer_of(question(most=9), read, []), Answer(hits, "none", True))
            self.assertEqual(answer_of(question(most=2), read, []), Answer(hits[:2], 4, True))

    def test_equal_candidates_are_dropped(self):
        read = pairs((1, "a", 2), (2, "a", 2), (1, "a", -2), (3, "b", 1), (2, "a", 2), (3, "b", 1))
        hits = [Hit("b", 3, 1), Hit("a", 1, 4), Hit("a", 2, 4)]
        self.assertEqual(answer_of(question(most=9), read, []), Answer(hits, "none", True))
        self.assertEqual(answer_of(question(most=3), read, []), Answer(hits, "none", True))
        self.assertEqual(answer_of(question(most=2), read, []), Answer(hits[:2], 4, True))
        self.assertEqual(answer_of(question(most=1), read, []), Answer(hits[:1], 4, True))

    def test_candidates_that_are_not_equal_stay(self):
        read = pairs((1, "a", 2), (1, "a", 3), (1, "b", 2), (2, "a", 2))
        hits = [Hit("a", 1, 4), Hit("a", 2, 4), Hit("b", 1, 4), Hit("a", 1, 9)]
        self.assertEqual(answer_of(question(most=9), read, []).hits, hits)


class BoundTest(unittest.TestCase):
    def test_regions(self):
        read = pairs((1, "a", 1), (2, "b", 3))
        for regions, most, bound in (
            ([at_least(4)], 1, 4), ([at_least(16)], 1, 9), ([at_least(16), at_least(4), at_least(25)], 1, 4),
            ([at_least(16)], 2, 16), ([at_least(16), at_least(25)], 2, 16), ([at_least(0)], 2, 0), ([[]], 2, 0), ([at_least(9)], 1, 9),
        ):
            for ordered in itertools.permutations(regions):
                self.assertEqual(answer_of(question(most=most), read, list(ordered)).bound, bound)

    def test_regions_alone(self):
        self.assertEqual(answer_of(question(), [], [at_least(16), at_least(9)]), Answer([], 9, False))

    def test_refuted_regions(self):
        asked = question(text="i < 5", most=1)
        refuted = [Range("i", 5, 9), Box([0], [1])]
        self.assertEqual(answer_of(asked, [], [refuted]), Answer([], "none", True))
        self.assertEqual(answer_of(asked, [], [refuted, refuted + at_least(4), at_least(16)]), Answer([], 16, False))
        self.assertEqual(answer_of(asked, pairs((1, "a", 1)), [refuted]), Answer([Hit("a", 1, 1)], "none", True))
        self.assertEqual(answer_of(asked, [], [[Range("i", 4, 9), Box([2], [9])]]), Answer([], 4, False))

    def test_unknown(self):
        unknown = [Cell([0], [1]), Range("i", 0, 9)]
        known = [Box([-3], [3])]
        asked = Question(DOT, Query([2], text="i < 5", most=1))
        read = pairs((1, "a", 1), (2, "b", 3))
        self.assertEqual(answer_of(asked, read, [unknown]), Answer([Hit("b", 2, -6)], "unknown", False))
        self.assertEqual(answer_of(asked, read, [known, unknown]), Answer([Hit("b", 2, -6)], "unknown", False))
        self.assertEqual(answer_of(asked, [], [[]]), Answer([], "unknown", False))
        self.assertEqual(answer_of(asked, read, [known]), Answer([Hit("b", 2, -6)], -6, False))
        # A region without a least cost that does not count.
        self.assertEqual(answer_of(asked, read, [[Range("i", 5, 9)]]), Answer([Hit("b", 2, -6)], -2, True))
        self.assertEqual(answer_of(asked, read, [[Range("i", 5, 9)], [Box([1], [2])]]), Answer([Hit("b", 2, -6)], -4, True))


class ExactTest(unittest.TestCase):
    def exact(self, most, *regions):
        read = pairs((1, "a", 1), (2, "m", 3))
        return answer_of(question(most=most), read, list(regions)).exact

    def test_no_region_was_left_out(self):
        for most in (1, 2, 3):
            self.assertIs(self.exact(most), True)

    def test_too_few_hits(self):
        self.assertIs(self.exact(3, at_least(25)), False)
        self.assertIs(self.exact(2, at_least(25)), True)
        self.assertIs(answer_of(question(), [], [at_least(25)]).exact, False)

    def test_costs(self):
        for cost, first, second in ((0, False, False), (1, False, False), (4, True, False), (9, True, False), (16, True, True)):
            self.assertIs(self.exact(1, at_least(cost)), first)
            self.assertIs(self.exact(2, at_least(cost)), second)

    def test_names(self):
        for low, exact in (("", False), ("a", False), ("lz", False), ("m", True), ("m ", True), ("n", True), ("B", False)):
            self.assertIs(self.exact(2, at_least(9, low)), exact)
            self.assertIs(self.exact(2, at_least(16, low)), True)
            self.assertIs(self.exact(2, at_least(4, low)), False)

    def test_each_region(self):
        self.assertIs(self.exact(2, at_least(16), at_least(25), at_least(9, "m")), True)
        for bad in (at_least(4), at_least(9, "l")):
            for regions in itertools.permutations([at_least(16), bad, at_least(25)]):
                self.assertIs(self.exact(2, *regions), False)

    def test_new_lists(self):
        read, regions = pairs((1, "a", 1), (2, "m", 3)), [at_least(16)]
        answer_of(question(), read, regions).hits.clear()
        self.assertEqual(answer_of(question(), read, regions), Answer([Hit("a", 1, 1)], 9, True))
        self.assertEqual((read, regions), (pairs((1, "a", 1), (2, "m", 3)), [at_least(16)]))


class SoundTest(unittest.TestCase):
    """Whatever is read and left out, the answer says what is true of all records."""

    def records(self, chance, schema):
        records = []
        for place in range(12):
            vector = [chance.randint(0, 1) if schema.width == "bit" else chance.randint(-6, 6) for _ in range(2)]
            fields = [("i", chance.randint(0, 4))] if chance.random() < 0.8 else []
            words = [("sea", chance.randint(1, 18))] if chance.random() < 0.5 else []
            records.append((place + 1, Record(f"n{chance.randint(0, 5)}{place:02}", vector, fields=fields, words=words)))
        return records

    def test_answers(self):
        chance = random.Random(11)
        fields = [("i", "integer")]
        schemas = [Schema(2, fields=fields), Schema(2, measure="dot", fields=fields),
                   Schema(2, width="bit", measure="bits", fields=fields)]
        rules = [Blocks(2), SortedBlocks("i", 3), Lists(3, rounds=1, cells=2, size=2), Codes(2, centres=2), Net(2)]
        seen = []
        for schema, rule, kinds in itertools.product(schemas, rules, ([], ["box", "names"], ["norms", "fields", "words", "names"])):
            numbered = self.records(chance, schema)
            regions, leaves = build(schema, rule, kinds, [record for _, record in numbered])
            for _ in range(6):
                left = [place for place in range(len(regions)) if chance.random() < 0.4]
                read = [pair for pair, leaf in zip(numbered, leaves, strict=True)
                        if not any(lies_in(regions, leaf, place) for place in left)]
                query = Query([chance.randint(0, 1), 1], near=chance.randint(0, 2), words=[("sea", chance.randint(0, 2))],
                              text=chance.choice(["every", "i < 2", "not i = 3"]), most=chance.randint(1, 4))
                answer = answer_of(Question(schema, query), read, [facts_at(regions, place) for place in left])
                self.check(Question(schema, query), numbered, answer)
                seen.append((answer.bound == "unknown", answer.bound == "none", answer.exact, answer.exact and left != []))
        # All kinds of answers have occurred.
        for column in zip(*seen, strict=True):
            self.assertEqual(set(column), {True, False})

    def check(self, asked, numbered, answer):
        hits = [Hit(record.name, number, asked.cost(record)) for number, record in numbered if asked.passes(record)]
        hits = sorted(hits, key=lambda hit: (hit.cost, hit.name))
        self.assertTrue(all(hit in hits for hit in answer.hits))
        self.assertEqual(answer.hits, [hit for hit in hits if hit in answer.hits])
        self.assertLessEqual(len(answer.hits), asked.query.most)
        for hit in hits:
            self.assertTrue(hit in answer.hits or at_most(answer.bound, hit.cost))
        if answer.exact:
            self.assertEqual(answer.hits, hits[:asked.query.most])


if __name__ == "__main__":
    unittest.main()
