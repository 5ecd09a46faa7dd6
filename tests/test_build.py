"""Points [41] to [48]: partitions and offers that rules build."""

import random
import unittest

from surenear.building.build import build, build_offer
from surenear.building.rules import Blocks, Codes, Lists, Net, SortedBlocks
from surenear.costs.query import Query
from surenear.costs.question import Question
from surenear.facts.bounds import bound_of
from surenear.facts.contents import Names, Range, Values
from surenear.facts.vectors import Box, Cell, Norms, Part, Parts
from surenear.records.record import Record
from surenear.records.schema import Schema
from surenear.regions.offer import Entry, Offer
from surenear.regions.region import Region, facts_at, lies_in

FIELDS = [("i", "integer"), ("t", "text")]
LINE = Schema(1, fields=FIELDS)
KINDS = ["box", "norms", "names", "words", "fields"]
RULES = [Blocks(3), SortedBlocks("i", 4), Lists(3, rounds=2, cells=2, size=2), Codes(2, centres=2, rounds=1), Net(2)]


def on_line(*numbers):
    return [Record(f"n{place}", [number]) for place, number in enumerate(numbers)]


def some_records(schema, many):
    """Records of a schema, some of which lack fields and words."""
    chance = random.Random(many)
    records = []
    for place in range(many):
        vector = [chance.randint(max(schema.least, -9), min(schema.greatest, 9)) for _ in range(schema.size)]
        fields = [("i", chance.randint(0, 5))] if chance.random() < 0.7 else []
        fields += [("t", chance.choice("abc"))] if chance.random() < 0.7 else []
        words = [(word, chance.randint(1, 20)) for word in ("sea", "sun") if chance.random() < 0.5]
        records.append(Record(f"n{chance.randint(0, 99):02}-{place}", vector, fields=fields, words=words))
    return records


class BuildTest(unittest.TestCase):
    def test_blocks(self):
        self.assertEqual(build(LINE, Blocks(2), ["box"], on_line(4, 9, 5)), (
            [Region(None, [Box([4], [9])]), Region(None, [Box([5], [5])])], [0, 0, 1],
        ))

    def test_no_kinds(self):
        self.assertEqual(build(LINE, Blocks(2), [], on_line(4, 9, 5)), ([Region(None, []), Region(None, [])], [0, 0, 1]))

    def test_sorted_blocks(self):
        records = [Record(name, [0], fields=fields) for name, fields in (("a", [("i", 9)]), ("b", []), ("c", [("i", 2)]))]
        self.assertEqual(build(LINE, SortedBlocks("i", 2), ["names", "fields"], records), ([
            Region(None, [Names("a", "c"), Range("i", 2, 9), Values("t", [], lack="all")]),
            Region(None, [Names("b", "b"), Range("i", 0, 0, lack="all"), Values("t", [], lack="all")]),
        ], [0, 1, 0]))

    def test_lists(self):
        # The facts of a region are computed from all records below it, those of the blocks in it, too.
        self.assertEqual(build(LINE, Lists(2, cells=1, size=2), ["norms"], on_line(0, 10, 1, 11, 2, 12)), ([
            Region(None, [Parts([Part(0, [0], 4)]), Cell([0], [11]), Norms(0, 4)]),
            Region(None, [Parts([Part(0, [11], 1)]), Cell([11], [0]), Norms(100, 144)]),
            Region(0, [Norms(0, 1)]), Region(0, [Norms(4, 4)]), Region(1, [Norms(100, 121)]), Region(1, [Norms(144, 144)]),
        ], [2, 4, 2, 4, 3, 5]))

    def test_a_region_without_records(self):
        regions, leaves = build(LINE, Lists(3, cells=1, size=2), KINDS, on_line(5, 5, 5))
        self.assertEqual([len(region.facts) for region in regions[:3]], [8, 0, 0])
        self.assertEqual([region.parent for region in regions], [None, None, None, 0, 0])
        self.assertEqual(leaves, [3, 3, 4])

    def test_codes(self):
        self.assertEqual(build(Schema(2), Codes(2, centres=2), ["box"], [Record("n", vector) for vector in ((0, 0), (9, 1), (0, 2))]), ([
            Region(None, [Parts([Part(0, [0], 0), Part(1, [0], 0)]), Box([0, 0], [0, 0])]),
            Region(None, [Parts([Part(0, [9], 0), Part(1, [1], 0)]), Box([9, 1], [9, 1])]),
            Region(None, [Parts([Part(0, [0], 0), Part(1, [1], 1)]), Box([0, 2], [0, 2])]),
        ], [0, 1, 2]))

    def test_net(self):
        self.assertEqual(build(LINE, Net(1), ["box"], on_line(0, 8, 4, 5)), ([
            Region(None, [Parts([Part(0, [0], 64)]), Box([0], [8])]),
            Region(0, [Parts([Part(0, [0], 16)]), Box([0], [4])]),
            Region(0, [Parts([Part(0, [8], 9)]), Box([5], [8])]),
        ], [1, 2, 1, 2]))

    def test_no_records(self):
        for rule in RULES:
            self.assertEqual(build(Schema(2), rule, KINDS, []), ([], []))

    def test_new_lists(self):
        records, kinds, rule = on_line(1, 2), ["box"], Blocks(1)
        built = build(LINE, rule, kinds, records)
        self.assertEqual([type(told) for told in (built, *built)], [tuple, list, list])
        built[0].clear()
        built[1].clear()
        self.assertEqual(build(LINE, rule, kinds, records), ([Region(None, [Box([1], [1])]), Region(None, [Box([2], [2])])], [0, 1]))
        self.assertEqual((records, kinds), (on_line(1, 2), ["box"]))


class OfferTest(unittest.TestCase):
    def test_offer(self):
        first, second = on_line(4, 9)
        self.assertEqual(build_offer(LINE, [Blocks(2), Net(1), Blocks(1)], ["box"], [(7, first), (3, second)]), Offer([
            [Region(None, [Box([4], [9])])],
            [
                Region(None, [Parts([Part(0, [4], 25)]), Box([4], [9])]), Region(0, [Parts([Part(0, [4], 0)]), Box([4], [4])]),
                Region(0, [Parts([Part(0, [9], 0)]), Box([9], [9])]),
            ],
            [Region(None, [Box([4], [4])]), Region(None, [Box([9], [9])])],
        ], [Entry(7, first, [0, 1, 0]), Entry(3, second, [0, 2, 1])]))

    def test_no_records(self):
        offer = build_offer(LINE, [Blocks(2), Net(1)], KINDS, [])
        self.assertEqual(offer, Offer([[], []], []))
        self.assertIs(offer.sound, True)

    def test_no_rules(self):
        first, = on_line(4)
        self.assertEqual(build_offer(LINE, [], KINDS, [(7, first)]), Offer([], [Entry(7, first, [])]))

    def test_as_built(self):
        records = some_records(Schema(2, fields=FIELDS), 20)
        numbered = [(100 - place, record) for place, record in enumerate(records)]
        offer = build_offer(Schema(2, fields=FIELDS), RULES, KINDS, numbered)
        self.assertIs(offer.sound, True)
        self.assertEqual([(entry.number, entry.record) for entry in offer.entries], numbered)
        for k, rule in enumerate(RULES):
            regions, leaves = build(Schema(2, fields=FIELDS), rule, KINDS, records)
            self.assertEqual(list(offer.partitions[k]), regions)
            self.assertEqual([entry.leaves[k] for entry in offer.entries], leaves)
        self.assertEqual(len(numbered), 20)


class SoundTest(unittest.TestCase):
    """The facts at a region hold for all records below it, and so do the bounds that follow."""

    def test_facts_and_bounds(self):
        schemas = [Schema(3, fields=FIELDS), Schema(3, measure="dot", fields=FIELDS),
                   Schema(3, width="bit", measure="bits", fields=FIELDS)]
        for schema in schemas:
            for many in (1, 2, 5, 13):
                records = some_records(schema, many)
                for rule in RULES + [Net(0), Codes(5, centres=9), Lists(50, cells=50), Blocks(100)]:
                    regions, leaves = build(schema, rule, KINDS, records)
                    self.assertEqual(len(leaves), many)
                    for place in range(len(regions)):
                        held = [record for record, leaf in zip(records, leaves, strict=True) if lies_in(regions, leaf, place)]
                        self.check(schema, facts_at(regions, place), held)

    def check(self, schema, facts, records):
        for record in records:
            schema.check(record)
            self.assertTrue(all(fact.holds(record) for fact in facts))
        for text in ("every", "i < 3", 'not t = "a"', "has i and not has t"):
            query = Query([0, 1, 1], near=2, words=[("sea", 3), ("moon", 1)], text=text)
            question = Question(schema, query)
            bound = bound_of(question, facts)
            for record in records:
                self.assertTrue(bound.can or not question.passes(record))
                self.assertLessEqual((bound.cost, bound.name), question.rank(record).pair)


if __name__ == "__main__":
    unittest.main()
