"""Points [61] to [63]: which reports are possible, and what the ledger makes of them."""

import random
import unittest

from surenear.building.build import build_offer
from surenear.building.rules import Blocks, Codes, Lists, Net, SortedBlocks
from surenear.costs.query import Query
from surenear.costs.question import Question
from surenear.errors import NoSuchMoment
from surenear.facts.vectors import Box
from surenear.ledger.ledger import Ledger
from surenear.records.record import Record
from surenear.records.schema import Schema
from surenear.regions.offer import Entry, Offer
from surenear.regions.region import Region, facts_at, is_partition, lies_in
from surenear.reports.reckoning import is_possible, part_fits, reckon
from surenear.search.answers import Answer, Hit, answer_of, at_most
from surenear.search.report import ReportPart
from surenear.search.search import Search, Source

SCHEMA = Schema(1, fields=[("i", "integer")])
KEY = (17, 4242)
# Regions around the numbers that are told; the last one is empty.
#   0 (0..9)        4 (20..29)   5
#  1 (0..4)  3 (5..9)
#  2 (2..3)
BOXES = ((None, 0, 9), (0, 0, 4), (1, 2, 3), (0, 5, 9), (None, 20, 29), (None, 50, 60))
REGIONS = tuple(Region(parent, [Box([low], [high])]) for parent, low, high in BOXES)
OTHERS = (Region(None, [Box([0], [9])]), Region(None, [Box([20], [29])]))


def record(name, place):
    return Record(name, [place])


def question(**more):
    return Question(SCHEMA, Query([0], **more))


def example():
    """A ledger with two segments and a fresh note.

    Segment 1 owns write 1 (a at 0 in region 1), 2 (b at 2 in region 2), 3 (c at 7 in region 3) and
    4 (d at 20 in region 4); segment 2 owns 5 (e at 4 in region 0); 6 (f at 3) is fresh. Write 7 drops b.
    """
    ledger = Ledger(SCHEMA, KEY)
    for name, place in (("a", 0), ("b", 2), ("c", 7), ("d", 20), ("e", 4), ("f", 3)):
        ledger.put(record(name, place))
    entries = [Entry(2, record("b", 2), [2, 0]), Entry(1, record("a", 0), [1, 0]), Entry(3, record("c", 7), [3, 0]),
               Entry(4, record("d", 20), [4, 1])]
    ledger.audit(70, Offer([REGIONS, OTHERS], entries))
    ledger.audit(80, Offer([REGIONS], [Entry(5, record("e", 4), [0])]))
    ledger.drop("b")
    return ledger


RECORDS = {1: record("a", 0), 2: record("b", 2), 3: record("c", 7), 4: record("d", 20), 5: record("e", 4), 6: record("f", 3)}
HITS = {1: Hit("a", 1, 0), 2: Hit("b", 2, 4), 3: Hit("c", 3, 49), 4: Hit("d", 4, 400), 5: Hit("e", 5, 16), 6: Hit("f", 6, 9)}


def part(*numbers, segment=1, partition=0, left=()):
    return ReportPart(segment, partition, left, numbers, [RECORDS[number] for number in numbers])


class FitTest(unittest.TestCase):
    def fits(self, told, moment=6):
        ledger = example()
        fits = part_fits(ledger, moment, told)
        self.assertIs(is_possible(ledger, moment, [told]), fits)
        self.assertIs(reckon(ledger, question(), moment, [told]) is not None, fits)
        return fits

    def test_all_read_or_left_out(self):
        for numbers, left, fits in (
            ((1, 2, 3, 4), (), True), ((4, 3, 2, 1), (), True), ((), (0, 4), True), ((), (4, 0), True), ((4,), (0,), True),
            ((3,), (1, 4), True), ((1, 4), (2, 3), True), ((1, 2), (3, 4, 5), True), ((1, 2, 3, 4), (0, 4, 5), True),
            ((), (), False), ((1, 2, 3), (), False), ((), (0,), False), ((), (4,), False), ((1,), (2, 4), False),
            ((3,), (2, 4), False), ((3, 4), (2,), False), ((2, 3), (4, 5), False), ((1, 2), (5, 4), False),
        ):
            self.assertIs(self.fits(part(*numbers, left=left)), fits, (numbers, left))

    def test_records_beside(self):
        self.assertTrue(self.fits(part(1, 6, 2, 2, 3, 5, 4, 1)))
        told = ReportPart(1, 0, (), [9, 1, 2, 3, 4], [record("z", 1), *[RECORDS[k] for k in (1, 2, 3, 4)]])
        self.assertTrue(self.fits(told))

    def test_records_that_do_not_match(self):
        for at, wrong in ((0, record("a", 1)), (0, record("b", 0)), (1, record("a", 0)), (3, Record("d", [20], words=[("w", 1)]))):
            records = [RECORDS[number] for number in (1, 2, 3, 4)]
            records[at] = wrong
            self.assertFalse(self.fits(ReportPart(1, 0, (), (1, 2, 3, 4), records)))
            # The right record with the number stands further on.
            self.assertTrue(self.fits(ReportPart(1, 0, (), (1, 2, 3, 4, at + 1), records + [RECORDS[at + 1]])))
        self.assertFalse(self.fits(ReportPart(1, 0, (), (2, 1, 3, 4), [RECORDS[k] for k in (1, 2, 3, 4)])))

    def test_side_by_side(self):
        records = [RECORDS[k] for k in (1, 2, 3, 4)]
        self.assertTrue(self.fits(ReportPart(1, 0, (), (1, 2, 3, 4, 9), records)))
        self.assertTrue(self.fits(ReportPart(1, 0, (), (1, 2, 3, 4), records + [record("z", 0)])))
        self.assertFalse(self.fits(ReportPart(1, 0, (), (1, 2, 3), records)))
        self.assertFalse(self.fits(ReportPart(1, 0, (), (1, 2, 3, 4), records[:3])))

    def test_moments(self):
        # At 7 write 2 is gone, at 2 only writes 1 and 2 are there.
        for moment, numbers, fits in ((7, (1, 3, 4), True), (7, (1, 2, 3, 4), True), (6, (1, 3, 4), False), (2, (1, 2), True),
                                      (2, (1,), False), (1, (1,), True), (0, (), True), (3, (1, 2), False)):
            self.assertIs(self.fits(part(*numbers), moment), fits)

    def test_segments(self):
        whole = (1, 2, 3, 4, 5, 6)
        for segment, fits in ((1, True), (2, True), (0, False), (3, False), (-1, False)):
            self.assertIs(self.fits(part(*whole, segment=segment)), fits)
        self.assertTrue(self.fits(part(5, segment=2)))
        self.assertFalse(self.fits(part(1, 2, 3, 4, segment=2)))
        self.assertTrue(self.fits(part(segment=2, left=(0,))))
        self.assertFalse(self.fits(part(segment=2, left=(1, 3, 4, 5))))

    def test_partitions(self):
        for partition, fits in ((0, True), (1, True), (2, False), (-1, False), (-2, False)):
            self.assertIs(self.fits(part(1, 2, 3, 4, partition=partition)), fits)
        self.assertTrue(self.fits(part(partition=1, left=(0, 1))))
        self.assertTrue(self.fits(part(4, partition=1, left=(0,))))
        self.assertTrue(self.fits(part(1, 2, 3, partition=1, left=(1,))))
        self.assertFalse(self.fits(part(partition=1, left=(0,))))
        self.assertFalse(self.fits(part(5, segment=2, partition=1)))

    def test_left_out(self):
        for left, fits in (
            ((6,), False), ((-1,), False), ((0, 4, 6), False), ((0, 4, -1), False), ((0, 0, 4), False), ((4, 0, 4), False),
            ((0, 1), False), ((1, 0), False), ((2, 0), False), ((0, 2), False), ((1, 2), False), ((2, 1, 3), False),
            ((3, 0), False), ((2, 3), True), ((1, 3, 4, 5), True), ((5,), True),
        ):
            self.assertIs(self.fits(part(1, 2, 3, 4, left=left)), fits, left)

    def test_the_places_are_of_the_partition(self):
        self.assertFalse(self.fits(part(1, 2, 3, 4, partition=1, left=(2,))))
        self.assertTrue(self.fits(part(1, 2, 3, 4, left=(2,))))

    def test_a_part_needs_no_kept_moment(self):
        ledger = example()
        ledger.lift(7)
        self.assertTrue(part_fits(ledger, 3, part(1, 3, 4)))
        self.assertFalse(is_possible(ledger, 3, [part(1, 3, 4)]))


class PossibleTest(unittest.TestCase):
    def test_nothing_told(self):
        self.assertIs(is_possible(example(), 6, []), True)
        self.assertIs(is_possible(example(), 6, ()), True)

    def test_each_part_fits(self):
        good = [part(1, 2, 3, 4), part(5, segment=2)]
        self.assertIs(is_possible(example(), 6, good), True)
        self.assertIs(is_possible(example(), 6, good[::-1]), True)
        self.assertIs(is_possible(example(), 6, [part(1, 2, 3, 4), part(segment=2)]), False)
        self.assertIs(is_possible(example(), 6, [part(), part(5, segment=2)]), False)
        self.assertIs(is_possible(example(), 6, good + [part(segment=3)]), False)

    def test_a_segment_twice(self):
        self.assertIs(is_possible(example(), 6, [part(1, 2, 3, 4), part(1, 2, 3, 4)]), False)
        self.assertIs(is_possible(example(), 6, [part(left=(0, 4)), part(5, segment=2), part(1, 2, 3, 4)]), False)
        self.assertIsNone(reckon(example(), question(), 6, [part(1, 2, 3, 4), part(1, 2, 3, 4)]))

    def test_moments(self):
        ledger = example()
        for moment in (-1, 8):
            self.assertIs(is_possible(ledger, moment, []), False)
            with self.assertRaises(NoSuchMoment):
                reckon(ledger, question(), moment, [])
        ledger.pin()
        ledger.put(record("g", 1))
        ledger.lift(8)
        for moment, kept in ((6, False), (7, True), (8, True), (9, False)):
            self.assertIs(is_possible(ledger, moment, []), kept)
        # The moment is named first.
        with self.assertRaises(NoSuchMoment):
            reckon(ledger, question(), 6, [part(segment=9)])
        self.assertIsNone(reckon(ledger, question(), 7, [part(segment=9)]))


class ReckonTest(unittest.TestCase):
    def reckon(self, *parts, moment=6, **more):
        return reckon(example(), question(**{"most": 9} | more), moment, list(parts))

    def hits(self, *numbers):
        return [HITS[number] for number in numbers]

    def test_all_read(self):
        told = self.reckon(part(1, 2, 3, 4), part(5, segment=2))
        self.assertEqual(told, Answer(self.hits(1, 2, 6, 5, 3, 4), "none", True))

    def test_nothing_told(self):
        # The top regions were left out of which a record is there: 0 and 4 of the first, 0 of the second one.
        self.assertEqual(self.reckon(), Answer(self.hits(6), 0, False))
        self.assertEqual(self.reckon(part(5, segment=2)), Answer(self.hits(6, 5), 0, False))
        self.assertEqual(self.reckon(part(4, 3, 2, 1)), Answer(self.hits(1, 2, 6, 3, 4), 0, False))
        self.assertEqual(self.reckon(moment=0), Answer([], "none", True))

    def test_left_out(self):
        told = self.reckon(part(1, 2, left=(3, 4)), part(5, segment=2))
        self.assertEqual(told, Answer(self.hits(1, 2, 6, 5), 25, False))
        told = self.reckon(part(1, 2, left=(3, 4)), part(5, segment=2), most=4)
        self.assertEqual(told, Answer(self.hits(1, 2, 6, 5), 25, True))
        told = self.reckon(part(1, 2, left=(3, 4)), part(5, segment=2), most=3)
        self.assertEqual(told, Answer(self.hits(1, 2, 6), 16, True))
        told = self.reckon(part(1, 2, 3, left=(4,)), part(5, segment=2))
        self.assertEqual(told, Answer(self.hits(1, 2, 6, 5, 3), 400, False))

    def test_regions_without_a_record_do_not_bound(self):
        told = self.reckon(part(1, 2, 3, 4, left=(5,)), part(5, segment=2, left=(4,)))
        self.assertEqual(told, Answer(self.hits(1, 2, 6, 5, 3, 4), "none", True))
        # At 7 nothing is left in region 2.
        told = self.reckon(part(1, 3, 4, left=(2,)), part(5, segment=2), moment=7)
        self.assertEqual(told, Answer(self.hits(1, 6, 5, 3, 4), "none", True))

    def test_a_record_that_is_left_out_was_not_read(self):
        told = self.reckon(part(1, 2, 3, 4, left=(0,)), part(5, segment=2))
        self.assertEqual(told, Answer(self.hits(6, 5, 4), 0, False))

    def test_what_else_was_read_counts_for_nothing(self):
        told = self.reckon(part(1, 2, 3, 4, 5, 6), part(5, 1, 5, segment=2))
        self.assertEqual(told, Answer(self.hits(1, 2, 6, 5, 3, 4), "none", True))
        told = self.reckon(part(1, 2, 3, 4), part(1, 2, 3, segment=2, left=(0,)))
        self.assertEqual(told, Answer(self.hits(1, 2, 6, 3, 4), 0, False))
        # Write 2 has ended, write 3 is not there yet.
        told = self.reckon(part(1, 2, 3, 4), part(5, segment=2), moment=7)
        self.assertEqual(told, Answer(self.hits(1, 6, 5, 3, 4), "none", True))
        told = self.reckon(part(1, 2, 3, 4), part(5, segment=2), moment=2)
        self.assertEqual(told, Answer(self.hits(1, 2), "none", True))

    def test_the_first_record_that_matches(self):
        records = [record("a", 9), RECORDS[1], record("a", 8), *[RECORDS[k] for k in (2, 3, 4)]]
        told = self.reckon(ReportPart(1, 0, (), (1, 1, 1, 2, 3, 4), records), part(5, segment=2))
        self.assertEqual(told, Answer(self.hits(1, 2, 6, 5, 3, 4), "none", True))

    def test_another_partition(self):
        told = self.reckon(part(4, partition=1, left=(0,)), part(5, segment=2))
        self.assertEqual(told, Answer(self.hits(6, 5, 4), 0, False))
        told = self.reckon(part(1, 2, 3, partition=1, left=(1,)), part(5, segment=2))
        self.assertEqual(told, Answer(self.hits(1, 2, 6, 5, 3), 400, False))

    def test_facts_above_a_region_count(self):
        # Region 2 of the first segment lies in 0 and 1: what their facts tell bounds it, too.
        ledger = Ledger(SCHEMA, KEY)
        ledger.put(record("a", 5))
        regions = [Region(None, [Box([4], [9])]), Region(0, [Box([0], [7])])]
        ledger.audit(70, Offer([regions], [Entry(1, record("a", 5), [1])]))
        told = reckon(ledger, question(), 1, [ReportPart(1, 0, (1,), (), ())])
        self.assertEqual(told, Answer([], 16, False))

    def test_filters(self):
        told = self.reckon(part(1, 2, 3, 4), part(5, segment=2), text="has i")
        self.assertEqual(told, Answer([], "none", True))

    def test_the_ledger_is_not_changed(self):
        ledger = example()
        before = (ledger.now, list(ledger.notes), list(ledger.segments))
        told = reckon(ledger, question(), 6, [part(1, 2, 3, 4)])
        told.hits.clear()
        self.assertEqual((ledger.now, ledger.notes, ledger.segments), before)

    def test_equal_ranks(self):
        # Two writes with the same name and cost never exist at one moment, so each is a hit of its own moment.
        ledger = Ledger(SCHEMA, KEY)
        ledger.put(record("a", 3))
        ledger.put(record("a", -3))
        self.assertEqual(reckon(ledger, question(), 1, []), Answer([Hit("a", 1, 9)], "none", True))
        self.assertEqual(reckon(ledger, question(), 2, []), Answer([Hit("a", 2, 9)], "none", True))


class ManyTest(unittest.TestCase):
    """Answers from honest and from invented reports, against all records that exist."""

    RULES = (Blocks(2), SortedBlocks("i", 3), Lists(3, rounds=1, cells=2, size=2), Codes(1, centres=3), Net(2))

    def world(self, rng):
        """A ledger with segments, the offers by the numbers of the segments, and all writes."""
        ledger, writes, offers = Ledger(SCHEMA, KEY), {}, {}
        for _ in range(rng.randint(1, 25)):
            name = rng.choice("abcdefgh")
            if rng.random() < 0.2:
                ledger.drop(name)
            else:
                told = Record(name, [rng.randint(-9, 9)], fields=[("i", rng.randint(0, 3))] if rng.random() < 0.7 else [])
                writes[ledger.put(told)] = told
            if rng.random() < 0.2:
                pairs = [(number, told) for number, told in writes.items() if rng.random() < 0.6]
                rules = [rng.choice(self.RULES) for _ in range(rng.randint(1, 2))]
                offer = build_offer(SCHEMA, rules, ["box", "names", "fields"], pairs)
                offers[ledger.audit(70, offer)] = offer
        return ledger, writes, offers

    def report(self, rng, asked, ledger, offers):
        parts = []
        for segment in ledger.segments:
            offer, k = offers[segment.number], rng.randrange(len(segment.partitions))
            source = Source(segment.number, k, offer.partitions[k], [(e.number, e.record, e.leaves[k]) for e in offer.entries])
            search = Search(asked, [source], walk=rng.choice((0, 3)))
            search.run(rng.randint(0, 6))
            parts += [told for told in search.report() if rng.random() < 0.9]
        return parts

    def spoiled(self, rng, parts):
        """A report with one part in which something is changed."""
        if not parts:
            return parts
        at = rng.randrange(len(parts))
        told = parts[at]
        left, pairs = list(told.left), list(zip(told.numbers, told.records))
        word = rng.choice(("left", "more", "pair", "lie", "partition", "twice"))
        if word == "left" and left:
            left.pop(rng.randrange(len(left)))
        elif word == "more":
            left.append(rng.randint(-1, 4))
        elif word == "pair" and pairs:
            pairs.pop(rng.randrange(len(pairs)))
        elif word == "lie" and pairs:
            number, true = pairs.pop(rng.randrange(len(pairs)))
            pairs.append((number, Record(true.name, [true.vector[0] + 1], fields=true.fields)))
        partition = told.partition + (rng.choice((-1, 1)) if word == "partition" else 0)
        new = ReportPart(told.segment, partition, left, [number for number, _ in pairs], [true for _, true in pairs])
        return parts[:at] + [new] + parts[at + 1:] + ([told] if word == "twice" else [])

    def test_answers(self):
        rng = random.Random(63)
        counts = {"possible": 0, "refused": 0, "exact": 0, "bounded": 0}
        for _ in range(300):
            ledger, writes, offers = self.world(rng)
            texts = ("every", "i > 1", "not has i")
            asked = question(most=rng.randint(1, 4), near=rng.choice((0, 1, 2)), text=rng.choice(texts))
            moment = rng.randint(0, ledger.now)
            honest = self.report(rng, asked, ledger, offers)
            self.check(asked, ledger, writes, moment, reckon(ledger, asked, moment, honest), counts)
            wrong = self.spoiled(rng, honest)
            self.assertIs(is_possible(ledger, moment, wrong), self.plainly_possible(ledger, writes, moment, wrong))
            answer = reckon(ledger, asked, moment, wrong)
            if answer is None:
                counts["refused"] += 1
            else:
                self.check(asked, ledger, writes, moment, answer, counts)
        self.assertTrue(all(count > 20 for count in counts.values()), counts)

    def check(self, asked, ledger, writes, moment, answer, counts):
        there = [(note.number, writes[note.number]) for note in ledger.live(moment)]
        whole = answer_of(Question(SCHEMA, Query([0], near=asked.query.near, text=asked.query.text, most=99)), there, [])
        self.assertTrue(all(hit in whole.hits for hit in answer.hits))
        self.assertEqual(answer.hits, [hit for hit in whole.hits if hit in answer.hits])
        for hit in whole.hits:
            self.assertTrue(hit in answer.hits or at_most(answer.bound, hit.cost))
        if answer.exact:
            self.assertEqual(answer.hits, whole.hits[:asked.query.most])
        counts["possible"] += 1
        counts["exact"] += answer.exact
        counts["bounded"] += answer.bound != "none"

    def plainly_possible(self, ledger, writes, moment, report):
        segments = {segment.number: segment for segment in ledger.segments}
        for at, told in enumerate(report):
            if told.segment not in segments or told.segment in [other.segment for other in report[:at]]:
                return False
            partitions = segments[told.segment].partitions
            if told.partition not in range(len(partitions)):
                return False
            regions = partitions[told.partition]
            self.assertTrue(is_partition(regions))
            for k, place in enumerate(told.left):
                others = told.left[:k] + told.left[k + 1:]
                if place not in range(len(regions)) or any(other not in range(len(regions)) or lies_in(regions, place, other) for other in others):
                    return False
            for note in ledger.live(moment):
                if note.segment == told.segment:
                    below = any(lies_in(regions, note.leaves[told.partition], place) for place in told.left)
                    if not below and (note.number, writes[note.number]) not in list(zip(told.numbers, told.records)):
                        return False
                    self.assertTrue(all(fact.holds(writes[note.number]) for fact in facts_at(regions, note.leaves[told.partition])))
        return True


if __name__ == "__main__":
    unittest.main()
