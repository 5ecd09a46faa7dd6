"""Points [51] to [55]: sources, and searches step by step."""

import itertools
import random
import unittest

from surenear.building.build import build
from surenear.building.rules import Blocks, Codes, Lists, Net, SortedBlocks
from surenear.costs.query import Query
from surenear.costs.question import Question
from surenear.errors import InvalidSource
from surenear.facts.bounds import bound_of
from surenear.facts.contents import Names, Range
from surenear.facts.vectors import Box, Norms, Part, Parts
from surenear.records.record import Record
from surenear.records.schema import Schema
from surenear.regions.region import Region, facts_at, lies_in
from surenear.search.answers import Answer, Hit, answer_of
from surenear.search.report import ReportPart
from surenear.search.search import Search, Source

LINE = Schema(1, fields=[("i", "integer")])


def record(name, place=0):
    return Record(name, [place], fields=[("i", place)])


def question(*, schema=LINE, **more):
    """A question around 0; its costs are the squares of the numbers."""
    return Question(schema, Query([0], **more))


def at_least(place, low=""):
    """Facts that tell that vectors are at least at a place, and names at least low."""
    return [Box([place], [100])] + ([Names(low, "~")] if low else [])


def around(place):
    """A fact that has a centre and tells no distance from anything."""
    return Parts([Part(0, [place], 10 ** 6)])


def flat(*facts):
    """Top regions with these facts, each with one record below it."""
    regions = [Region(None, listed) for listed in facts]
    return Source(1, 0, regions, [(k + 1, record("r", 50), k) for k in range(len(facts))])


def order_of(search):
    """The places of the regions in the order in which steps take them, until the search ends."""
    places = []
    while True:
        before = search.report()
        if search.run(1) == 0:
            return places
        after = search.report()
        for at, (old, new) in enumerate(zip(before, after)):
            gone = [place for place in old.left if place not in new.left]
            places.extend((at, place) for place in gone)


class SourceTest(unittest.TestCase):
    def test_fields(self):
        regions, entries = [Region(None, []), Region(0, [])], [[3, record("a"), 1], (1, record("b"), 0)]
        source = Source(5, 2, regions, entries)
        regions.clear()
        entries[0].append(1)
        entries.clear()
        self.assertEqual((source.segment, source.partition), (5, 2))
        self.assertEqual(source.regions, (Region(None, []), Region(0, [])))
        self.assertEqual(source.entries, ((3, record("a"), 1), (1, record("b"), 0)))
        self.assertEqual([type(told) for told in (source.regions, source.entries, source.entries[0])], [tuple] * 3)

    def test_without_anything(self):
        source = Source(1, 0, [], [])
        self.assertEqual((source.regions, source.entries), ((), ()))

    def test_no_partition(self):
        for parents in ((0,), (-1,), (None, 1), (None, 2), (None, 2, None), (None, -1)):
            with self.assertRaises(InvalidSource):
                Source(1, 0, [Region(parent, []) for parent in parents], [])

    def test_a_number_twice(self):
        regions = [Region(None, []), Region(None, [])]
        for numbers in ((1, 1), (2, 1, 2), (0, 0)):
            with self.assertRaises(InvalidSource):
                Source(1, 0, regions, [(number, record(str(at)), at % 2) for at, number in enumerate(numbers)])
        self.assertEqual(len(Source(1, 0, regions, [(1, record("a"), 0), (2, record("a"), 0)]).entries), 2)

    def test_a_leaf_that_is_no_place(self):
        regions = [Region(None, []), Region(0, [])]
        for leaf in (-1, -2, 2, 3):
            with self.assertRaises(InvalidSource):
                Source(1, 0, regions, [(1, record("a"), 0), (2, record("b"), leaf)])
        with self.assertRaises(InvalidSource):
            Source(1, 0, [], [(1, record("a"), 0)])


class OpenTest(unittest.TestCase):
    #   0       3      6
    #  1 4      5
    #  2       7
    PARENTS = (None, 0, 1, None, 0, 3, None, 5)

    def source(self, *leaves, segment=1):
        regions = [Region(parent, []) for parent in self.PARENTS]
        return Source(segment, 0, regions, [(k + 1, record(f"r{k}", k), leaf) for k, leaf in enumerate(leaves)])

    def left(self, search):
        return [part.left for part in search.report()]

    def test_tops_with_records(self):
        for leaves, left in (((), ()), ((2,), (0,)), ((7, 6), (3, 6)), ((0, 3, 6), (0, 3, 6)), ((6, 5, 4), (0, 3, 6))):
            self.assertEqual(self.left(Search(question(), [self.source(*leaves)])), [left])

    def test_a_step_opens_what_lies_inside(self):
        # Nothing is known of the regions, so all cost at least 0 and they are taken in turn.
        search = Search(question(most=99), [self.source(7, 2, 4, 0, 6, 2)])
        told = [((0, 3, 6), ())]
        while search.run(1):
            part = search.report()[0]
            told.append((part.left, part.numbers))
        self.assertEqual(told, [
            ((0, 3, 6), ()), ((3, 6, 1, 4), (4,)), ((6, 1, 4, 5), (4,)), ((1, 4, 5), (4, 5)), ((4, 5, 2), (4, 5)),
            ((5, 2), (4, 5, 3)), ((2, 7), (4, 5, 3)), ((7,), (4, 5, 3, 2, 6)), ((), (4, 5, 3, 2, 6, 1)),
        ])

    def test_regions_without_records_do_not_open(self):
        search = Search(question(most=99), [self.source(4, 7)])
        self.assertEqual(search.run(99), 5)
        self.assertEqual(search.report()[0].numbers, (1, 2))
        self.assertEqual(order_of(Search(question(most=99), [self.source(4, 7)])), [(0, 0), (0, 3), (0, 4), (0, 5), (0, 7)])

    def test_several_sources(self):
        sources = [self.source(6, segment=4), self.source(segment=9), self.source(0, 4, segment=2)]
        search = Search(question(most=99), sources)
        self.assertEqual(self.left(search), [(6,), (), (0,)])
        self.assertEqual(order_of(Search(question(most=99), sources)), [(0, 6), (2, 0), (2, 4)])
        self.assertEqual(search.run(2), 2)
        self.assertEqual(search.report(), [
            ReportPart(4, 0, (), (1,), (record("r0", 0),)), ReportPart(9, 0, (), (), ()),
            ReportPart(2, 0, (4,), (1,), (record("r0", 0),)),
        ])

    def test_no_sources(self):
        search = Search(question(), [])
        self.assertEqual((search.report(), search.answer(), search.ended()), ([], Answer([], "none", True), True))
        self.assertEqual((search.run(5), search.steps), (0, 0))

    def test_the_list_of_sources_is_not_kept(self):
        sources = [self.source(0)]
        search = Search(question(most=2), sources)
        sources.append(self.source(6))
        self.assertEqual(len(search.report()), 1)
        search.report().clear()
        search.answer().hits.append(1)
        self.assertEqual(len(search.report()), 1)
        self.assertEqual(search.answer().hits, [])
        search.run(1)
        search.answer().hits.clear()
        self.assertEqual(search.answer().hits, [Hit("r0", 1, 0)])

    def test_partition_and_segment_are_told(self):
        source = Source(8, 3, [Region(None, [])], [(5, record("a"), 0)])
        self.assertEqual(Search(question(), [source]).report(), [ReportPart(8, 3, (0,), (), ())])


class RunTest(unittest.TestCase):
    def search(self):
        return Search(question(most=9), [flat([], [], [], [])])

    def test_number_of_steps(self):
        for steps, made in ((0, 0), (-3, 0), (1, 1), (3, 3), (4, 4), (5, 4), (100, 4)):
            search = self.search()
            self.assertEqual((search.steps, search.ended()), (0, False))
            self.assertEqual(search.run(steps), made)
            self.assertEqual(search.steps, made)
            self.assertIs(search.ended(), made == 4)

    def test_several_runs(self):
        search = self.search()
        self.assertEqual([search.run(steps) for steps in (1, 0, 2, 9, 9)], [1, 0, 2, 1, 0])
        self.assertEqual(search.steps, 4)

    def test_one_run_is_as_many_of_one_step(self):
        for walk in (0, 2, 9):
            facts = [at_least(3), at_least(1), [around(5)], [around(-2)], at_least(2)]
            once, often = (Search(question(most=9), [flat(*facts)], walk=walk) for _ in range(2))
            once.run(4)
            for _ in range(4):
                often.run(1)
            self.assertEqual(once.report(), often.report())


class MatterTest(unittest.TestCase):
    def search(self, *regions, steps=1, **more):
        """A search that has read a record of cost 25 with the name m, and then stands before these regions."""
        first = [(1, record("m", 5), 0)]
        rest = [(at + 2, record("z", 60), at + 1) for at in range(len(regions))]
        # The first region is told to be the nearest one.
        source = Source(1, 0, [Region(None, [Norms(0, 25)])] + [Region(None, facts) for facts in regions], first + rest)
        search = Search(question(**more), [source])
        self.assertEqual(search.run(steps), steps)
        return search

    def test_a_region_after_the_last_hit(self):
        for facts, ended in (
            (at_least(5, "m"), True), (at_least(5, "n"), True), (at_least(6), True), (at_least(5, "l"), False),
            (at_least(5), False), (at_least(4, "z"), False), ([], False),
        ):
            search = self.search(facts)
            self.assertIs(search.ended(), ended, facts)
            self.assertIs(search.answer().exact, ended)
            self.assertEqual(search.run(9), 0 if ended else 1)

    def test_while_there_are_too_few_hits(self):
        self.assertFalse(self.search(at_least(9, "z"), most=2).ended())
        self.assertTrue(self.search(at_least(9, "z"), most=2, steps=2).ended())

    def test_a_region_that_refutes(self):
        search = self.search([Range("i", 7, 9)], most=5, text="i < 7")
        self.assertTrue(search.ended())
        self.assertEqual(search.run(9), 0)
        self.assertEqual(search.report()[0].left, (1,))
        self.assertEqual(search.answer(), Answer([Hit("m", 1, 25)], "none", True))

    def test_a_region_without_a_least_cost(self):
        schema = Schema(1, measure="dot", fields=[("i", "integer")])
        regions = [Region(None, [Box([5], [5])]), Region(None, [])]
        source = Source(1, 0, regions, [(1, record("a", 5), 0), (2, record("b", 4), 1)])
        search = Search(Question(schema, Query([1])), [source])
        # The one that nothing is known of comes first.
        self.assertEqual(order_of(Search(Question(schema, Query([1])), [source])), [(0, 1), (0, 0)])
        self.assertEqual(search.answer(), Answer([], "unknown", False))
        search.run(1)
        self.assertEqual(search.answer(), Answer([Hit("b", 2, -4)], -5, False))
        search.run(1)
        self.assertEqual(search.answer(), Answer([Hit("a", 1, -5)], -4, True))

    def test_ended_before_the_first_step(self):
        search = Search(question(text="i > 9"), [flat([Range("i", 0, 9)], [Range("i", -5, 0)])])
        self.assertTrue(search.ended())
        self.assertEqual((search.run(3), search.steps), (0, 0))
        self.assertEqual(search.report()[0].left, (0, 1))
        self.assertEqual(search.answer(), Answer([], "none", True))

    def test_records_that_do_not_pass_are_read_all_the_same(self):
        source = Source(1, 0, [Region(None, [])], [(1, record("a", 5), 0), (2, record("b", 1), 0)])
        search = Search(question(text="i > 2", most=9), [source])
        search.run(1)
        self.assertEqual(search.report()[0].numbers, (1, 2))
        self.assertEqual(search.answer(), Answer([Hit("a", 1, 25)], "none", True))


class OrderTest(unittest.TestCase):
    def order(self, *facts, walk=0, **more):
        told = order_of(Search(question(most=99, **more), [flat(*facts)], walk=walk))
        return [place for _, place in told]

    def test_least_cost_then_least_name(self):
        facts = (at_least(3), at_least(2, "b"), at_least(2, "a"), at_least(0, "z"), at_least(2))
        self.assertEqual(self.order(*facts), [3, 4, 2, 1, 0])

    def test_ties_go_by_time(self):
        facts = (at_least(3, "a"), at_least(2, "b"), at_least(3, "a"), at_least(2, "b"), at_least(3, "a"))
        self.assertEqual(self.order(*facts), [1, 3, 0, 2, 4])

    def test_longest_open_not_first_place(self):
        # 1 lies in 2's neighbour 0 and opens after 2, though its place is before.
        regions = [Region(None, []), Region(0, []), Region(None, [Box([0], [0])])]
        source = Source(1, 0, regions, [(1, record("a"), 1), (2, record("b"), 2)])
        self.assertEqual(order_of(Search(question(most=99), [source])), [(0, 0), (0, 2), (0, 1)])

    def test_ties_between_sources(self):
        sources = [flat(at_least(2)), flat(at_least(1), at_least(2)), flat(at_least(2))]
        self.assertEqual(order_of(Search(question(most=99), sources)), [(1, 0), (0, 0), (1, 1), (2, 0)])

    def test_refuted_regions_are_not_taken(self):
        facts = (at_least(3), [Range("i", 50, 50)] + at_least(0), at_least(1))
        self.assertEqual(self.order(*facts, text="i < 9"), [2, 0])
        self.assertEqual(self.order(*facts, text="i < 9", walk=9), [0, 2])

    def test_without_a_least_cost(self):
        schema = Schema(1, measure="dot")
        facts = (at_least(3), [Names("z", "~")], at_least(2), [], [Names("a", "~")])
        # Those without a least cost come first, in the order in which they became open.
        search = Search(Question(schema, Query([-1], most=99)), [flat(*facts)])
        self.assertEqual([place for _, place in order_of(search)], [1, 3, 4, 2, 0])

    def test_walk_by_centres(self):
        facts = ([around(5)], [around(-2)], [around(3)], [around(2)], [around(-4)])
        self.assertEqual(self.order(*facts), [0, 1, 2, 3, 4])
        self.assertEqual(self.order(*facts, walk=1), [1, 0, 2, 3, 4])
        self.assertEqual(self.order(*facts, walk=2), [1, 3, 0, 2, 4])
        for walk in (4, 5, 6, 100):
            self.assertEqual(self.order(*facts, walk=walk), [1, 3, 2, 4, 0])
        for walk in (0, -1):
            self.assertEqual(self.order(*facts, walk=walk), [0, 1, 2, 3, 4])

    def test_walk_counts_all_runs(self):
        search = Search(question(most=99), [flat([around(5)], [around(-2)], [around(3)], [around(2)])], walk=2)
        for left in ((0, 2, 3), (0, 2), (2,), ()):
            search.run(1)
            self.assertEqual(search.report()[0].left, left)

    def test_walk_without_centres(self):
        none = ([], [Parts([])], [Parts([Part(1, [0], 9)])], [Parts([Part(-1, [0], 9)])], [Parts([Part(1, [], 0)])], [Parts([Part(0, [], 0)])], [Parts([Part(0, [0, 0], 9)])],
                [Parts([Part(0, [0], 9999), Part(0, [0], 9999)])], [Box([0], [0])])
        for facts in none:
            self.assertEqual(self.order(facts, [around(90)], facts, walk=9), [1, 0, 2], facts)

    def test_walk_takes_the_first_fact_with_a_centre(self):
        two = Parts([Part(0, [0], 9999), Part(0, [0], 9999)])
        facts = ([around(4)], [two, around(3), around(0)], [around(6), around(1)])
        self.assertEqual(self.order(*facts, walk=9), [1, 0, 2])

    def test_walk_takes_the_centre_of_a_region_around(self):
        regions = [Region(None, [around(1)]), Region(0, []), Region(None, [around(3)]), Region(0, [around(5)])]
        source = Source(1, 0, regions, [(1, record("a"), 1), (2, record("b"), 2), (3, record("c"), 3)])
        self.assertEqual(order_of(Search(question(most=99), [source], walk=9)), [(0, 0), (0, 1), (0, 2), (0, 3)])

    def test_walk_by_the_distance_whatever_the_measure(self):
        schema = Schema(1, measure="dot")
        search = Search(Question(schema, Query([1], most=99)), [flat([around(9)], [around(2)], [around(-1)])], walk=9)
        self.assertEqual([place for _, place in order_of(search)], [1, 2, 0])

    def test_walk_ends_with_the_search(self):
        # The second region does not matter once the first one was read.
        regions = [Region(None, [around(1), Box([0], [5])]), Region(None, [around(50), Box([50], [99])])]
        source = Source(1, 0, regions, [(1, record("a", 5), 0), (2, record("b", 60), 1)])
        search = Search(question(), [source], walk=9)
        self.assertEqual(search.run(9), 1)
        self.assertEqual(search.answer(), Answer([Hit("a", 1, 25)], 2500, True))

    def test_walk_may_take_what_does_not_matter(self):
        # 0 was read; 1 does not matter, but has the nearest centre of those that can pass; 2 matters.
        regions = [Region(None, [around(0)]), Region(None, [around(1), Box([50], [99])]), Region(None, [around(30)])]
        source = Source(1, 0, regions, [(1, record("a", 5), 0), (2, record("b", 60), 1), (3, record("c", 3), 2)])
        self.assertEqual(order_of(Search(question(), [source], walk=9)), [(0, 0), (0, 1), (0, 2)])
        self.assertEqual(order_of(Search(question(), [source])), [(0, 0), (0, 2)])


class PlainSearch:
    """A search as the document tells it, looking at everything again at each step."""

    def __init__(self, asked, sources, walk):
        self.asked, self.sources, self.walk, self.steps = asked, sources, walk, 0
        self.read = []
        self.open = [(at, place) for at in range(len(sources)) for place in self.filled(at, None)]

    def filled(self, at, parent):
        regions, entries = self.sources[at].regions, self.sources[at].entries
        return [place for place, region in enumerate(regions) if region.parent == parent
                and any(lies_in(regions, leaf, place) for _, _, leaf in entries)]

    def facts(self, spot):
        return facts_at(self.sources[spot[0]].regions, spot[1])

    def answer(self):
        return answer_of(self.asked, [(number, told) for _, number, told in self.read], [self.facts(spot) for spot in self.open])

    def matters(self, spot):
        bound = bound_of(self.asked, self.facts(spot))
        hits = self.answer().hits
        if not bound.can:
            return False
        if len(hits) < self.asked.query.most or bound.cost is None:
            return True
        return (bound.cost, bound.name) < (hits[-1].cost, hits[-1].name)

    def step(self):
        if not any(self.matters(spot) for spot in self.open):
            return False
        taken = [spot for spot in self.open if bound_of(self.asked, self.facts(spot)).can]
        taken = sorted(taken, key=self.walked if self.steps < self.walk else self.bounded)[0]
        self.open.remove(taken)
        at, place = taken
        self.read += [(at, number, told) for number, told, leaf in self.sources[at].entries if leaf == place]
        self.open += [(at, inside) for inside in self.filled(at, place)]
        self.steps += 1
        return True

    def walked(self, spot):
        q = self.asked.query.vector
        for fact in self.facts(spot):
            if isinstance(fact, Parts) and [(part.start, len(part.centre)) for part in fact.parts] == [(0, len(q))]:
                return (0, sum((a - b) ** 2 for a, b in zip(fact.parts[0].centre, q)))
        return (1,)

    def bounded(self, spot):
        bound = bound_of(self.asked, self.facts(spot))
        return (0,) if bound.cost is None else (1, bound.cost, bound.name)

    def report(self):
        return [ReportPart(source.segment, source.partition, [place for k, place in self.open if k == at],
                           [number for k, number, _ in self.read if k == at], [told for k, _, told in self.read if k == at])
                for at, source in enumerate(self.sources)]


class ManyTest(unittest.TestCase):
    RULES = (Blocks(2), Blocks(5), SortedBlocks("i", 3), Lists(3, rounds=2, cells=2, size=2), Codes(2, centres=2, rounds=1), Net(2))
    KINDS = ("box", "norms", "names", "words", "fields")
    TEXTS = ("every", "i > 1", "i > 7", "has t", 'not t = "b"', "i in [0, 1] or not has i")

    def records(self, rng, schema):
        records = []
        for _ in range(rng.randint(0, 12)):
            vector = [rng.randint(schema.least, schema.greatest) if schema.width == "bit" else rng.randint(-6, 6) for _ in range(3)]
            fields = [pair for pair in (("i", rng.randint(0, 3)), ("t", rng.choice("abc"))) if rng.random() < 0.7]
            words = [pair for pair in (("u", rng.randint(1, 20)), ("v", 1)) if rng.random() < 0.5]
            records.append(Record(rng.choice("abcdefg"), vector, fields=fields, words=words))
        return records

    def sources(self, rng, schema):
        sources, number = [], 0
        for segment in range(rng.randint(0, 3)):
            records = self.records(rng, schema)
            kinds = [kind for kind in self.KINDS if rng.random() < 0.5]
            regions, leaves = build(schema, rng.choice(self.RULES), kinds, records)
            entries = []
            for told, leaf in zip(records, leaves):
                number += 1
                if rng.random() < 0.8:
                    entries.append((number, told, leaf))
            sources.append(Source(segment + 1, 0, regions, entries))
        return sources

    def test_like_a_plain_search(self):
        rng = random.Random(51)
        fields = [("i", "integer"), ("t", "text")]
        schemas = [Schema(3, fields=fields), Schema(3, measure="dot", fields=fields),
                   Schema(3, width="bit", measure="bits", fields=fields)]
        seen = set()
        for _ in range(250):
            schema = rng.choice(schemas)
            sources = self.sources(rng, schema)
            vector = [rng.randint(0, 1) for _ in range(3)] if schema.width == "bit" else [rng.randint(-6, 6) for _ in range(3)]
            query = Query(vector, near=rng.choice((0, 1, 2)), words=[("u", 3)] if rng.random() < 0.5 else [],
                          text=rng.choice(self.TEXTS), most=rng.randint(1, 4))
            asked, walk = Question(schema, query), rng.choice((0, 0, 2, 50))
            search, plain = Search(asked, sources, walk=walk), PlainSearch(asked, sources, walk)
            while True:
                self.assertEqual(search.report(), plain.report())
                self.assertEqual(search.answer(), plain.answer())
                self.assertIs(search.ended(), search.answer().exact)
                stepped = plain.step()
                self.assertEqual(search.run(1), 1 if stepped else 0)
                self.assertEqual(search.steps, plain.steps)
                if not stepped:
                    break
            everything = [entry[:2] for source in sources for entry in source.entries]
            whole = answer_of(asked, everything, [])
            # Names may stand twice here, so records of equal ranks may change places.
            ranks = [[(hit.cost, hit.name) for hit in answer.hits] for answer in (search.answer(), whole)]
            self.assertEqual(ranks[0], ranks[1])
            seen.add((search.steps > 0, any(part.left for part in search.report())))
        self.assertEqual(seen, set(itertools.product((True, False), repeat=2)))


if __name__ == "__main__":
    unittest.main()
