"""Points [86] to [90]: deeds, what they make of the catalog, and what is said of them."""

import unittest

from surenear.errors import InvalidKey, InvalidRecord
from surenear.gateway.catalog import Catalog, news_of
from surenear.ledger.note import Note
from surenear.records.record import Record
from surenear.records.schema import Schema
from surenear.regions.region import Region

SCHEMA = Schema(1)
KEY = (17, 4242)
PARTITIONS = ((Region(None, []), Region(0, [])), (Region(None, []),))


def record(name, place=0):
    return Record(name, [place])


def state(catalog):
    ledger = catalog.ledger
    return (ledger.schema, ledger.key, ledger.now, ledger.floor, list(ledger.pins), list(ledger.notes), list(ledger.segments),
            ledger.upcoming, list(catalog.titles), list(catalog.closed), list(catalog.routes), catalog.begins)


def own(shard, name, *numbers):
    return ("own", shard, name, PARTITIONS, tuple((number, (1, 0)) for number in numbers))


def catalog_with(*names, routes=()):
    """A catalog of shard 7, with a put for each name."""
    catalog = Catalog(SCHEMA, KEY, 7)
    for low, shard in routes:
        catalog.apply(("route", low, shard))
    for name in names:
        catalog.apply(("put", record(name)))
    return catalog


def owners(catalog):
    return {note.number: note.segment for note in catalog.ledger.notes}


class BeginTest(unittest.TestCase):
    def test_the_first_catalog(self):
        catalog = Catalog(SCHEMA, KEY, 7)
        self.assertEqual(state(catalog), (SCHEMA, KEY, 0, 0, [], [], [], 1, [], [], [("", 7)], 0))
        self.assertEqual(catalog.shard_of("anything"), 7)
        self.assertEqual((catalog.title_of(1), catalog.segment_named(7, (1, 0))), (None, None))

    def test_keys(self):
        for key in ((-1, 0), (0, 4294967291)):
            with self.assertRaises(InvalidKey):
                Catalog(SCHEMA, key, 7)


class LedgerDeedTest(unittest.TestCase):
    def test_writes(self):
        catalog = Catalog(SCHEMA, KEY, 7)
        deeds = [("put", record("a")), ("put", record("b")), ("drop", "a"), ("drop", "a"), ("drop", "z"), ("put", record("b", 5))]
        self.assertEqual([catalog.apply(deed) for deed in deeds], [1, 2, 3, None, None, 4])
        self.assertEqual([(note.name, note.number, note.died) for note in catalog.ledger.notes], [("a", 1, 3), ("b", 2, 4), ("b", 4, None)])

    def test_moments(self):
        catalog = catalog_with("a", "b")
        deeds = [("pin",), ("put", record("c")), ("pin",), ("lift", 9), ("lift", 1), ("unpin", 2), ("unpin", 2), ("unpin", 7), ("unpin", 3)]
        self.assertEqual([catalog.apply(deed) for deed in deeds], [2, 3, 3, 3, 3, 2, 2, 7, 3])
        self.assertEqual((catalog.ledger.pins, catalog.ledger.floor), ([], 3))

    def test_an_unpin_takes_one_pin(self):
        catalog = catalog_with("a")
        for deed in (("pin",), ("pin",), ("unpin", 1)):
            catalog.apply(deed)
        self.assertEqual(catalog.ledger.pins, [1])

    def test_a_record_not_of_the_schema(self):
        catalog = catalog_with("a")
        before = state(catalog)
        with self.assertRaises(InvalidRecord):
            catalog.apply(("put", Record("b", [1, 2])))
        self.assertEqual(state(catalog), before)

    def test_begin(self):
        catalog = Catalog(SCHEMA, KEY, 7)
        self.assertEqual([catalog.apply(("begin",)) for _ in range(3)], [1, 2, 3])
        self.assertEqual(catalog.begins, 3)


class RouteTest(unittest.TestCase):
    def test_routes(self):
        catalog = Catalog(SCHEMA, KEY, 7)
        self.assertEqual([catalog.apply(("route", *pair)) for pair in (("m", 8), ("c", 9), ("cc", 7), ("z", 9))], [8, 9, 7, 9])
        self.assertEqual(catalog.routes, [("", 7), ("c", 9), ("cc", 7), ("m", 8), ("z", 9)])
        for name, shard in (("a", 7), ("b~", 7), ("c", 9), ("c ", 9), ("cb~", 9), ("cc", 7), ("l~", 7), ("m", 8), ("y", 8), ("z", 9), ("~~", 9), ("", 7)):
            self.assertEqual(catalog.shard_of(name), shard, name)

    def test_a_route_that_begins_at_the_same_string(self):
        catalog = Catalog(SCHEMA, KEY, 7)
        for low, shard in (("m", 8), ("", 5), ("m", 9), ("m", 9)):
            self.assertEqual(catalog.apply(("route", low, shard)), shard)
        self.assertEqual(catalog.routes, [("", 5), ("m", 9)])

    def test_titles(self):
        catalog = catalog_with("a", "b", "m", routes=[("m", 8)])
        catalog.apply(own(7, (1, 0), 1))
        catalog.apply(own(8, (1, 0), 3))
        catalog.apply(own(7, (1, 1), 2))
        self.assertEqual(catalog.titles, [(1, 7, (1, 0)), (2, 8, (1, 0)), (3, 7, (1, 1))])
        self.assertEqual([catalog.title_of(number) for number in (0, 1, 2, 3, 4)], [None, (7, (1, 0)), (8, (1, 0)), (7, (1, 1)), None])
        self.assertEqual([catalog.segment_named(*pair) for pair in ((7, (1, 0)), (8, (1, 0)), (7, (1, 1)), (8, (1, 1)), (9, (1, 0)))],
                         [1, 2, 3, None, None])


class TurnTest(unittest.TestCase):
    def setUp(self):
        # a and b belong to 7, m and n to 8.
        self.catalog = catalog_with("a", "b", "m", "n", routes=[("m", 8)])

    def turning(self, shard, name):
        return [note.number for note in self.catalog.ledger.notes if self.catalog.turns(shard, name, note) is True]

    def test_fresh_notes(self):
        for name in ((0, 0), (1, 0), (99, 99)):
            self.assertEqual(self.turning(7, name), [1, 2])
            self.assertEqual(self.turning(8, name), [3, 4])
            self.assertEqual(self.turning(9, name), [])

    def test_notes_of_another_shard(self):
        self.catalog.apply(own(7, (3, 3), 1, 2))
        self.assertEqual(self.turning(8, (9, 9)), [3, 4])
        self.catalog.apply(("route", "", 8))
        self.assertEqual(self.turning(8, (1, 0)), [1, 2, 3, 4])
        # What is owned by another shard turns only if it belongs here.
        self.catalog.apply(("route", "b", 9))
        self.assertEqual(self.turning(8, (1, 0)), [1, 3, 4])
        self.assertEqual(self.turning(9, (1, 0)), [2])

    def test_notes_of_an_earlier_segment(self):
        self.catalog.apply(own(7, (3, 3), 1))
        for name, told in (((3, 2), [2]), ((3, 3), [2]), ((3, 4), [1, 2]), ((2, 9), [2]), ((4, 0), [1, 2])):
            self.assertEqual(self.turning(7, name), told)

    def test_notes_of_this_shard_that_belong_to_another_one(self):
        self.catalog.apply(own(7, (3, 3), 1))
        self.catalog.apply(("route", "", 8))
        # Owned by an earlier segment of this shard, whatever the routes; the fresh one belongs elsewhere.
        self.assertEqual(self.turning(7, (3, 4)), [1])
        self.assertEqual(self.turning(7, (3, 2)), [])

    def test_false_is_a_flag(self):
        note = self.catalog.ledger.notes[0]
        self.assertIs(self.catalog.turns(8, (1, 0), note), False)
        self.catalog.apply(own(7, (3, 3), 1))
        self.assertIs(self.catalog.turns(7, (3, 3), self.catalog.ledger.notes[0]), False)


class OwnTest(unittest.TestCase):
    def test_own(self):
        catalog = catalog_with("a", "b", "c")
        self.assertEqual(catalog.apply(own(7, (1, 0), 1, 3)), 1)
        self.assertEqual(owners(catalog), {1: 1, 2: None, 3: 1})
        self.assertEqual([note.leaves for note in catalog.ledger.notes], [(1, 0), (), (1, 0)])
        self.assertEqual(catalog.ledger.segments[0].partitions, PARTITIONS)
        self.assertEqual((catalog.ledger.segments[0].shard, catalog.titles, catalog.closed), (7, [(1, 7, (1, 0))], []))

    def test_only_those_that_turn(self):
        catalog = catalog_with("a", "b", "m", routes=[("m", 8)])
        self.assertEqual(catalog.apply(own(7, (1, 0), 1, 2, 3, 99)), 1)
        self.assertEqual(owners(catalog), {1: 1, 2: 1, 3: None})
        self.assertEqual(catalog.apply(own(7, (1, 1), 2)), 2)
        self.assertEqual(owners(catalog), {1: 1, 2: 2, 3: None})
        # An earlier name gets nothing from a later one.
        self.assertEqual(catalog.apply(own(7, (0, 9), 1, 2)), 3)
        self.assertEqual((owners(catalog), catalog.titles), ({1: 1, 2: 2, 3: None}, [(1, 7, (1, 0)), (2, 7, (1, 1))]))
        self.assertEqual(catalog.closed, [(7, (0, 9))])

    def test_a_segment_that_goes_at_once(self):
        catalog = catalog_with("a")
        self.assertEqual(catalog.apply(own(8, (1, 0), 1)), 1)
        self.assertEqual((catalog.titles, catalog.closed, catalog.ledger.upcoming), ([], [(8, (1, 0))], 2))
        self.assertEqual(catalog.apply(own(8, (1, 0), 1)), 2)
        self.assertEqual(catalog.closed, [(8, (1, 0))])

    def test_segments_whose_notes_move(self):
        catalog = catalog_with("a", "b", "c")
        for number in (3, 1, 2):
            catalog.apply(own(7, (1, number), number))
        catalog.apply(own(7, (2, 0), 1, 2, 3))
        self.assertEqual(catalog.titles, [(4, 7, (2, 0))])
        # Several of them in the order of the segments.
        self.assertEqual(catalog.closed, [(7, (1, 3)), (7, (1, 1)), (7, (1, 2))])


class CloseTest(unittest.TestCase):
    def test_close_and_forget(self):
        catalog = Catalog(SCHEMA, KEY, 7)
        for shard, name in ((7, (1, 1)), (8, (1, 1)), (7, (1, 0)), (7, (1, 1))):
            self.assertIsNone(catalog.apply(("close", shard, name)))
        self.assertEqual(catalog.closed, [(7, (1, 1)), (8, (1, 1)), (7, (1, 0))])
        for shard, name in ((7, (1, 1)), (9, (1, 0)), (7, (5, 5))):
            self.assertIsNone(catalog.apply(("forget", shard, name)))
        self.assertEqual(catalog.closed, [(8, (1, 1)), (7, (1, 0))])
        catalog.apply(("close", 7, (1, 1)))
        self.assertEqual(catalog.closed, [(8, (1, 1)), (7, (1, 0)), (7, (1, 1))])

    def test_segments_that_go_by_any_deed(self):
        for last in (("lift", 9), ("unpin", 1)):
            catalog = catalog_with("a")
            catalog.apply(own(7, (1, 0), 1))
            catalog.apply(("pin",))
            catalog.apply(("drop", "a"))
            catalog.apply(("unpin", 1) if last[0] == "lift" else ("lift", 9))
            self.assertEqual((catalog.closed, catalog.titles), ([], [(1, 7, (1, 0))]))
            catalog.apply(last)
            self.assertEqual((catalog.closed, catalog.titles), ([(7, (1, 0))], []))

    def test_several_in_the_order_of_the_segments(self):
        catalog = catalog_with("a", "b", "c")
        for name, number in (((1, 5), 2), ((1, 4), 3), ((1, 6), 1)):
            catalog.apply(own(7, name, number))
        for name in "abc":
            catalog.apply(("drop", name))
        catalog.apply(("lift", 9))
        self.assertEqual(catalog.closed, [(7, (1, 5)), (7, (1, 4)), (7, (1, 6))])


class TwinTest(unittest.TestCase):
    def test_twin(self):
        catalog = catalog_with("a", "b", "m", routes=[("m", 8)])
        for deed in (own(7, (1, 0), 1), ("close", 8, (4, 4)), ("pin",), ("begin",)):
            catalog.apply(deed)
        twin = catalog.twin()
        self.assertEqual(state(twin), state(catalog))
        for one, other in ((catalog, twin), (twin, catalog)):
            before = state(other)
            for deed in (("put", record("z")), ("drop", "a"), ("pin",), ("unpin", 3), own(7, (9, 0), 1, 2), ("close", 9, (1, 1)),
                         ("forget", 8, (4, 4)), ("route", "k", 9), ("begin",), ("lift", 99)):
                one.apply(deed)
            for told in (one.titles, one.closed, one.routes, one.ledger.notes):
                told.clear()
            self.assertEqual(state(other), before)

    def test_lists_are_not_changed(self):
        catalog = catalog_with("a", "b")
        kept = []
        for deed in (own(7, (1, 0), 1), ("close", 8, (4, 4)), ("route", "k", 9), own(7, (1, 1), 1), ("forget", 8, (4, 4)), ("route", "k", 8)):
            kept.append((catalog.titles, catalog.closed, catalog.routes, state(catalog)))
            catalog.apply(deed)
        for titles, closed, routes, before in kept:
            self.assertEqual([titles, closed, routes], list(before[8:11]))


class NewsTest(unittest.TestCase):
    def news(self, catalog, deed):
        before, after = catalog.twin(), catalog.twin()
        after.apply(deed)
        told = state(before), state(after)
        news = news_of(before, after, deed)
        self.assertEqual((state(before), state(after)), told)
        catalog.apply(deed)
        return news

    def test_put(self):
        catalog = catalog_with("a", routes=[("m", 8)])
        self.assertEqual(self.news(catalog, ("put", record("b"))), [(7, ("record", 2, record("b")))])
        self.assertEqual(self.news(catalog, ("put", record("m", 5))), [(8, ("record", 3, record("m", 5)))])
        # A fresh note that ends is no news.
        self.assertEqual(self.news(catalog, ("put", record("b", 1))), [(7, ("record", 4, record("b", 1)))])

    def test_nothing_to_say(self):
        catalog = catalog_with("a")
        for deed in (("pin",), ("unpin", 1), ("unpin", 1), ("lift", 1), ("drop", "a"), ("drop", "a"), ("route", "m", 8), ("begin",),
                     ("forget", 7, (1, 0))):
            self.assertEqual(self.news(catalog, deed), [], deed)

    def test_deaths(self):
        catalog = catalog_with("a", "b", "m", routes=[("m", 8)])
        catalog.apply(own(7, (1, 0), 1, 2))
        catalog.apply(own(8, (1, 0), 3))
        self.assertEqual(self.news(catalog, ("put", record("a", 5))), [(7, ("record", 4, record("a", 5))), (7, ("dead", 1, 4))])
        self.assertEqual(self.news(catalog, ("drop", "m")), [(8, ("dead", 3, 5))])
        self.assertEqual(self.news(catalog, ("drop", "m")), [])
        # The shard is that of the segment, the record goes where the name belongs now.
        catalog.apply(("route", "b", 9))
        self.assertEqual(self.news(catalog, ("put", record("b"))), [(9, ("record", 6, record("b"))), (7, ("dead", 2, 6))])

    def test_owners(self):
        catalog = catalog_with("a", "b")
        self.assertEqual(self.news(catalog, own(7, (1, 0), 1)), [(7, ("owner", (1, 0), 1))])
        self.assertEqual(self.news(catalog, own(7, (1, 1), 2)), [(7, ("owner", (1, 1), 2))])
        # A segment that goes at once was never there.
        self.assertEqual(self.news(catalog, own(8, (1, 1), 2)), [(8, ("release", (1, 1)))])
        self.assertEqual(self.news(catalog, own(7, (1, 2), 1, 2)), [(7, ("owner", (1, 2), 4)), (7, ("release", (1, 0))), (7, ("release", (1, 1)))])

    def test_closed(self):
        catalog = catalog_with("a")
        self.assertEqual(self.news(catalog, ("close", 8, (1, 0))), [(8, ("release", (1, 0)))])
        self.assertEqual(self.news(catalog, ("close", 8, (1, 0))), [])
        catalog.apply(own(7, (1, 0), 1))
        catalog.apply(("drop", "a"))
        self.assertEqual(self.news(catalog, ("lift", 2)), [(7, ("release", (1, 0)))])

    def test_notes_of_the_catalog(self):
        catalog = catalog_with("a")
        self.assertIsInstance(catalog.ledger.notes[0], Note)


if __name__ == "__main__":
    unittest.main()
