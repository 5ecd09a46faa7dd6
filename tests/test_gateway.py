"""Points [85], [90] to [97]: deeds that wait, what shards say, queries, and beginnings."""

import unittest

from surenear.building.build import build_offer
from surenear.building.rules import Blocks
from surenear.codes.writing import list_code, numbers_code
from surenear.costs.query import Query
from surenear.disks.blocks import block_of
from surenear.disks.disk import Disk
from surenear.disks.journal import read_log
from surenear.errors import (
    InvalidFilter, InvalidKey, InvalidQuery, InvalidRecord, NoSuchMoment, NoSuchQuery, NotNow, NotPinned, NotUp,
)
from surenear.facts.contents import Counts, Names, Range, Values
from surenear.facts.fact import Fact
from surenear.facts.vectors import Box, Cell, Differ, Norms, Parts
from surenear.gateway.catalog import Catalog
from surenear.gateway.deeds import catalog_code, deed_code, read_deed
from surenear.gateway.gateway import CLOSED, FRESH, LOG, READINGS, TOLD, Gateway
from surenear.records.record import Record
from surenear.records.schema import Schema
from surenear.regions.offer import Entry
from surenear.regions.region import Region
from surenear.search.answers import Answer, Hit
from surenear.search.report import ReportPart

SCHEMA = Schema(1)
KEY = (17, 4242)
REGIONS = (Region(None, []),)
REFUSED = ("refused",)


def record(name, place=0):
    return Record(name, [place])


def catalog_state(catalog):
    ledger = catalog.ledger
    return (ledger.now, ledger.floor, ledger.pins, ledger.notes, ledger.segments, ledger.upcoming, catalog.titles, catalog.closed,
            catalog.routes, catalog.begins)


class Gate:
    """A gateway of shard 7 and its disk."""

    def __init__(self, *, begun=True, kept=True):
        self.disk = Disk()
        self.gateway = Gateway(SCHEMA, KEY, 7)
        if begun:
            self.settle()
        if begun and kept:
            self.keep()

    def step(self, answer=None):
        operation = self.gateway.want()
        return self.gateway.told(self.disk.ask(operation) if answer is None else answer)

    def settle(self):
        """All operations that are wanted; returns the outcomes and what is said."""
        outcomes, said = [], []
        while self.gateway.want() is not None:
            more, told = self.step()
            outcomes += more or []
            said += told
        return outcomes, said

    def keep(self):
        """Lets all that waits be kept; returns the outcomes and what is said."""
        self.gateway.write()
        return self.settle()

    def put(self, *names):
        for name in names:
            self.gateway.put(record(name))
        return self.keep()

    def hear(self, shard, *message):
        return self.gateway.hear(shard, message)

    def segment(self, shard, name, *pairs, regions=REGIONS):
        """Reads a whole segment with these numbers and names; returns what is said in the end."""
        entries = tuple(Entry(number, record(told), (0,)) for number, told in pairs)
        said = self.hear(shard, "sealed", name, max(1, (len(entries) + 3) // 4), (regions,))
        while said and said[0][1][0] == "read":
            _, (_, _, hearing, index) = said[0]
            said = self.hear(shard, "piece", name, hearing, index, entries[index * 4:index * 4 + 4])
        return said

    def owned(self, shard, name, *pairs):
        """Reads a segment and keeps what follows."""
        self.segment(shard, name, *pairs)
        return self.keep()

    @property
    def catalog(self):
        return self.gateway.catalog

    @property
    def ledger(self):
        return self.gateway.catalog.ledger

    def crash(self):
        self.gateway.crash()
        self.settle()


class ConstantTest(unittest.TestCase):
    def test_constants(self):
        self.assertEqual((FRESH, READINGS, TOLD, CLOSED, LOG), (40, 2, 200, 8, 20))

    def test_keys(self):
        for key in ((-1, 0), (0, 4294967291)):
            with self.assertRaises(InvalidKey):
                Gateway(SCHEMA, key, 7)


class BeginTest(unittest.TestCase):
    def test_an_empty_disk(self):
        gate = Gate(begun=False)
        gateway = gate.gateway
        first = catalog_state(Catalog(SCHEMA, KEY, 7))
        words = []
        while not gateway.up:
            self.assertIs(gateway.up, False)
            self.assertEqual((catalog_state(gateway.catalog), gateway.lot, gateway.wishes), (first, [], []))
            words.append(gateway.want())
            self.assertEqual(gate.step(), (None, []))
        self.assertIs(gateway.up, True)
        head = block_of(list_code([numbers_code(catalog_code(Catalog(SCHEMA, KEY, 7)))]))
        self.assertEqual(words, [("names",), ("sync",), ("make", "log 1", head), ("sync",)])
        self.assertEqual((gateway.lot, gateway.wishes), ([], [("begin",)]))
        self.assertEqual(catalog_state(gateway.catalog), first)
        self.assertIsNone(gateway.want())

    def test_not_up(self):
        gate = Gate(begun=False)
        gateway = gate.gateway
        while not gateway.up:
            for call in (lambda: gateway.put(Record("", [1, 2])), lambda: gateway.drop("a"), lambda: gateway.pin(), lambda: gateway.unpin(5),
                         lambda: gateway.route("a", 8), lambda: gateway.hear(7, ("gone", (1, 0))), lambda: gateway.ask(9, Query([1, 2]), 5),
                         lambda: gateway.finish(1), lambda: gateway.remind()):
                with self.assertRaises(NotUp):
                    call()
            before = gateway.want()
            self.assertIsNone(gateway.write())
            self.assertEqual((gateway.want(), gateway.readings(), gateway.queries()), (before, [], []))
            gate.step()

    def test_the_beginning_is_a_deed(self):
        gate = Gate(kept=False)
        self.assertEqual(gate.keep(), ([1, 0], []))
        self.assertEqual((gate.catalog.begins, gate.gateway.wishes), (1, []))
        for begins in (2, 3):
            gate.crash()
            self.assertEqual((gate.catalog.begins, gate.gateway.wishes), (begins - 1, [("begin",)]))
            self.assertEqual(gate.keep(), ([begins, 0], []))

    def test_what_was_kept(self):
        gate = Gate()
        gate.put("a", "b", "a")
        gate.owned(7, (1, 0), (3, "a"))
        gate.gateway.drop("b")
        gate.keep()
        before = catalog_state(gate.catalog)
        gate.gateway.put(record("lost"))
        gate.gateway.crash()
        self.assertEqual((gate.gateway.lot, gate.gateway.wishes, gate.gateway.up), ([], [], False))
        self.assertEqual(catalog_state(gate.catalog), catalog_state(Catalog(SCHEMA, KEY, 7)))
        gate.settle()
        self.assertEqual(catalog_state(gate.catalog), before)

    def test_a_base_and_entries_that_are_no_codes(self):
        for base, entries, names in (([5], [("put", record("a"))], ["a"]), ([], [], []), (catalog_code(Catalog(SCHEMA, KEY, 9)), [("put", record("b"))], ["b"])):
            disk = Disk()
            told = [deed_code(deed) for deed in entries]
            disk.ask(("make", "log 3", block_of(list_code([numbers_code(base), numbers_code([99]), *[numbers_code(code) for code in told]])) + block_of([1])))
            gate = Gate(begun=False)
            gate.disk = disk
            gate.settle()
            self.assertEqual([note.name for note in gate.ledger.notes], names)
            self.assertEqual(gate.catalog.routes, [("", 9 if names == ["b"] else 7)])
            self.assertEqual(gate.gateway.wishes, [("begin",)])

    def test_crash_ends_everything(self):
        gate = Gate()
        gate.put("a")
        gate.hear(7, "sealed", (1, 0), 1, (REGIONS,))
        gate.gateway.ask(0, Query([0]), 5)
        gate.gateway.put(record("b"))
        gate.gateway.write()
        self.assertIsNone(gate.gateway.crash())
        self.assertEqual((gate.gateway.readings(), gate.gateway.queries(), gate.gateway.lot, gate.gateway.wishes), ([], [], [], []))
        gate.settle()
        self.assertEqual((gate.gateway.readings(), gate.gateway.queries()), ([], []))
        with self.assertRaises(NoSuchQuery):
            gate.gateway.finish(1)


class LotTest(unittest.TestCase):
    def test_deeds_wait(self):
        gate = Gate()
        gateway = gate.gateway
        self.assertEqual([gateway.put(record("a")), gateway.drop("a"), gateway.pin(), gateway.route("m", 8)], [None] * 4)
        waiting = [("put", record("a")), ("drop", "a"), ("pin",), ("route", "m", 8)]
        self.assertEqual((gateway.wishes, gateway.lot, gate.ledger.now), (waiting, [], 0))
        self.assertIsNone(gateway.want())
        self.assertIsNone(gateway.write())
        lot = waiting + [("lift", 0)]
        self.assertEqual((gateway.wishes, gateway.lot, gate.ledger.now), ([], lot, 0))
        self.assertEqual(gateway.want(), ("append", "log 1", [number for deed in lot for number in block_of(deed_code(deed))]))
        self.assertEqual(gate.step(), (None, []))
        self.assertEqual((gateway.lot, gate.ledger.now), (lot, 0))
        outcomes, said = gate.step()
        self.assertEqual(outcomes, [1, 2, 2, 8, 0])
        self.assertEqual(said, [(7, ("record", 1, record("a")))])
        self.assertEqual((gateway.lot, gateway.wishes, gate.ledger.now, gate.ledger.pins), ([], [], 2, [2]))

    def test_one_lot_at_a_time(self):
        gate = Gate()
        gate.gateway.put(record("a"))
        gate.gateway.write()
        operation = gate.gateway.want()
        gate.gateway.put(record("b"))
        gate.gateway.write()
        self.assertEqual((gate.gateway.want(), gate.gateway.wishes), (operation, [("put", record("b"))]))
        gate.step()
        gate.gateway.write()
        self.assertEqual((gate.gateway.want(), gate.gateway.wishes), (("sync",), [("put", record("b"))]))
        self.assertEqual(gate.step()[0], [1, 0])
        gate.gateway.write()
        self.assertEqual(gate.gateway.lot, [("put", record("b")), ("lift", 1)])

    def test_refused(self):
        gate = Gate()
        gate.gateway.put(record("a"))
        gate.gateway.write()
        for _ in range(2):
            operation = gate.gateway.want()
            for answer in (REFUSED, ("names", []), ("numbers", [])):
                self.assertEqual(gate.gateway.told(answer), (None, []))
                self.assertEqual((gate.gateway.want(), len(gate.gateway.lot)), (operation, 2))
            told = gate.step()
        self.assertEqual(told[0], [1, 0])
        # Nothing is wanted now.
        self.assertEqual(gate.gateway.told(("done",)), (None, []))
        self.assertEqual(gate.ledger.now, 1)

    def test_the_lift(self):
        gate = Gate()
        gate.put("a", "b")
        self.assertEqual(gate.ledger.floor, 0)
        gate.put("c")
        # Now in the catalog was 2 when the lot was given.
        self.assertEqual(gate.ledger.floor, 2)
        number, _ = gate.gateway.ask(3, Query([0]), 5)
        gate.put("d")
        self.assertEqual(gate.ledger.floor, 3)
        other, _ = gate.gateway.ask(4, Query([0]), 5)
        self.assertEqual(gate.put("e")[0], [5, 3])
        gate.gateway.finish(number)
        self.assertEqual(gate.put("f")[0], [6, 4])
        gate.gateway.finish(other)
        self.assertEqual(gate.put("g")[0], [7, 6])

    def test_what_is_said_comes_after_the_lot_in_the_order_of_its_deeds(self):
        gate = Gate()
        gate.put("a", "b")
        gate.owned(7, (1, 0), (1, "a"), (2, "b"))
        gate.gateway.route("b", 8)
        gate.gateway.put(record("b", 1))
        gate.gateway.drop("a")
        gate.gateway.put(record("a", 2))
        outcomes, said = gate.keep()
        self.assertEqual(outcomes, [8, 3, 4, 5, 2])
        self.assertEqual(said, [(8, ("record", 3, record("b", 1))), (7, ("dead", 2, 3)), (7, ("dead", 1, 4)), (7, ("record", 5, record("a", 2)))])
        # The lift of the next lot lets the segment go.
        gate.gateway.drop("zz")
        self.assertEqual(gate.keep(), ([None, 5], [(7, ("release", (1, 0)))]))

    def test_the_code_of_each_deed_is_an_entry(self):
        gate = Gate()
        gate.gateway.put(record("a"))
        gate.gateway.pin()
        gate.keep()
        base, entries = read_log(gate.disk.ask(("read", "log 1"))[1])
        self.assertEqual(base, catalog_code(Catalog(SCHEMA, KEY, 7)))
        self.assertEqual([read_deed(entry) for entry in entries], [("begin",), ("lift", 0), ("put", record("a")), ("pin",), ("lift", 0)])

    def test_turns(self):
        gate = Gate()
        # The beginning has made two entries; each pin makes two more.
        for entries in range(4, 20, 2):
            gate.gateway.write()
            self.assertIsNone(gate.gateway.want())
            gate.gateway.pin()
            gate.keep()
        base, entries = read_log(gate.disk.ask(("read", "log 1"))[1])
        self.assertEqual(len(entries), 18)
        gate.gateway.write()
        self.assertIsNone(gate.gateway.want())
        gate.gateway.pin()
        gate.gateway.pin()
        gate.gateway.write()
        # What waits comes before a turn.
        self.assertEqual(gate.gateway.want()[0], "append")
        gate.settle()
        before = catalog_state(gate.catalog)
        gate.gateway.write()
        self.assertEqual(gate.gateway.want(), ("make", "log 2", block_of(list_code([numbers_code(catalog_code(gate.catalog))]))))
        self.assertEqual(gate.gateway.lot, [])
        for word in ("make", "sync", "remove"):
            self.assertEqual(gate.gateway.want()[0], word)
            self.assertEqual(gate.step(), (None, []))
        self.assertIsNone(gate.gateway.want())
        gate.gateway.write()
        self.assertIsNone(gate.gateway.want())
        gate.crash()
        self.assertEqual(catalog_state(gate.catalog), before)

    def test_exactly_log_entries_turn(self):
        gate = Gate()
        for _ in range(17):
            gate.gateway.pin()
        gate.keep()
        gate.gateway.write()
        self.assertEqual(gate.gateway.want()[0], "make")
        gate = Gate()
        for _ in range(16):
            gate.gateway.pin()
        gate.keep()
        gate.gateway.write()
        self.assertIsNone(gate.gateway.want())

    def test_deeds_that_wait_during_a_turn(self):
        gate = Gate()
        for _ in range(20):
            gate.gateway.pin()
        gate.keep()
        gate.gateway.write()
        gate.gateway.put(record("a"))
        for _ in range(3):
            gate.gateway.write()
            self.assertEqual((gate.gateway.lot, len(gate.gateway.wishes)), ([], 1))
            gate.step()
        self.assertEqual(gate.keep()[0], [1, 0])


class PutTest(unittest.TestCase):
    def test_errors(self):
        gate = Gate()
        for wrong in (Record("", [0]), Record("a", [0, 0]), Record("a", [500])):
            with self.assertRaises(InvalidRecord):
                gate.gateway.put(wrong)
        self.assertEqual(gate.gateway.wishes, [])

    def refused(self, gate, told=None, error=NotNow):
        before = gate.gateway.wishes, gate.gateway.lot
        with self.assertRaises(error):
            gate.gateway.put(record("new") if told is None else told)
        self.assertEqual((gate.gateway.wishes, gate.gateway.lot), before)

    def test_fresh(self):
        gate = Gate()
        for number in range(FRESH):
            gate.gateway.put(record(f"r{number}"))
        self.refused(gate)
        # The record is looked at first.
        self.refused(gate, Record("", []), InvalidRecord)
        gate.gateway.write()
        self.refused(gate)
        gate.settle()
        self.refused(gate)
        gate.owned(7, (1, 0), (1, "r0"))
        gate.gateway.put(record("new"))
        self.refused(gate)

    def test_half_waiting_half_in_the_lot(self):
        gate = Gate()
        for number in range(10):
            gate.gateway.put(record(f"r{number}"))
        gate.keep()
        for number in range(10, 25):
            gate.gateway.put(record(f"r{number}"))
        gate.gateway.write()
        for number in range(25, 40):
            gate.gateway.put(record(f"r{number}"))
        self.refused(gate)

    def test_notes_that_will_be_owned_or_gone(self):
        gate = Gate()
        for number in range(FRESH):
            gate.gateway.put(record(f"r{number}"))
        gate.keep()
        self.refused(gate)
        # An own is under way.
        gate.segment(7, (1, 0), (1, "r0"))
        self.assertEqual(gate.gateway.wishes[-1][0], "own")
        gate.gateway.put(record("new"))
        self.refused(gate)
        gate.gateway.write()
        self.refused(gate)

    def test_replaced_notes_count_while_they_are_kept(self):
        gate = Gate()
        for number in range(FRESH):
            gate.gateway.put(record("same", number))
        # They exist at kept moments: the floor has not been lifted yet.
        self.refused(gate)
        gate.keep()
        self.refused(gate)
        gate.gateway.drop("none")
        gate.gateway.write()
        # The lift in the lot lets all but the last one go.
        gate.gateway.put(record("new"))
        gate.settle()
        self.assertEqual(len(gate.ledger.fresh()), 1)


class UnpinTest(unittest.TestCase):
    def test_pinned_in_the_end(self):
        gate = Gate()
        gate.put("a")
        for moment in (0, 1, 5):
            with self.assertRaises(NotPinned):
                gate.gateway.unpin(moment)
        gate.gateway.pin()
        self.assertIsNone(gate.gateway.unpin(1))
        with self.assertRaises(NotPinned):
            gate.gateway.unpin(1)
        gate.gateway.pin()
        gate.gateway.write()
        gate.gateway.unpin(1)
        with self.assertRaises(NotPinned):
            gate.gateway.unpin(1)
        self.assertEqual(gate.settle()[0], [1, 1, 1, 1])
        self.assertEqual(gate.keep()[0], [1, 1])
        self.assertEqual(gate.ledger.pins, [])

    def test_a_query_at_the_moment(self):
        gate = Gate()
        gate.put("a")
        gate.gateway.pin()
        gate.gateway.pin()
        gate.keep()
        number, _ = gate.gateway.ask(1, Query([0]), 5)
        with self.assertRaises(NotNow):
            gate.gateway.unpin(1)
        # What is not pinned is named first.
        gate.gateway.ask(1, Query([0]), 5)
        gate.gateway.finish(number + 1)
        gate.put("b")
        other, _ = gate.gateway.ask(2, Query([0]), 5)
        with self.assertRaises(NotPinned):
            gate.gateway.unpin(2)
        gate.gateway.finish(number)
        gate.gateway.unpin(1)
        gate.gateway.unpin(1)
        with self.assertRaises(NotPinned):
            gate.gateway.unpin(1)

    def test_errors_change_nothing(self):
        gate = Gate()
        gate.put("a")
        with self.assertRaises(NotPinned):
            gate.gateway.unpin(1)
        self.assertEqual(gate.gateway.wishes, [])


class SealedTest(unittest.TestCase):
    def test_a_segment_of_the_catalog(self):
        gate = Gate()
        gate.put("a")
        gate.owned(7, (1, 0), (1, "a"))
        for pieces in (1, 0, -1):
            self.assertEqual(gate.hear(7, "sealed", (1, 0), pieces, ()), [(7, ("owner", (1, 0), 1))])
        # The same name of another shard is another segment.
        self.assertEqual(gate.hear(8, "sealed", (1, 0), 1, (REGIONS,)), [(8, ("read", (1, 0), (1, 2), 0))])

    def test_a_closed_name(self):
        gate = Gate()
        gate.owned(7, (1, 0), (9, "z"))
        self.assertEqual(gate.catalog.closed, [(7, (1, 0))])
        for pieces in (1, 0):
            self.assertEqual(gate.hear(7, "sealed", (1, 0), pieces, (REGIONS,)), [(7, ("release", (1, 0)))])
        self.assertEqual(len(gate.hear(8, "sealed", (1, 0), 1, (REGIONS,))), 1)

    def test_a_reading(self):
        gate = Gate()
        self.assertEqual(gate.hear(7, "sealed", (1, 0), 3, (REGIONS,)), [(7, ("read", (1, 0), (1, 1), 0))])
        self.assertEqual(gate.gateway.readings(), [(7, (1, 0), (1, 1), 0, 3)])
        # It is being read.
        self.assertEqual(gate.hear(7, "sealed", (1, 0), 3, (REGIONS,)), [])
        self.assertEqual(gate.hear(8, "sealed", (1, 0), 1, (REGIONS,)), [(8, ("read", (1, 0), (1, 2), 0))])
        self.assertEqual(gate.gateway.readings(), [(7, (1, 0), (1, 1), 0, 3), (8, (1, 0), (1, 2), 0, 1)])
        gate.gateway.readings().clear()
        self.assertEqual(len(gate.gateway.readings()), 2)

    def test_too_few_pieces(self):
        gate = Gate()
        for pieces in (0, -1, -100):
            self.assertEqual(gate.hear(7, "sealed", (1, 0), pieces, (REGIONS,)), [])
        self.assertEqual(gate.gateway.readings(), [])
        # No hearing was used up.
        self.assertEqual(gate.hear(7, "sealed", (1, 0), 1, (REGIONS,)), [(7, ("read", (1, 0), (1, 1), 0))])

    def test_the_beginning_is_not_in_the_catalog(self):
        gate = Gate(kept=False)
        for step in (gate.gateway.write, gate.step):
            self.assertEqual(gate.hear(7, "sealed", (1, 0), 1, (REGIONS,)), [])
            step()
        self.assertEqual(gate.hear(7, "sealed", (1, 0), 1, (REGIONS,)), [])
        gate.step()
        self.assertEqual(gate.hear(7, "sealed", (1, 0), 1, (REGIONS,)), [(7, ("read", (1, 0), (1, 1), 0))])
        gate.crash()
        self.assertEqual(gate.hear(7, "sealed", (1, 0), 1, (REGIONS,)), [])
        gate.keep()
        self.assertEqual(gate.hear(7, "sealed", (1, 0), 1, (REGIONS,)), [(7, ("read", (1, 0), (2, 1), 0))])

    def test_a_deed_of_the_name_is_under_way(self):
        gate = Gate()
        gate.put("a")
        gate.segment(7, (1, 0), (1, "a"))
        gate.segment(7, (1, 1), (9, "z"))
        self.assertEqual([deed[0] for deed in gate.gateway.wishes], ["own", "close"])
        for step in (gate.gateway.write, gate.step, lambda: None):
            for name in ((1, 0), (1, 1)):
                self.assertEqual(gate.hear(7, "sealed", name, 1, (REGIONS,)), [])
            step()
        gate.step()
        self.assertEqual(gate.hear(7, "gone", (1, 1)), [])
        self.assertEqual(gate.gateway.wishes, [("forget", 7, (1, 1))])
        # It is closed still.
        self.assertEqual(gate.hear(7, "sealed", (1, 1), 1, (REGIONS,)), [(7, ("release", (1, 1)))])
        # The same name of another shard, and other names.
        for shard, name in ((8, (1, 1)), (7, (1, 2))):
            self.assertEqual(len(gate.hear(shard, "sealed", name, 1, (REGIONS,))), 1)

    def test_readings_at_one_time(self):
        gate = Gate()
        for number in range(READINGS):
            self.assertEqual(len(gate.hear(7, "sealed", (1, number), 2, (REGIONS,))), 1)
        self.assertEqual(gate.hear(7, "sealed", (1, 9), 1, (REGIONS,)), [])
        # Each shard by itself.
        self.assertEqual(len(gate.hear(8, "sealed", (1, 9), 1, (REGIONS,))), 1)
        gate.hear(7, "gone", (1, 0))
        self.assertEqual(len(gate.hear(7, "sealed", (1, 9), 1, (REGIONS,))), 1)

    def test_closed_names(self):
        gate = Gate()
        for number in range(CLOSED):
            self.assertEqual(len(gate.hear(7, "sealed", (1, number), 1, (REGIONS,))), 1)
            gate.hear(7, "piece", (1, number), (1, number + 1), 0, ())
            gate.keep()
        self.assertEqual(len(gate.catalog.closed), CLOSED)
        self.assertEqual(gate.hear(7, "sealed", (2, 0), 1, (REGIONS,)), [])
        self.assertEqual(len(gate.hear(8, "sealed", (2, 0), 1, (REGIONS,))), 1)
        gate.hear(7, "gone", (1, 3))
        self.assertEqual(gate.hear(7, "sealed", (2, 0), 1, (REGIONS,)), [])
        gate.keep()
        self.assertEqual(len(gate.hear(7, "sealed", (2, 0), 1, (REGIONS,))), 1)


class PieceTest(unittest.TestCase):
    def test_pieces_one_after_the_other(self):
        gate = Gate()
        gate.put("a", "b", "c", "d", "e")
        entries = tuple(Entry(number, record(name), (0,)) for number, name in enumerate("abcde", 1))
        gate.hear(7, "sealed", (1, 0), 2, (REGIONS,))
        gate.hear(7, "sealed", (1, 1), 1, (REGIONS,))
        self.assertEqual(gate.hear(7, "piece", (1, 0), (1, 1), 0, entries[:4]), [(7, ("read", (1, 0), (1, 1), 1))])
        # The reading stands after all others now.
        self.assertEqual(gate.gateway.readings(), [(7, (1, 1), (1, 2), 0, 1), (7, (1, 0), (1, 1), 1, 2)])
        self.assertEqual(gate.hear(7, "piece", (1, 0), (1, 1), 1, entries[4:]), [])
        self.assertEqual(gate.gateway.readings(), [(7, (1, 1), (1, 2), 0, 1)])
        homes = tuple((number, (0,)) for number in range(1, 6))
        self.assertEqual(gate.gateway.wishes, [("own", 7, (1, 0), (REGIONS,), homes)])
        self.assertEqual(gate.keep(), ([1, 5], [(7, ("owner", (1, 0), 1))]))
        self.assertEqual([note.segment for note in gate.ledger.notes], [1] * 5)

    def test_pieces_that_do_not_count(self):
        gate = Gate()
        gate.put("a")
        entries = (Entry(1, record("a"), (0,)),)
        gate.hear(7, "sealed", (1, 0), 2, (REGIONS,))
        gate.hear(7, "piece", (1, 0), (1, 1), 0, ())
        before = gate.gateway.readings()
        for shard, name, hearing, index in ((8, (1, 0), (1, 1), 1), (7, (1, 1), (1, 1), 1), (7, (1, 0), (1, 2), 1), (7, (1, 0), (2, 1), 1),
                                            (7, (1, 0), (1, 1), 0), (7, (1, 0), (1, 1), 2), (7, (1, 0), (1, 1), -1)):
            self.assertEqual(gate.hear(shard, "piece", name, hearing, index, entries), [])
            self.assertEqual((gate.gateway.readings(), gate.gateway.wishes), (before, []))
        gate.hear(7, "piece", (1, 0), (1, 1), 1, entries)
        self.assertEqual(gate.gateway.wishes, [("own", 7, (1, 0), (REGIONS,), ((1, (0,)),))])
        # The reading is over.
        gate.hear(7, "piece", (1, 0), (1, 1), 1, entries)
        self.assertEqual(len(gate.gateway.wishes), 1)

    def test_a_hearing_of_an_earlier_reading(self):
        gate = Gate()
        gate.put("a")
        gate.hear(7, "sealed", (1, 0), 1, (REGIONS,))
        gate.hear(7, "gone", (1, 0))
        self.assertEqual(gate.hear(7, "sealed", (1, 0), 1, (REGIONS,)), [(7, ("read", (1, 0), (1, 2), 0))])
        gate.hear(7, "piece", (1, 0), (1, 1), 0, (Entry(1, record("a"), (0,)),))
        self.assertEqual((len(gate.gateway.readings()), gate.gateway.wishes), (1, []))

    def read(self, gate, *entries, partitions=(REGIONS,), shard=7, name=(1, 0), pieces=1):
        """The deed that follows from these entries, all in the last piece."""
        gate.hear(shard, "sealed", name, pieces, partitions)
        for index in range(pieces):
            _, _, hearing, _, _ = [told for told in gate.gateway.readings() if told[:2] == (shard, name)][0]
            gate.hear(shard, "piece", name, hearing, index, entries if index == pieces - 1 else ())
        return gate.gateway.wishes[-1]

    def test_too_many_entries(self):
        entries = tuple(Entry(number, record("z"), (0,)) for number in range(2, TOLD + 3))
        for many, deed in ((TOLD, "own"), (TOLD + 1, "close")):
            gate = Gate()
            gate.put("a")
            told = (Entry(1, record("a"), (0,)),) + entries[:many - 1]
            self.assertEqual(self.read(gate, *told)[0], deed)
            # Before the last piece, too.
            gate = Gate()
            gate.put("a")
            gate.hear(7, "sealed", (1, 0), 5, (REGIONS,))
            gate.hear(7, "piece", (1, 0), (1, 1), 0, told[:100])
            said = gate.hear(7, "piece", (1, 0), (1, 1), 1, told[100:])
            if deed == "own":
                self.assertEqual((said, gate.gateway.wishes), ([(7, ("read", (1, 0), (1, 1), 2))], []))
            else:
                self.assertEqual((said, gate.gateway.wishes), ([], [("close", 7, (1, 0))]))
                self.assertEqual(gate.gateway.readings(), [])

    def test_an_offer_that_the_ledger_would_not_take(self):
        good = Entry(1, record("a", 3), (0,))
        for partitions, entries in (((), (Entry(1, record("a", 3), ()),)), ((REGIONS,), (good, good)), ((REGIONS,), (Entry(1, record("a", 3), (1,)),)),
                                    (((Region(0, []),),), (good,)), (((Region(None, [Norms(0, 8)]),),), (good,)), ((REGIONS, REGIONS), (good,))):
            gate = Gate()
            gate.gateway.put(record("a", 3))
            gate.keep()
            self.assertEqual(self.read(gate, *entries, partitions=partitions), ("close", 7, (1, 0)))
        gate = Gate()
        gate.gateway.put(record("a", 3))
        gate.keep()
        regions = (Region(None, [Norms(0, 9)]),)
        self.assertEqual(self.read(gate, good, partitions=(regions,)), ("own", 7, (1, 0), (regions,), ((1, (0,)),)))

    def test_nothing_turns(self):
        gate = Gate()
        gate.put("a")
        for entries in ((), (Entry(2, record("a"), (0,)),), (Entry(1, record("a", 1), (0,)),), (Entry(1, record("b"), (0,)),)):
            gate = Gate()
            gate.put("a")
            self.assertEqual(self.read(gate, *entries), ("close", 7, (1, 0)))
        # The name belongs to another shard.
        gate = Gate()
        gate.put("a")
        self.assertEqual(self.read(gate, Entry(1, record("a"), (0,)), shard=8), ("close", 8, (1, 0)))

    def test_only_notes_that_turn(self):
        gate = Gate()
        gate.gateway.route("m", 8)
        gate.put("a", "b", "m")
        gate.owned(7, (1, 5), (1, "a"))
        entries = [Entry(3, record("m"), (0,)), Entry(2, record("b"), (0,)), Entry(1, record("a"), (0,)), Entry(9, record("z"), (0,))]
        self.assertEqual(self.read(gate, *entries, name=(1, 4)), ("own", 7, (1, 4), (REGIONS,), ((2, (0,)),)))
        self.assertEqual(self.read(gate, *entries, name=(1, 6)), ("own", 7, (1, 6), (REGIONS,), ((1, (0,)), (2, (0,)))))

    def test_the_order_of_the_notes_and_the_leaves(self):
        gate = Gate()
        gate.put("a", "b", "c")
        two = (Region(None, []), Region(0, []))
        entries = (Entry(3, record("c"), (1, 0)), Entry(1, record("a"), [0, 0]), Entry(2, record("b"), (1, 0)))
        deed = self.read(gate, *entries, partitions=[list(two), REGIONS])
        self.assertEqual(deed, ("own", 7, (1, 0), (two, REGIONS), ((1, (0, 0)), (2, (1, 0)), (3, (1, 0)))))
        self.assertEqual([type(told) for told in (deed[3], deed[3][0], deed[4], deed[4][0], deed[4][0][1])], [tuple] * 5)

    def test_by_the_catalog_of_now(self):
        """A put that is not kept yet has no note; one that was replaced and swept away has none any more."""
        gate = Gate()
        gate.gateway.put(record("a"))
        self.assertEqual(self.read(gate, Entry(1, record("a"), (0,))), ("close", 7, (1, 0)))

    def test_an_empty_segment_told_with_pieces(self):
        gate = Gate()
        gate.put("a")
        self.assertEqual(self.read(gate, pieces=3), ("close", 7, (1, 0)))


class GoneTest(unittest.TestCase):
    def test_a_reading_ends(self):
        gate = Gate()
        for shard, name in ((7, (1, 0)), (7, (1, 1)), (8, (1, 0))):
            gate.hear(shard, "sealed", name, 1, (REGIONS,))
        self.assertEqual(gate.hear(7, "gone", (1, 0)), [])
        self.assertEqual([told[:2] for told in gate.gateway.readings()], [(7, (1, 1)), (8, (1, 0))])
        for shard, name in ((8, (1, 1)), (9, (1, 0)), (7, (5, 5))):
            self.assertEqual(gate.hear(shard, "gone", name), [])
        self.assertEqual((len(gate.gateway.readings()), gate.gateway.wishes), (2, []))

    def test_a_closed_name_is_forgotten(self):
        gate = Gate()
        gate.owned(7, (1, 0), (9, "z"))
        gate.owned(8, (1, 0), (9, "z"))
        self.assertEqual(gate.hear(7, "gone", (1, 0)), [])
        self.assertEqual(gate.gateway.wishes, [("forget", 7, (1, 0))])
        # It is under way.
        for step in (gate.gateway.write, gate.step, lambda: None):
            gate.hear(7, "gone", (1, 0))
            step()
        self.assertEqual(gate.gateway.wishes, [])
        self.assertEqual(gate.step()[0], [None, 0])
        self.assertEqual(gate.catalog.closed, [(8, (1, 0))])
        gate.hear(7, "gone", (1, 0))
        self.assertEqual(gate.gateway.wishes, [])

    def test_a_close_is_under_way(self):
        gate = Gate()
        gate.segment(7, (1, 0), (9, "z"))
        gate.hear(7, "gone", (1, 0))
        self.assertEqual(gate.gateway.wishes, [("close", 7, (1, 0))])

    def test_a_segment_of_the_catalog(self):
        gate = Gate()
        gate.put("a")
        gate.owned(7, (1, 0), (1, "a"))
        self.assertEqual(gate.hear(7, "gone", (1, 0)), [])
        self.assertEqual((gate.gateway.wishes, len(gate.catalog.titles)), ([], 1))


class NeedsTest(unittest.TestCase):
    def test_needs(self):
        gate = Gate()
        gate.put("a", "b", "c")
        gate.owned(7, (1, 0), (1, "a"), (3, "c"))
        gate.owned(7, (1, 1), (2, "b"))
        gate.gateway.pin()
        gate.gateway.drop("c")
        gate.keep()
        self.assertEqual(gate.hear(7, "needs", (1, 0)), [(7, ("needed", (1, 0), ((1, None), (3, 4))))])
        self.assertEqual(gate.hear(7, "needs", (1, 1)), [(7, ("needed", (1, 1), ((2, None),)))])
        for shard, name in ((8, (1, 0)), (7, (1, 2))):
            self.assertEqual(gate.hear(shard, "needs", name), [])

    def test_a_closed_name(self):
        gate = Gate()
        gate.owned(7, (1, 0), (9, "z"))
        self.assertEqual(gate.hear(7, "needs", (1, 0)), [(7, ("release", (1, 0)))])
        self.assertEqual(gate.hear(8, "needs", (1, 0)), [])


class FetchedTest(unittest.TestCase):
    def setUp(self):
        self.gate = Gate()
        self.gate.put("a", "b", "m")
        self.gate.owned(7, (1, 0), (1, "a"), (3, "m"))
        self.gate.gateway.route("m", 8)
        self.gate.keep()

    def fetched(self, *pairs, shard=7):
        return self.gate.hear(shard, "fetched", tuple((number, record(name)) for number, name in pairs))

    def test_notes_that_are_not_where_they_belong(self):
        # 1 is where it belongs, 2 is fresh, 3 is owned by another shard.
        told = [(7, ("record", 2, record("b"))), (8, ("record", 3, record("m")))]
        self.assertEqual(self.fetched((3, "m"), (1, "a"), (2, "b")), told)
        self.assertEqual(self.fetched((3, "m")), told[1:])
        self.assertEqual(self.fetched((1, "a")), [])
        self.assertEqual(self.fetched(), [])
        # Whoever tells it.
        self.assertEqual(self.fetched((2, "b"), (3, "m"), shard=9), told)

    def test_what_does_not_match(self):
        for pairs in (((2, record("b", 1)),), ((3, record("b")),), ((1, record("b")),), ((9, record("z")),)):
            self.assertEqual(self.gate.hear(7, "fetched", pairs), [])

    def test_the_first_pair_that_matches(self):
        pairs = [[3, record("m", 5)], [3, record("m")], (3, record("m"))]
        self.assertEqual(self.gate.hear(7, "fetched", pairs), [(8, ("record", 3, record("m")))])

    def test_routes_back_and_forth(self):
        self.gate.gateway.route("m", 7)
        self.gate.keep()
        self.assertEqual(self.fetched((3, "m")), [])


class ReminderTest(unittest.TestCase):
    def test_in_this_order(self):
        gate = Gate()
        self.assertEqual(gate.gateway.remind(), [])
        gate.put("a", "b", "m", "n")
        gate.owned(7, (1, 0), (1, "a"), (4, "n"), (3, "m"))
        gate.gateway.route("b", 8)
        gate.gateway.route("n", 9)
        gate.put("c", "a")
        gate.owned(9, (5, 0), (9, "z"))
        gate.hear(7, "sealed", (1, 2), 3, (REGIONS,))
        gate.hear(8, "sealed", (1, 3), 3, (REGIONS,))
        _, _, hearing, _, _ = gate.gateway.readings()[0]
        gate.hear(7, "piece", (1, 2), hearing, 0, ())
        self.assertEqual(gate.gateway.remind(), [
            (8, ("record", 2, record("b"))), (8, ("record", 5, record("c"))), (7, ("record", 6, record("a"))),
            (7, ("fetch", (1, 0), (3, 4))),
            (8, ("read", (1, 3), (1, 4), 0)), (7, ("read", (1, 2), (1, 3), 1)),
            (9, ("release", (5, 0))),
        ])

    def test_several_segments(self):
        gate = Gate()
        gate.put("a", "b", "c")
        for number, name in enumerate("abc", 1):
            gate.owned(7, (1, number), (number, name))
        gate.gateway.route("b", 8)
        gate.keep()
        self.assertEqual(gate.gateway.remind(), [(7, ("fetch", (1, 2), (2,))), (7, ("fetch", (1, 3), (3,)))])

    def test_closed_names_in_their_order(self):
        gate = Gate()
        for name in ((3, 0), (1, 0), (2, 0)):
            gate.owned(7, name, (9, "z"))
        self.assertEqual(gate.gateway.remind(), [(7, ("release", name)) for name in ((3, 0), (1, 0), (2, 0))])


class AskTest(unittest.TestCase):
    def setUp(self):
        self.gate = Gate()
        self.gate.put("a", "b", "m")
        self.gate.gateway.route("m", 8)
        self.gate.keep()
        for shard, name, pair in ((8, (1, 0), (3, "m")), (7, (1, 0), (1, "a")), (8, (1, 1), (9, "z")), (7, (1, 1), (2, "b"))):
            self.gate.owned(shard, name, pair)
        self.query = Query([0], most=9)

    def part(self, segment, *pairs, left=()):
        return ReportPart(segment, 0, left, [number for number, _ in pairs], [record(name) for _, name in pairs])

    def answer(self, number, shard, *parts, begins=1):
        return self.gate.hear(shard, "answer", (begins, number), list(parts))

    def test_what_is_said(self):
        self.assertEqual(self.gate.catalog.titles, [(1, 8, (1, 0)), (2, 7, (1, 0)), (3, 7, (1, 1))])
        for number in (1, 2):
            said = [(shard, ("ask", (1, number), 3, self.query, 50)) for shard in (8, 7)]
            self.assertEqual(self.gate.gateway.ask(3, self.query, 50), (number, said))
        self.assertEqual(self.gate.gateway.queries(), [(1, 3, []), (2, 3, [])])

    def test_without_segments(self):
        gate = Gate()
        gate.put("a")
        self.assertEqual(gate.gateway.ask(1, Query([0]), 5), (1, []))
        self.assertEqual(gate.gateway.finish(1), Answer([Hit("a", 1, 0)], "none", True))

    def test_numbers_in_each_beginning(self):
        self.gate.gateway.ask(3, self.query, 5)
        self.gate.gateway.finish(1)
        self.assertEqual(self.gate.gateway.ask(3, self.query, 5)[0], 2)
        self.gate.crash()
        # The beginning is not in the catalog yet: nothing is said, later either.
        self.assertEqual(self.gate.gateway.ask(3, self.query, 5), (1, []))
        self.assertEqual(self.gate.keep(), ([2, 3], []))
        self.assertEqual([message for _, message in self.gate.gateway.remind()], [("release", (1, 1))])
        number, said = self.gate.gateway.ask(3, self.query, 5)
        self.assertEqual((number, said[0]), (2, (8, ("ask", (2, 2), 3, self.query, 5))))
        self.assertEqual(len(self.gate.gateway.queries()), 2)

    def test_errors(self):
        for moment, query, error in (
            (3, Query([0, 0]), InvalidQuery), (3, Query([0], most=0), InvalidQuery), (3, Query([0], text="x"), InvalidFilter),
            (9, Query([0, 0], text="x"), InvalidQuery), (9, Query([0], text="x"), InvalidFilter), (9, Query([0]), NoSuchMoment),
            (4, Query([0]), NoSuchMoment), (-1, Query([0]), NoSuchMoment), (0, Query([0]), NoSuchMoment),
        ):
            with self.assertRaises(error):
                self.gate.gateway.ask(moment, query, 5)
        self.assertEqual(self.gate.gateway.queries(), [])
        # No number was used up.
        self.assertEqual(self.gate.gateway.ask(3, self.query, 5)[0], 1)

    def test_a_moment_that_will_be_kept(self):
        gate = Gate()
        gate.put("a")
        gate.gateway.pin()
        gate.keep()
        gate.put("b")
        gate.put("c")
        self.assertEqual((gate.ledger.pins, gate.ledger.floor), ([1], 2))
        gate.gateway.unpin(1)
        # It will not be kept after what waits.
        with self.assertRaises(NoSuchMoment):
            gate.gateway.ask(1, Query([0]), 5)
        gate.gateway.write()
        # Nor after the lot, which lifts the floor to 3, too.
        for moment in (1, 2):
            with self.assertRaises(NoSuchMoment):
                gate.gateway.ask(moment, Query([0]), 5)
        gate.gateway.put(record("d"))
        # It is not kept in the catalog yet.
        with self.assertRaises(NoSuchMoment):
            gate.gateway.ask(4, Query([0]), 5)
        self.assertEqual(gate.gateway.ask(3, Query([0]), 5)[0], 1)

    def test_kept_after_the_lot_but_not_in_the_catalog(self):
        gate = Gate()
        gate.put("a")
        gate.gateway.put(record("b"))
        gate.gateway.write()
        with self.assertRaises(NoSuchMoment):
            gate.gateway.ask(2, Query([0]), 5)
        gate.settle()
        gate.gateway.ask(2, Query([0]), 5)

    def test_parts_that_are_taken(self):
        number, _ = self.gate.gateway.ask(3, self.query, 5)
        self.assertEqual(self.answer(number, 7, self.part(2, (1, "a"))), [])
        self.assertEqual(self.gate.gateway.queries(), [(1, 3, [2])])
        self.answer(number, 8, self.part(1, (3, "m")))
        self.answer(number, 7, self.part(3, left=(0,)))
        self.assertEqual(self.gate.gateway.queries(), [(1, 3, [2, 1, 3])])
        self.gate.gateway.queries()[0][2].clear()
        self.assertEqual(self.gate.gateway.queries(), [(1, 3, [2, 1, 3])])
        answer = self.gate.gateway.finish(1)
        self.assertEqual(answer, Answer([Hit("a", 1, 0), Hit("m", 3, 0)], 0, False))
        self.assertEqual(self.gate.gateway.queries(), [])
        with self.assertRaises(NoSuchQuery):
            self.gate.gateway.finish(1)

    def test_several_parts_in_one_report(self):
        number, _ = self.gate.gateway.ask(3, self.query, 5)
        self.answer(number, 7, self.part(2), self.part(2, (1, "a")), self.part(2, left=(0,)), self.part(1, (3, "m")), self.part(3, (2, "b")))
        self.assertEqual(self.gate.gateway.queries(), [(1, 3, [2, 3])])
        self.assertEqual(self.gate.gateway.finish(1), Answer([Hit("a", 1, 0), Hit("b", 2, 0)], 0, False))

    def test_parts_that_are_not_taken(self):
        number, _ = self.gate.gateway.ask(3, self.query, 5)
        for shard, part in ((8, self.part(2, (1, "a"))), (9, self.part(2, (1, "a"))), (7, self.part(1, (3, "m"))), (7, self.part(4)), (7, self.part(9)),
                            (7, self.part(2)), (7, self.part(2, (1, "b"))), (7, self.part(2, (1, "a"), left=(1,)))):
            self.answer(number, shard, part)
            self.assertEqual(self.gate.gateway.queries(), [(1, 3, [])])
        # No part of a segment is taken twice.
        self.answer(number, 7, self.part(2, left=(0,)))
        self.answer(number, 7, self.part(2, (1, "a")))
        self.assertEqual(self.gate.gateway.finish(1), Answer([], 0, False))

    def test_the_asked_counts(self):
        number, _ = self.gate.gateway.ask(3, self.query, 5)
        other, _ = self.gate.gateway.ask(3, self.query, 5)
        self.answer(number, 7, self.part(2, (1, "a")), begins=2)
        self.answer(7, 7, self.part(2, (1, "a")))
        self.gate.hear(7, "answer", number, [self.part(2, (1, "a"))])
        self.answer(other, 7, self.part(2, (1, "a")))
        self.assertEqual(self.gate.gateway.queries(), [(1, 3, []), (2, 3, [2])])
        # An answer to a query that is finished.
        self.gate.gateway.finish(other)
        self.answer(other, 7, self.part(3, (2, "b")))
        self.assertEqual(self.gate.gateway.queries(), [(1, 3, [])])

    def test_names_of_segments_are_no_askeds(self):
        self.gate.gateway.ask(3, self.query, 5)
        for kind in ("gone", "needs"):
            self.gate.hear(7, kind, (1, 1))
        self.assertEqual(self.gate.gateway.queries(), [(1, 3, [])])

    def test_parts_by_the_moment_of_the_query(self):
        number, _ = self.gate.gateway.ask(3, self.query, 5)
        self.gate.gateway.drop("a")
        self.gate.keep()
        other, _ = self.gate.gateway.ask(4, self.query, 5)
        for asked in (number, other):
            self.answer(asked, 7, self.part(2))
        self.assertEqual(self.gate.gateway.queries(), [(1, 3, []), (2, 4, [2])])

    def test_parts_that_fit_no_longer(self):
        number, _ = self.gate.gateway.ask(3, self.query, 5)
        self.answer(number, 7, self.part(2, (1, "a")), self.part(3, (2, "b")))
        # Both records move to another segment, and the segments go.
        self.gate.owned(7, (2, 0), (1, "a"), (2, "b"))
        self.assertEqual([title[0] for title in self.gate.catalog.titles], [1, 4])
        self.assertEqual(self.gate.gateway.queries(), [(1, 3, [2, 3])])
        self.assertEqual(self.gate.gateway.finish(1), Answer([], 0, False))

    def test_parts_that_fit_still(self):
        self.gate.gateway.put(record("c"))
        self.gate.keep()
        self.gate.owned(7, (1, 5), (4, "c"))
        self.gate.owned(7, (1, 6), (1, "a"), (4, "c"))
        number, _ = self.gate.gateway.ask(4, self.query, 5)
        self.answer(number, 7, self.part(5, (1, "a"), (4, "c")))
        # c moves on; what is left of the part counts.
        self.gate.owned(7, (1, 7), (4, "c"))
        self.answer(number, 7, self.part(6, (4, "c")), self.part(3, (2, "b")))
        self.answer(number, 8, self.part(1, (3, "m")))
        hits = [Hit("a", 1, 0), Hit("b", 2, 0), Hit("c", 4, 0), Hit("m", 3, 0)]
        self.assertEqual(self.gate.gateway.finish(number), Answer(hits, "none", True))

    def test_the_moment_of_a_query_stays_kept(self):
        number, _ = self.gate.gateway.ask(3, self.query, 5)
        for name in "cdef":
            self.gate.put(name)
        self.gate.gateway.drop("a")
        self.gate.keep()
        self.assertEqual(self.gate.ledger.floor, 3)
        self.answer(number, 7, self.part(2, (1, "a")), self.part(3, (2, "b")))
        self.answer(number, 8, self.part(1, (3, "m")))
        self.assertEqual(self.gate.gateway.finish(number), Answer([Hit("a", 1, 0), Hit("b", 2, 0), Hit("m", 3, 0)], "none", True))

    def test_no_such_query(self):
        for number in (0, 1, -1, 5):
            with self.assertRaises(NoSuchQuery):
                self.gate.gateway.finish(number)


class OtherMessageTest(unittest.TestCase):
    def test_ignored(self):
        gate = Gate()
        gate.put("a")
        gate.gateway.ask(1, Query([0]), 5)
        gate.hear(7, "sealed", (1, 0), 1, (REGIONS,))
        before = catalog_state(gate.catalog), gate.gateway.readings(), gate.gateway.queries(), gate.gateway.wishes
        entry = Entry(1, record("a"), (0,))
        for message in (
            (), ("hello",), ("record", 1, record("a")), ("owner", (1, 0), 1), ("Sealed", (2, 0), 1, (REGIONS,)), (5, 6), (None,), ([],),
            # Of a form that their kind does not have.
            ("sealed",), ("sealed", (2, 0), 1), ("sealed", (2, 0), 1, (REGIONS,), 5), ("sealed", 5, 1, (REGIONS,)), ("sealed", (2,), 1, (REGIONS,)),
            ("sealed", ("a", "b"), 1, (REGIONS,)), ("sealed", (2, 0), "1", (REGIONS,)), ("sealed", (2, 0), 1, 5), ("sealed", (2, 0), 1, (5,)),
            ("sealed", (2, 0), 1, ((5,),)), ("sealed", (2, 0), 1, ((Region(None, []), Region(0, [Norms(0, 1), Fact()])),)), ("piece", (1, 0), (1, 1), 0), ("piece", (1, 0), (1, 1), 0, 5), ("piece", (1, 0), (1, 1), 0, (5,)),
            ("piece", 1, (1, 1), 0, (entry,)), ("gone",), ("gone", 5), ("gone", (1, 0), 5), ("needs",), ("needs", 5), ("needs", (1, 0), 5),
            ("fetched",), ("fetched", 5), ("fetched", (5,)), ("fetched", ((1,),)), ("fetched", (("a", record("a")),)), ("fetched", ((1, 5),)),
            ("fetched", ((1, record("a")),), 5), ("answer", (1, 1)), ("answer", (1, 1), 5), ("answer", (1, 1), (5,)), ("answer", (1, 1), [], 5),
        ):
            self.assertEqual(gate.gateway.hear(7, message), [], message)
            self.assertEqual((catalog_state(gate.catalog), gate.gateway.readings(), gate.gateway.queries(), gate.gateway.wishes), before)

    def test_facts_of_every_class(self):
        gate = Gate()
        facts = [Parts([]), Cell([0], [1]), Box([0], [1]), Norms(0, 1), Differ([0], 1), Range("i", 0, 1), Values("i", []), Counts([]), Names("a", "b")]
        regions = (Region(None, []), Region(0, facts))
        self.assertEqual(gate.hear(7, "sealed", (1, 0), 1, (regions,)), [(7, ("read", (1, 0), (1, 1), 0))])

    def test_reports_and_pairs_may_be_lists_or_tuples(self):
        gate = Gate()
        gate.put("a", "b")
        gate.owned(7, (1, 0), (1, "a"))
        gate.gateway.ask(2, Query([0], most=5), 5)
        gate.hear(7, "answer", (1, 1), (ReportPart(1, 0, (), (1,), (record("a"),)),))
        self.assertEqual(gate.gateway.queries(), [(1, 2, [1])])
        self.assertEqual(gate.hear(7, "fetched", [(2, record("b"))]), [(7, ("record", 2, record("b")))])
        self.assertEqual(gate.hear(7, "sealed", (1, 1), 1, [list(REGIONS)]), [(7, ("read", (1, 1), (1, 2), 0))])
        gate.hear(7, "piece", (1, 1), (1, 2), 0, [Entry(2, record("b"), (0,))])
        self.assertEqual(gate.gateway.wishes, [("own", 7, (1, 1), (REGIONS,), ((2, (0,)),))])


class CrashTest(unittest.TestCase):
    """What was told as an outcome outlives each stop, and what was not told may be there or not."""

    def test_every_cut(self):
        deeds = [("put", record("a")), ("put", record("b")), ("drop", "a"), ("put", record("b", 1))]
        for stop in range(5):
            for done in (False, True):
                for state in range(-1, 3):
                    for size in range(0, 45):
                        gate = Gate()
                        gate.put("z")
                        gate.gateway.put(record("a"))
                        gate.gateway.put(record("b"))
                        gate.gateway.drop("a")
                        gate.gateway.put(record("b", 1))
                        gate.gateway.write()
                        outcomes = []
                        for _ in range(stop):
                            if gate.gateway.want() is not None:
                                outcomes += gate.step()[0] or []
                        if done and gate.gateway.want() is not None:
                            gate.disk.ask(gate.gateway.want())
                        gate.disk.crash([("log 1", state, size + 40)])
                        gate.crash()
                        now = gate.ledger.now
                        self.assertIn(now, [5] if outcomes else range(1, 6))
                        again = Catalog(SCHEMA, KEY, 7)
                        for deed in [("put", record("z")), *deeds][:now]:
                            again.apply(deed)
                        self.assertEqual([(note.name, note.number) for note in gate.ledger.live(now)],
                                         [(note.name, note.number) for note in again.ledger.live(now)])

    def test_built_offers(self):
        """A segment as a store builds it is taken whole."""
        gate = Gate()
        gate.put(*"abcdef")
        offer = build_offer(SCHEMA, [Blocks(2)], ["box", "names"], [(number, record(name)) for number, name in enumerate("abcdef", 1)])
        gate.hear(7, "sealed", (1, 0), 2, offer.partitions)
        gate.hear(7, "piece", (1, 0), (1, 1), 0, offer.entries[:4])
        gate.hear(7, "piece", (1, 0), (1, 1), 1, offer.entries[4:])
        self.assertEqual(gate.keep()[0], [1, 6])
        self.assertEqual([note.leaves for note in gate.ledger.notes], [entry.leaves for entry in offer.entries])


if __name__ == "__main__":
    unittest.main()
