"""Points [56] to [60]: writes, moments, notes, segments and audits."""

import random
import unittest

from surenear.building.build import build_offer
from surenear.building.rules import Blocks, Lists, SortedBlocks
from surenear.errors import InvalidKey, InvalidRecord, NotPinned
from surenear.facts.vectors import Norms
from surenear.ledger.ledger import Ledger
from surenear.ledger.note import Note, Segment
from surenear.records.marks import mark_of
from surenear.records.record import Record
from surenear.records.schema import Schema
from surenear.regions.offer import Entry, Offer
from surenear.regions.region import Region

SCHEMA = Schema(1, fields=[("i", "integer")])
KEY = (17, 4242)


def record(name, place=0):
    return Record(name, [place])


def ledger_with(*names):
    """A ledger that has written a record for each name; the place of its vector is its number."""
    ledger = Ledger(SCHEMA, KEY)
    for number, name in enumerate(names, 1):
        ledger.put(record(name, number))
    return ledger


def offer_of(*pairs, regions=None):
    """An offer with one region (without facts), and an entry for each number and name."""
    entries = [Entry(number, record(name, number), [0]) for number, name in pairs]
    return Offer([[Region(None, [])] if regions is None else regions], entries)


def state(ledger):
    """All fields, copied."""
    return (ledger.schema, ledger.key, ledger.now, ledger.floor, list(ledger.pins), list(ledger.notes),
            list(ledger.segments), ledger.upcoming)


def numbers(notes):
    return [note.number for note in notes]


class BeginTest(unittest.TestCase):
    def test_fields(self):
        key = list(KEY)
        ledger = Ledger(SCHEMA, key)
        key[0] = 5
        self.assertEqual(state(ledger), (SCHEMA, KEY, 0, 0, [], [], [], 1))

    def test_keys(self):
        for key in ((-1, 0), (0, -1), (4294967291, 0), (0, 4294967291), (10 ** 12, -5)):
            with self.assertRaises(InvalidKey):
                Ledger(SCHEMA, key)
        self.assertEqual(Ledger(SCHEMA, (0, 4294967290)).key, (0, 4294967290))

    def test_nothing(self):
        ledger = Ledger(SCHEMA, KEY)
        self.assertEqual((ledger.live(0), ledger.fresh(), ledger.note_of("a"), ledger.segment_of(1), ledger.owned_by(1)),
                         ([], [], None, None, []))
        self.assertEqual([ledger.keeps(moment) for moment in (-1, 0, 1)], [False, True, False])


class WriteTest(unittest.TestCase):
    def test_put(self):
        ledger = Ledger(SCHEMA, KEY)
        self.assertEqual([ledger.put(record("b", 5)), ledger.put(record("a", 6))], [1, 2])
        self.assertEqual(ledger.now, 2)
        self.assertEqual(ledger.notes, [
            Note("b", 1, mark_of(KEY, 1, record("b", 5)), record=record("b", 5)),
            Note("a", 2, mark_of(KEY, 2, record("a", 6)), record=record("a", 6)),
        ])
        self.assertEqual(ledger.note_of("b"), ledger.notes[0])
        self.assertEqual(ledger.fresh(), ledger.notes)

    def test_put_again(self):
        ledger = ledger_with("a", "b", "a")
        self.assertEqual([(note.name, note.number, note.died) for note in ledger.notes], [("a", 1, 3), ("b", 2, None), ("a", 3, None)])
        self.assertEqual(ledger.note_of("a").number, 3)
        # The same record again is another write.
        ledger.put(record("a", 3))
        self.assertEqual([note.died for note in ledger.notes], [3, None, 4, None])

    def test_drop(self):
        ledger = ledger_with("a", "b")
        self.assertEqual(ledger.drop("a"), 3)
        self.assertEqual((ledger.now, ledger.note_of("a")), (3, None))
        self.assertEqual([note.died for note in ledger.notes], [3, None])
        before = state(ledger)
        for name in ("a", "c", ""):
            self.assertIsNone(ledger.drop(name))
            self.assertEqual(state(ledger), before)
        self.assertEqual(ledger.put(record("a")), 4)
        self.assertEqual(ledger.drop("a"), 5)
        self.assertEqual([(note.number, note.died) for note in ledger.notes], [(1, 3), (2, None), (4, 5)])

    def test_a_record_not_of_the_schema(self):
        ledger = ledger_with("a")
        before = state(ledger)
        for wrong in (Record("", [0]), Record("a", []), Record("a", [200]), Record("a", [0], fields=[("x", 1)]),
                      Record("a", [0], fields=[("i", True)]), Record("a", [0], words=[("w", 0)])):
            with self.assertRaises(InvalidRecord):
                ledger.put(wrong)
            self.assertEqual(state(ledger), before)

    def test_live(self):
        ledger = ledger_with("a", "b", "a")
        ledger.drop("b")
        self.assertEqual([numbers(ledger.live(moment)) for moment in range(5)], [[], [1], [1, 2], [2, 3], [3]])

    def test_lists_are_not_changed(self):
        ledger = ledger_with("a", "b")
        kept = []
        for change in (lambda: ledger.put(record("a", 3)), lambda: ledger.drop("b"), lambda: ledger.pin(), lambda: ledger.pin(),
                       lambda: ledger.audit(1, offer_of((1, "a"), (3, "a"))), lambda: ledger.unpin(4), lambda: ledger.lift(9),
                       lambda: ledger.unpin(4), lambda: ledger.drop("a"), lambda: ledger.lift(9)):
            kept.append((ledger.pins, ledger.notes, ledger.segments, state(ledger)))
            change()
        for pins, notes, segments, before in kept:
            self.assertEqual((pins, notes, segments), before[4:7])

    def test_returned_lists_are_new(self):
        ledger = ledger_with("a", "b")
        ledger.audit(1, offer_of((1, "a")))
        before = state(ledger)
        for told in (ledger.live(2), ledger.fresh(), ledger.owned_by(1)):
            self.assertIs(type(told), list)
            told.clear()
        self.assertEqual(state(ledger), before)
        self.assertEqual((numbers(ledger.live(2)), numbers(ledger.fresh()), numbers(ledger.owned_by(1))), ([1, 2], [2], [1]))


class MomentTest(unittest.TestCase):
    def test_floor(self):
        ledger = ledger_with("a", "b", "c")
        self.assertEqual([ledger.keeps(moment) for moment in range(-1, 5)], [False, True, True, True, True, False])
        self.assertEqual(ledger.lift(2), 2)
        self.assertEqual([ledger.keeps(moment) for moment in range(-1, 5)], [False, False, False, True, True, False])
        self.assertEqual([ledger.lift(moment) for moment in (1, -5, 2, 3, 2)], [2, 2, 2, 3, 3])
        self.assertEqual([ledger.lift(4), ledger.floor, ledger.now], [3, 3, 3])

    def test_pins(self):
        ledger = ledger_with("a")
        self.assertEqual([ledger.pin(), ledger.pin()], [1, 1])
        ledger.put(record("b"))
        self.assertEqual((ledger.pin(), ledger.pins), (2, [1, 1, 2]))
        ledger.put(record("c"))
        ledger.lift(3)
        self.assertEqual([ledger.keeps(moment) for moment in range(5)], [False, True, True, True, False])
        self.assertIsNone(ledger.unpin(1))
        self.assertEqual((ledger.pins, ledger.keeps(1)), ([1, 2], True))
        ledger.unpin(1)
        self.assertEqual((ledger.pins, ledger.keeps(1)), ([2], False))

    def test_the_first_pin_of_the_moment_goes(self):
        ledger = Ledger(SCHEMA, KEY)
        for name in ("a", "b"):
            ledger.pin()
            ledger.put(record(name))
            ledger.pin()
        self.assertEqual(ledger.pins, [0, 1, 1, 2])
        ledger.unpin(1)
        self.assertEqual(ledger.pins, [0, 1, 2])
        ledger.unpin(0)
        self.assertEqual(ledger.pins, [1, 2])

    def test_not_pinned(self):
        ledger = ledger_with("a")
        ledger.pin()
        ledger.put(record("b"))
        before = state(ledger)
        for moment in (0, 2, -1, 5):
            with self.assertRaises(NotPinned):
                ledger.unpin(moment)
            self.assertEqual(state(ledger), before)
        ledger.unpin(1)
        with self.assertRaises(NotPinned):
            ledger.unpin(1)

    def test_moment_0(self):
        ledger = Ledger(SCHEMA, KEY)
        self.assertEqual(ledger.pin(), 0)
        ledger.put(record("a"))
        ledger.lift(1)
        self.assertTrue(ledger.keeps(0))
        self.assertEqual(ledger.live(0), [])
        ledger.unpin(0)
        self.assertFalse(ledger.keeps(0))


class SweepTest(unittest.TestCase):
    def test_lift(self):
        ledger = ledger_with("a", "a", "a")
        self.assertEqual(numbers(ledger.notes), [1, 2, 3])
        for moment, left in ((1, [1, 2, 3]), (2, [2, 3]), (3, [3])):
            ledger.lift(moment)
            self.assertEqual(numbers(ledger.notes), left)

    def test_a_pin_keeps_what_exists_at_its_moment(self):
        ledger = ledger_with("a", "b", "a")
        ledger.pin()
        ledger.put(record("b"))
        ledger.drop("a")
        ledger.put(record("c"))
        ledger.lift(6)
        self.assertEqual([(note.number, note.died) for note in ledger.notes], [(2, 4), (3, 5), (4, None), (6, None)])
        ledger.pin()
        ledger.unpin(3)
        self.assertEqual(numbers(ledger.notes), [4, 6])

    def test_a_note_dies_at_the_floor(self):
        ledger = ledger_with("a")
        ledger.lift(1)
        ledger.drop("a")
        # It still exists at moment 1, which is kept.
        self.assertEqual(numbers(ledger.notes), [1])
        ledger.lift(2)
        self.assertEqual(ledger.notes, [])

    def test_segments_that_own_nothing_go(self):
        ledger = ledger_with("a", "b")
        ledger.audit(7, offer_of((1, "a")))
        ledger.audit(8, offer_of((2, "b")))
        ledger.drop("a")
        self.assertEqual([segment.number for segment in ledger.segments], [1, 2])
        ledger.lift(3)
        self.assertEqual([segment.number for segment in ledger.segments], [2])
        self.assertIsNone(ledger.segment_of(1))
        ledger.pin()
        ledger.drop("b")
        ledger.lift(4)
        self.assertEqual([segment.number for segment in ledger.segments], [2])
        ledger.unpin(3)
        self.assertEqual((ledger.segments, ledger.upcoming), ([], 3))

    def test_a_segment_whose_notes_move_goes(self):
        ledger = ledger_with("a", "b")
        ledger.audit(7, offer_of((1, "a"), (2, "b")))
        ledger.audit(7, offer_of((2, "b")))
        self.assertEqual([segment.number for segment in ledger.segments], [1, 2])
        ledger.audit(7, offer_of((1, "a")))
        self.assertEqual([segment.number for segment in ledger.segments], [2, 3])


class AuditTest(unittest.TestCase):
    REGIONS = (Region(None, [Norms(0, 100)]), Region(0, [Norms(0, 8)]), Region(0, [Norms(9, 9)]), Region(0, []))

    def test_owned(self):
        ledger = ledger_with("a", "b", "c")
        offer = Offer([self.REGIONS, [Region(None, []), Region(None, [])]],
                      [Entry(3, record("c", 3), [2, 1]), Entry(1, record("a", 1), [1, 0])])
        self.assertEqual(ledger.audit(7, offer), 1)
        self.assertEqual(ledger.segments, [Segment(1, 7, offer.partitions)])
        self.assertEqual(ledger.segment_of(1), Segment(1, 7, offer.partitions))
        self.assertEqual(ledger.notes, [
            Note("a", 1, mark_of(KEY, 1, record("a", 1)), segment=1, leaves=(1, 0)),
            Note("b", 2, mark_of(KEY, 2, record("b", 2)), record=record("b", 2)),
            Note("c", 3, mark_of(KEY, 3, record("c", 3)), segment=1, leaves=(2, 1)),
        ])
        self.assertEqual((numbers(ledger.owned_by(1)), numbers(ledger.fresh())), ([1, 3], [2]))
        self.assertEqual((ledger.now, ledger.upcoming), (3, 2))

    def test_entries_that_match_nothing_count_for_nothing(self):
        ledger = ledger_with("a", "b")
        entries = [
            # Another vector, name, number, a write that never was; none of their facts hold.
            Entry(1, record("a", 4), [1]), Entry(2, record("a", 2), [2]), Entry(9, record("b", 2), [1]),
            Entry(0, record("a", 1), [1]), Entry(-1, record("a", 1), [1]),
        ]
        self.assertTrue(ledger.would_take(Offer([self.REGIONS], entries)))
        self.assertEqual(ledger.audit(7, Offer([self.REGIONS], entries)), 1)
        self.assertEqual((ledger.segments, ledger.upcoming, numbers(ledger.fresh())), ([], 2, [1, 2]))
        entries = entries[1:] + [Entry(1, record("a", 1), [3])]
        self.assertEqual(ledger.audit(7, Offer([self.REGIONS], entries)), 2)
        self.assertEqual((numbers(ledger.owned_by(2)), numbers(ledger.fresh())), ([1], [2]))

    def test_unsound_offers(self):
        ledger = ledger_with("a", "b")
        before = state(ledger)
        entry = Entry(1, record("a", 1), [0])
        for offer in (Offer([], []), Offer([[Region(0, [])]], []), Offer([[Region(None, [])]], [entry, entry]),
                      Offer([[Region(None, [])]], [Entry(1, record("a", 1), [1])]), Offer([[Region(None, [])]], [Entry(1, record("a", 1), [])]),
                      Offer([[Region(None, [])]], [entry, Entry(5, record("x", 1), [0, 0])])):
            self.assertIs(ledger.would_take(offer), False)
            self.assertIsNone(ledger.audit(7, offer))
            self.assertEqual(state(ledger), before)

    def test_a_fact_that_does_not_hold(self):
        for leaf, taken in ((0, True), (1, True), (2, False), (3, True)):
            ledger = ledger_with("a", "b")
            before = state(ledger)
            offer = Offer([self.REGIONS], [Entry(2, record("b", 2), [0]), Entry(1, record("a", 1), [leaf])])
            self.assertIs(ledger.would_take(offer), taken)
            self.assertEqual(state(ledger), before)
            self.assertEqual(ledger.audit(7, offer), 1 if taken else None)
            if not taken:
                self.assertEqual(state(ledger), before)

    def test_a_fact_above_the_leaf_that_does_not_hold(self):
        regions = [Region(None, [Norms(5, 9)]), Region(0, []), Region(1, [Norms(0, 9)])]
        for leaf in (0, 1, 2):
            self.assertFalse(ledger_with("a").would_take(Offer([regions], [Entry(1, record("a", 1), [leaf])])))
        # A fact that does not hold below the leaf does not matter.
        regions = [Region(None, [Norms(0, 9)]), Region(0, [Norms(5, 9)])]
        self.assertTrue(ledger_with("a").would_take(Offer([regions], [Entry(1, record("a", 1), [0])])))

    def test_a_fact_in_any_partition(self):
        good, bad = [Region(None, [Norms(0, 9)])], [Region(None, []), Region(None, [Norms(5, 9)])]
        for partitions, leaves, taken in (([good, bad], (0, 0), True), ([good, bad], (0, 1), False), ([bad, good], (1, 0), False),
                                          ([bad, good, bad], (0, 0, 1), False), ([bad, good, bad], (0, 0, 0), True)):
            self.assertIs(ledger_with("a").would_take(Offer(partitions, [Entry(1, record("a", 1), leaves)])), taken)

    def test_without_entries(self):
        ledger = ledger_with("a")
        for offer in (Offer([[]], []), Offer([[Region(None, [])]], [])):
            self.assertTrue(ledger.would_take(offer))
        self.assertEqual([ledger.audit(7, Offer([[]], [])), ledger.audit(7, offer_of((1, "a")))], [1, 2])
        self.assertEqual([segment.number for segment in ledger.segments], [2])

    def test_notes_of_another_segment_are_taken_over(self):
        ledger = ledger_with("a", "b", "c")
        ledger.audit(7, offer_of((1, "a"), (2, "b")))
        ledger.audit(8, Offer([[Region(None, [])], self.REGIONS], [Entry(2, record("b", 2), [0, 3]), Entry(3, record("c", 3), [0, 2])]))
        self.assertEqual([(note.segment, note.leaves) for note in ledger.notes], [(1, (0,)), (2, (0, 3)), (2, (0, 2))])
        self.assertEqual([(segment.number, segment.shard) for segment in ledger.segments], [(1, 7), (2, 8)])

    def test_notes_that_ended(self):
        ledger = ledger_with("a", "a")
        self.assertEqual(ledger.audit(7, offer_of((1, "a"))), 1)
        self.assertEqual(ledger.notes[0], Note("a", 1, mark_of(KEY, 1, record("a", 1)), died=2, segment=1, leaves=(0,)))
        # An owned note that ends keeps its home.
        ledger.audit(7, offer_of((2, "a")))
        ledger.drop("a")
        self.assertEqual(ledger.notes[1], Note("a", 2, mark_of(KEY, 2, record("a", 2)), died=3, segment=2, leaves=(0,)))


class OwnTest(unittest.TestCase):
    REGIONS = (Region(None, [Norms(50, 60)]), Region(0, []))

    def test_own(self):
        ledger = ledger_with("a", "b", "c")
        homes = [(3, (1,)), (1, (0,)), (9, (1,)), (0, (0,))]
        self.assertEqual(ledger.own(7, (self.REGIONS,), homes), 1)
        self.assertEqual(homes, [(3, (1,)), (1, (0,)), (9, (1,)), (0, (0,))])
        # Nothing is checked.
        self.assertEqual([(note.segment, note.leaves, note.record) for note in ledger.notes],
                         [(1, (0,), None), (None, (), record("b", 2)), (1, (1,), None)])
        self.assertEqual(ledger.segments, [Segment(1, 7, [self.REGIONS])])

    def test_own_nothing(self):
        ledger = ledger_with("a")
        for number, homes in enumerate(([], [(5, (0,))]), 1):
            self.assertEqual(ledger.own(7, (self.REGIONS,), homes), number)
            self.assertEqual((ledger.segments, ledger.upcoming, numbers(ledger.fresh())), ([], number + 1, [1]))

    def test_own_what_another_owns(self):
        ledger = ledger_with("a", "b")
        ledger.own(7, (self.REGIONS,), [(1, (0,)), (2, (0,))])
        ledger.own(8, (self.REGIONS,), [(1, (1,)), (2, (1,))])
        self.assertEqual([(segment.number, segment.shard) for segment in ledger.segments], [(2, 8)])
        self.assertEqual([(note.segment, note.leaves) for note in ledger.notes], [(2, (1,)), (2, (1,))])


class TwinTest(unittest.TestCase):
    def test_twin(self):
        ledger = ledger_with("a", "b", "a")
        ledger.audit(7, offer_of((2, "b")))
        ledger.pin()
        ledger.lift(2)
        twin = ledger.twin()
        self.assertEqual(state(twin), state(ledger))
        self.assertEqual(twin.key, KEY)
        for one, other in ((ledger, twin), (twin, ledger)):
            before = state(other)
            one.put(record("z"))
            one.drop("b")
            one.pin()
            one.unpin(3)
            one.audit(7, offer_of((3, "a")))
            one.lift(99)
            one.pins.append(77)
            one.notes.clear()
            one.segments.clear()
            self.assertEqual(state(other), before)


class PlainLedger:
    """What exists when, from the list of all writes alone."""

    def __init__(self):
        self.writes, self.pins, self.floor = [], [], 0

    def current(self, name):
        found = [number for number, (written, _) in enumerate(self.writes, 1) if written == name]
        return found[-1] if found and self.writes[found[-1] - 1][1] is not None else None

    def exists(self, number, moment):
        name, told = self.writes[number - 1]
        later = [k for k in range(number + 1, moment + 1) if self.writes[k - 1][0] == name]
        return told is not None and number <= moment and not later

    def live(self, moment):
        return [number for number in range(1, len(self.writes) + 1) if self.exists(number, moment)]

    def kept(self):
        return [moment for moment in range(len(self.writes) + 1) if moment in self.pins or moment >= self.floor]

    def noted(self):
        return sorted({number for moment in self.kept() for number in self.live(moment)})


class ManyTest(unittest.TestCase):
    RULES = (Blocks(2), SortedBlocks("i", 2), Lists(2, rounds=1, size=2))

    def test_like_a_plain_ledger(self):
        rng = random.Random(56)
        for _ in range(60):
            ledger, plain, homes = Ledger(SCHEMA, KEY), PlainLedger(), {}
            for _ in range(rng.randint(0, 40)):
                self.change(rng, ledger, plain, homes)
                self.check(ledger, plain, homes)

    def change(self, rng, ledger, plain, homes):
        word, name = rng.choice(("put", "put", "put", "drop", "pin", "unpin", "lift", "audit")), rng.choice("abcd")
        if word == "put":
            told = record(name, rng.randint(-5, 5))
            plain.writes.append((name, told))
            self.assertEqual(ledger.put(told), len(plain.writes))
        elif word == "drop":
            had = plain.current(name)
            if had is not None:
                plain.writes.append((name, None))
            self.assertEqual(ledger.drop(name), None if had is None else len(plain.writes))
        elif word == "pin":
            plain.pins.append(len(plain.writes))
            self.assertEqual(ledger.pin(), len(plain.writes))
        elif word == "unpin" and plain.pins:
            moment = rng.choice(plain.pins)
            plain.pins.remove(moment)
            ledger.unpin(moment)
        elif word == "lift":
            moment = rng.randint(0, len(plain.writes) + 2)
            plain.floor = max(plain.floor, min(moment, len(plain.writes)))
            self.assertEqual(ledger.lift(moment), plain.floor)
        elif word == "audit":
            told = [(number, written[1]) for number, written in enumerate(plain.writes, 1) if written[1] is not None and rng.random() < 0.4]
            offer = build_offer(SCHEMA, [rng.choice(self.RULES), Blocks(3)], ["norms", "fields"], told)
            number = ledger.upcoming
            self.assertEqual(ledger.audit(7, offer), number)
            homes.update({entry.number: (number, entry.leaves) for entry in offer.entries})

    def check(self, ledger, plain, homes):
        self.assertEqual(ledger.now, len(plain.writes))
        for moment in range(-1, ledger.now + 2):
            self.assertIs(ledger.keeps(moment), moment in plain.kept())
        self.assertEqual(numbers(ledger.notes), plain.noted())
        for moment in plain.kept():
            self.assertEqual(numbers(ledger.live(moment)), plain.live(moment))
        for note in ledger.notes:
            self.assertEqual((note.segment, note.leaves), homes.get(note.number, (None, ())))
            self.assertEqual(note.record, None if note.number in homes else plain.writes[note.number - 1][1])
            later = [k for k in range(note.number + 1, ledger.now + 1) if plain.writes[k - 1][0] == note.name]
            self.assertEqual(note.died, later[0] if later else None)
        owners = sorted({note.segment for note in ledger.notes if note.segment is not None})
        self.assertEqual([segment.number for segment in ledger.segments], owners)
        for name in "abcde":
            found = ledger.note_of(name)
            self.assertEqual(None if found is None else found.number, plain.current(name))


if __name__ == "__main__":
    unittest.main()
